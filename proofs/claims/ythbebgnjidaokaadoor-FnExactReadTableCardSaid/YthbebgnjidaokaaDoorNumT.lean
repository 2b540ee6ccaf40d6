/-
  The text of a number, in the model.
-/
import Derived.Test.YthbebgnjidaokaaDoorTxt2
import Derived.Test.YthbebgnjidaokaaDoorC3
import Derived.Deep.RegionHeld3
import Derived.Test.YthbebgnjidaokaaDoorMo
namespace Go.Proofs.YthbebgnjidaokaaDoor
open Go.RowKit Fl

/-- A text of these bytes. -/
def txt (l : Tx.Bs) : ByteArray := ⟨l.toArray⟩
theorem txt_app (a b : Tx.Bs) : txt a ++ txt b = txt (a ++ b) := ByteArray.mk_append_mk a b
theorem txt_size (l : Tx.Bs) : (txt l).size = l.length := by
  show l.toArray.size = l.length
  simp

theorem nDig_le {u : Nat} (h : u ≤ 1000000000) : Lib.nDigits u ≤ 11 := by
  by_cases h10 : u < 10
  · rw [Lib.nDigits_small h10]; decide
  · have hp := Tx.pow_le_n u (by omega)
    rcases Nat.lt_or_ge 11 (Lib.nDigits u) with h1 | h1
    · exfalso
      have : 10 ^ 11 ≤ 10 ^ (Lib.nDigits u - 1) := Nat.pow_le_pow_right (by decide) (by omega)
      omega
    · exact h1

theorem conv_one (n : Int) (h0 : 0 ≤ n) (h1 : n < 10) (w : World) (T : TypeId) : (convert 79 9 (.slice (some ⟨w.heap.size, 0, none⟩) 1 1)).run Tryd.prog (w.alloc (.cells #[.int .u8 (48 + n)] T)) =
    .ok (.string (txt [UInt8.ofNat (48 + n).toNat])) (w.alloc (.cells #[.int .u8 (48 + n)] T)) := by
  refine run_convert_bytes_back (w.alloc (.cells #[.int .u8 (48 + n)] T)) 79 9 5 ⟨w.heap.size, 0, none⟩ 1 [UInt8.ofNat (48 + n).toNat] Tryd.underlying79 Tryd.underlying5 Tryd.underlying9 ?_
  intro j hj
  have hj0 : j = 0 := by simpa using hj
  subst hj0
  have e : ((UInt8.ofNat (48 + n).toNat).toNat : Int) = 48 + n := by
    rw [UInt8.toNat_ofNat']
    omega
  simp only [List.getElem_cons_zero, e]
  have hh := heap_alloc_new w (.cells #[.int .u8 (48 + n)] T)
  simp [World.cell?, Addr.add] at hh ⊢
  rw [hh]
  rfl

theorem conv_at {n : Int} (h0 : 0 ≤ n) (h1 : n < 10) {v : World} {g : Nat} {T : TypeId} (_hg : g < v.heap.size) (H : v.heap[g]? = some (.cells #[.int .u8 (48 + n)] T)) : (convert 79 9 (.slice (some ⟨g, 0, none⟩) 1 1)).run Tryd.prog v = .ok (.string (txt [UInt8.ofNat (48 + n).toNat])) v := by
  refine run_convert_bytes_back v 79 9 5 ⟨g, 0, none⟩ 1 [UInt8.ofNat (48 + n).toNat] Tryd.underlying79 Tryd.underlying5 Tryd.underlying9 ?_
  intro j hj
  have hj0 : j = 0 := by simpa using hj
  subst hj0
  have e : ((UInt8.ofNat (48 + n).toNat).toNat : Int) = 48 + n := by
    rw [UInt8.toNat_ofNat']
    omega
  simp only [List.getElem_cons_zero, e]
  simp [World.cell?, Addr.add]
  rw [H]
  rfl

/-- The text of a number in thousandths, in the model. -/
def mI (a b : Nat) : Option Tx.Cn := if fin .f32 a && fin .f32 b && okK a && okK b then some (sK a, sK b) else none

end Go.Proofs.YthbebgnjidaokaaDoor
