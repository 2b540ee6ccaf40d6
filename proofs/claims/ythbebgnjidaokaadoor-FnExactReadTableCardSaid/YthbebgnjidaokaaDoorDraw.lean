/-
  The reader that the draws go through: what each of its steps comes to. Nothing but the reader's own block is written.
-/
import Derived.Test.YthbebgnjidaokaaDoorNum
import Derived.Below
import Derived.IntWalk
import Derived.Deep.QuietTactic
import Derived.BigQuiet
import Derived.Lib.BufferOwn
namespace Go.Proofs.YthbebgnjidaokaaDoor
open Go.RowKit Fl

/-- The reader lies at block b: it reads these bytes, and has drawn k times. -/
structure Rd (w : World) (b : Nat) (a : Option Addr) (len cap k : Nat) : Prop where
  blk : ∃ T, w.heap[b]? = some (.cells #[.slice a len cap, .int .i64 k] T (0, 0))
  lim : len ≤ 2000
  data : ∀ i, i < len → ∃ (ab off : Nat) (x : Int), a = some ⟨ab, off, none⟩ ∧ ab < b ∧ 0 ≤ x ∧ x < 256 ∧ w.cell? ⟨ab, off + i, none⟩ = some (.int .u8 x)

theorem Rd.c0 {w : World} {b : Nat} {a : Option Addr} {len cap k : Nat} (h : Rd w b a len cap k) : w.cell? ⟨b, 0, none⟩ = some (.slice a len cap) := by
  obtain ⟨T, hb⟩ := h.blk
  simp [World.cell?, hb]
theorem Rd.c1 {w : World} {b : Nat} {a : Option Addr} {len cap k : Nat} (h : Rd w b a len cap k) : w.cell? ⟨b, 1, none⟩ = some (.int .i64 k) := by
  obtain ⟨T, hb⟩ := h.blk
  simp [World.cell?, hb]
theorem Rd.f1 {w : World} {b : Nat} {a : Option Addr} {len cap k : Nat} (h : Rd w b a len cap k) : w.frozen? ⟨b, 1, none⟩ = false := by
  obtain ⟨T, hb⟩ := h.blk
  simp [World.frozen?, hb]
theorem Rd.lt {w : World} {b : Nat} {a : Option Addr} {len cap k : Nat} (h : Rd w b a len cap k) : b < w.heap.size := by
  obtain ⟨T, hb⟩ := h.blk
  exact (Array.getElem?_eq_some_iff.1 hb).1

/-- One draw more. -/
theorem Rd.step {w : World} {b : Nat} {a : Option Addr} {len cap k : Nat} (h : Rd w b a len cap k) (m : Nat) : Rd ((w.setCell ⟨b, 1, none⟩ (.int .i64 (k + 1 : Nat))).drewN m) b a len cap (k + 1) := by
  obtain ⟨T, hb⟩ := h.blk
  refine ⟨⟨T, ?_⟩, h.lim, ?_⟩
  · rw [World.heap_drewN]
    simp only [World.setCell, Array.getElem?_modify, if_true, hb, Option.map_some]
    simp
  · intro i hi
    obtain ⟨ab, off, x, h1, h2, h3, h4, h5⟩ := h.data i hi
    refine ⟨ab, off, x, h1, h2, h3, h4, ?_⟩
    rw [World.cell?_drewN, World.cell?_setCell_other (h := by intro he; injection he; omega)]
    exact h5

theorem xor_nonneg {a b : Int} (h1 : 0 ≤ a) (h2 : a < 2 ^ 62) (h3 : 0 ≤ b) (h4 : b < 2 ^ 62) : 0 ≤ bits .xor .i64 a b ∧ bits .xor .i64 a b < 2 ^ 62 := by
  obtain ⟨n, rfl⟩ := Int.eq_ofNat_of_zero_le h1
  obtain ⟨m, rfl⟩ := Int.eq_ofNat_of_zero_le h3
  have hx : n ^^^ m < 2 ^ 62 := Nat.xor_lt_two_pow (by omega) (by omega)
  have e : bits .xor .i64 (n : Int) (m : Int) = IntKind.i64.wrap ((n ^^^ m : Nat) : Int) := by
    show IntKind.i64.wrap ((BitVec.ofInt 64 (n : Int) ^^^ BitVec.ofInt 64 (m : Int)).toNat : Int) = _
    rw [BitVec.toNat_xor, BitVec.toNat_ofInt, BitVec.toNat_ofInt]
    congr 2
    rw [Int.emod_eq_of_lt (by omega) (by omega), Int.emod_eq_of_lt (by omega) (by omega)]
    simp
  rw [e, IntWalk.i64_in _ (by omega)]
  omega

/-- The mixture is not negative, and its remainder a number that may be drawn. -/
theorem mixed_ok {x y k len n : Int} (x0 : 0 ≤ x) (x1 : x < 256) (y0 : 0 ≤ y) (y1 : y < 256) (k0 : 0 ≤ k) (k1 : k < 1000000) (l0 : 0 < len) (n0 : 1 ≤ n) :
    0 ≤ (bits .xor .i64 (wrap64 (x * 131 + y * 1117 + k * 29 + wrap64 (wrap64 (k / len) * 53))) (wrap64 ((wrap64 (x * 131 + y * 1117 + k * 29 + wrap64 (wrap64 (k / len) * 53))).tdiv 64))).tmod n ∧
    (bits .xor .i64 (wrap64 (x * 131 + y * 1117 + k * 29 + wrap64 (wrap64 (k / len) * 53))) (wrap64 ((wrap64 (x * 131 + y * 1117 + k * 29 + wrap64 (wrap64 (k / len) * 53))).tdiv 64))).tmod n < n := by
  have d0 : 0 ≤ k / len := Int.ediv_nonneg (by omega) (by omega)
  have d1 : k / len ≤ k := Int.ediv_le_self _ (by omega)
  have w : ∀ z : Int, 0 ≤ z → z < 1000000000000 → wrap64 z = z := fun z h1 h2 => by unfold wrap64; omega
  rw [w (k / len) d0 (by omega), w (k / len * 53) (by omega) (by omega), w (x * 131 + y * 1117 + k * 29 + k / len * 53) (by omega) (by omega)]
  generalize hA : x * 131 + y * 1117 + k * 29 + k / len * 53 = A
  have a0 : 0 ≤ A := by omega
  have a1 : A < 1000000000000 := by omega
  rw [Int.tdiv_eq_ediv_of_nonneg a0, w (A / 64) (by omega) (by omega)]
  obtain ⟨b0, b1⟩ := xor_nonneg a0 (by omega) (show 0 ≤ A / 64 by omega) (by omega)
  rw [Int.tmod_eq_emod_of_nonneg b0]
  exact ⟨Int.emod_nonneg _ (by omega), Int.emod_lt_of_pos _ (by omega)⟩

/-- What a draw of a number leaves. -/
def Picked (n : Int) (b : Nat) (k : Nat) (w : World) (e : Ending) (w' : World) : Prop :=
  ∃ (x : Int) (m : Nat), 0 ≤ x ∧ x < n ∧ e = .returned (.int .i64 x) ∧ w' = (w.setCell ⟨b, 1, none⟩ (.int .i64 (k + 1 : Nat))).drewN m

theorem Rd.alloc {w : World} {b : Nat} {a : Option Addr} {len cap k : Nat} (h : Rd w b a len cap k) (o : Obj) : Rd (w.alloc o) b a len cap k := by
  have hlt := h.lt
  obtain ⟨T, hb⟩ := h.blk
  refine ⟨⟨T, by rw [Below.heap_alloc _ _ _ hlt]; exact hb⟩, h.lim, ?_⟩
  intro i hi
  obtain ⟨ab, off, x, h1, h2, h3, h4, h5⟩ := h.data i hi
  refine ⟨ab, off, x, h1, h2, h3, h4, ?_⟩
  rw [World.cell?_of_block (w := w) (Below.heap_alloc _ _ _ (show ab < w.heap.size by omega))]
  exact h5

theorem Rd.drewN {w : World} {b : Nat} {a : Option Addr} {len cap k : Nat} (h : Rd w b a len cap k) (n : Nat) : Rd (w.drewN n) b a len cap k := ⟨h.blk, h.lim, h.data⟩

/-- What a draw leaves: a value of which P holds; only the reader's block is written. -/
def Drawn (P : Value → Prop) (b : Nat) (a : Option Addr) (len cap k most : Nat) (w : World) (e : Ending) (w' : World) : Prop :=
  ∃ (v : Value) (k' : Nat), P v ∧ e = .returned v ∧ k' ≤ k + most ∧ Rd w' b a len cap k' ∧ w.grownBy w' (some b)

theorem grown_refl (w : World) (row : Option Nat) : w.grownBy w row := ⟨rfl, rfl, rfl, Nat.le_refl _, fun _ _ _ => rfl⟩
theorem grown_drewN {a w : World} {row : Option Nat} (h : a.grownBy w row) (n : Nat) : a.grownBy (w.drewN n) row := ⟨h.os, h.tape, h.output, h.size, h.block⟩

end Go.Proofs.YthbebgnjidaokaaDoor
