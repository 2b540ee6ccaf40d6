/-
  Numbers and tables read from texts, in the model.
-/
import Derived.Test.YthbebgnjidaokaaCutT
import Derived.Test.YthbebgnjidaokaaTbl
namespace Go.Proofs.Ythbebgnjidaokaa
open Go.RowKit Fl

theorem cutL_short (c : UInt8) (l : Tx.Bs) : ∀ x ∈ Tx.cutL c l, x.length ≤ l.length := by
  induction l with
  | nil => intro x hx; simp [Tx.cutL] at hx; subst hx; exact Nat.le_refl _
  | cons b r ih =>
    intro x hx
    unfold Tx.cutL at hx
    split at hx
    · rcases List.mem_cons.1 hx with rfl | hx
      · simp
      · have := ih x hx
        simp
        omega
    · split at hx
      · rename_i y ys hc
        rcases List.mem_cons.1 hx with rfl | hx
        · have := ih y (by rw [hc]; exact List.mem_cons_self ..)
          simp
          omega
        · have := ih x (by rw [hc]; exact List.mem_cons_of_mem _ hx)
          simp
          omega
      · simp at hx
        subst hx
        simp
theorem piece_short {c : UInt8} {s : ByteArray} {ps : List ByteArray} (h : ps.map byt = Tx.cutL c (byt s)) {p : ByteArray} (hp : p ∈ ps) : p.size ≤ s.size := by
  rw [← byt_len, ← byt_len]
  exact cutL_short c _ _ (by rw [← h]; exact List.mem_map_of_mem hp)

theorem milliV_in {p q : Int} (hp : -9999999 ≤ p ∧ p ≤ 9999999) (hq : -9999999 ≤ q ∧ q ≤ 9999999) : milliV p q = .complex .f32 (milliB p) (milliB q) := by
  unfold milliV
  rw [okM_iff.2 hp, okM_iff.2 hq]
  rfl

end Go.Proofs.Ythbebgnjidaokaa
