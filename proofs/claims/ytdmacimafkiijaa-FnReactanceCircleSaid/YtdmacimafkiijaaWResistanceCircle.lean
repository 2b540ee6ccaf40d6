/-
  The walk of FnResistanceCircle: it answers true.
-/
import Derived.Test.YtdmacimafkiijaaImpl4
namespace Go.Proofs.Ytdmacimafkiijaa
open Go.RowKit Fl

theorem below_allocS6 {w w1 : World} {o : Obj} (h : Below w.heap.size w w1) : Below w.heap.size w (w1.alloc o) := h.alloc h.size o

theorem rd_cases {m : Int} (h : RD m) : resV m = .tuple #[cirV 0 0 0, .bool false] ∨ (0 ≤ m ∧ m ≤ 50000 ∧ rcheck m = true) := by
  rcases h with ⟨k, hk, rfl⟩ | rfl | rfl | rfl
  · exact .inr ⟨by omega, by omega, rtable.1 ⟨k, hk⟩⟩
  · exact .inr ⟨by omega, by omega, rtable.2⟩
  · exact .inl rfl
  · exact .inl rfl
theorem resV_told {m : Int} (h0 : 0 ≤ m) (h1 : m ≤ 9999999) : resV m = .tuple #[cirV (cM m) 0 (cR m), .bool true] := by
  unfold resV
  rw [decide_eq_true h0, decide_eq_true h1]
  rfl

end Go.Proofs.Ytdmacimafkiijaa
