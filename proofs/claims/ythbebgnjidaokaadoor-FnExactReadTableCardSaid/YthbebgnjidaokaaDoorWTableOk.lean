/-
  The walk of FnTableOk: it answers true.
-/
import Derived.Test.YthbebgnjidaokaaDoorDrawTb
import Derived.Test.YthbebgnjidaokaaDoorImplTb
import Derived.Laws.OwnMore
import Derived.Deep.RegionHeld3
namespace Go.Proofs.YthbebgnjidaokaaDoor
open Go.RowKit Fl

theorem row5_of {w : World} {base g cap : Nat} {rs : List RowW} (h : w.ownsRow base 40 5 (.slice (some ⟨g, 0, none⟩) rs.length cap) rs.length (cells5 rs)) : Row5 w g rs := by
  intro i hi
  obtain ⟨a, b, c, d, e⟩ := cells5_at rs i hi
  have hl := cells5_length rs
  exact ⟨by show w.cell? _ = _; rw [h.cellAt _ (by omega)]; exact a, by show w.cell? _ = _; rw [h.cellAt _ (by omega)]; exact b, by show w.cell? _ = _; rw [h.cellAt _ (by omega)]; exact c, by show w.cell? _ = _; rw [h.cellAt _ (by omega)]; exact d, by show w.cell? _ = _; rw [h.cellAt _ (by omega)]; exact e⟩

theorem rowsB_less (rs : List RowW) (r : RowW) : ∀ p, rowsB p (rs ++ [r]) = true → rowsB p rs = true := by
  induction rs with
  | nil => intro p _; rfl
  | cons x xs ih =>
    intro p h
    have h' : (freqB x.f && x.finB && afterB p x.f && rowsB (some x.f) (xs ++ [r])) = true := h
    simp only [Bool.and_eq_true] at h'
    show (freqB x.f && x.finB && afterB p x.f && rowsB (some x.f) xs) = true
    rw [h'.1.1.1, h'.1.1.2, h'.1.2, ih _ h'.2]
    rfl
/-- Without its last row a table of two rows or more is one. -/
theorem tabB_less {rs : List RowW} (h : tabB rs = true) (h2 : 2 ≤ rs.length) : tabB (rs.take (rs.length - 1)) = true := by
  obtain ⟨l1, l8⟩ := tabB_len h
  have hne : rs ≠ [] := by intro e; subst e; simp at h2
  have e1 : rs = rs.dropLast ++ [rs.getLast hne] := (List.dropLast_concat_getLast hne).symm
  have hr : rowsB none rs = true := by
    unfold tabB at h
    simp only [Bool.and_eq_true] at h
    exact h.1
  rw [e1] at hr
  have := rowsB_less _ _ _ hr
  rw [← List.dropLast_eq_take]
  unfold tabB
  rw [this, List.length_dropLast]
  simp
  omega

end Go.Proofs.YthbebgnjidaokaaDoor
