/-
  ReadTable's loop: what it holds of the text that is left.
-/
import Derived.Test.YthbebgnjidaokaaDoorRd
namespace Go.Proofs.YthbebgnjidaokaaDoor
open Go.RowKit Fl

theorem rowsV_nil : Tx.rowsV [] = some [] := rfl
theorem rowsV_cons {l : Tx.Bs} (hf : (cut1 10 l).2.2 = true) : Tx.rowsV l = match Tx.lineV (cut1 10 l).1, Tx.rowsV (cut1 10 l).2.1 with
    | some a, some b => some (a :: b)
    | _, _ => none := by
  unfold Tx.rowsV
  rw [cut1_cutL hf]
  cases hc : Tx.cutL 10 (cut1 10 l).2.1 with
  | nil => exact absurd hc (Tx.cutL_ne _ _)
  | cons z zs => rfl
theorem rowsV_last {l : Tx.Bs} (hne : l ≠ []) (hf : (cut1 10 l).2.2 = false) : Tx.rowsV l = none := by
  unfold Tx.rowsV
  rw [cut1_cutN hf]
  show (if l = [] then some [] else none) = none
  rw [if_neg hne]
theorem rowsV_ne {l : Tx.Bs} (hne : l ≠ []) {rs : List Tx.RowI} (h : Tx.rowsV l = some rs) : rs ≠ [] := by
  cases hf : (cut1 10 l).2.2 with
  | false => rw [rowsV_last hne hf] at h; cases h
  | true =>
    rw [rowsV_cons hf] at h
    split at h
    · injection h with h
      subst h
      simp
    · cases h
theorem tabB_bad {rs : List RowW} (h : ∃ r ∈ rs, freqB r.f = false) : tabB rs = false := by
  cases ht : tabB rs
  · rfl
  · obtain ⟨r, hr, hf⟩ := h
    obtain ⟨h0, h1⟩ := tabB_freq ht r hr
    unfold freqB at hf
    simp at hf
    omega
theorem readT_none {l : Tx.Bs} (h : Tx.rowsV l = none) : readT l = none := by unfold readT; rw [h]
theorem readT_some {l : Tx.Bs} {rI : List Tx.RowI} (h : Tx.rowsV l = some rI) : readT l = if tabB (rI.map rowM) then some rI else none := by unfold readT; rw [h]
theorem tabB_long {rs : List RowW} (h : 9 ≤ rs.length) : tabB rs = false := by
  cases ht : tabB rs
  · rfl
  · exfalso
    unfold tabB at ht
    simp at ht
    omega

/-- What the loop holds: the text, what is left of it, and the rows so far. -/
def RdSt (l rest : Tx.Bs) (rs : List RowW) : Prop :=
  (∃ rI : List Tx.RowI, rs = rI.map rowM ∧ Tx.rowsV l = (Tx.rowsV rest).map (rI ++ ·)) ∨ (readT l = none ∧ ∃ r ∈ rs, freqB r.f = false)
theorem rdSt_start (l : Tx.Bs) : RdSt l l [] := .inl ⟨[], rfl, by cases Tx.rowsV l <;> rfl⟩
theorem rdSt_last {l rest : Tx.Bs} {rs : List RowW} (H : RdSt l rest rs) (hne : rest ≠ []) (hf : (cut1 10 rest).2.2 = false) : readT l = none := by
  rcases H with ⟨rI, _, h⟩ | ⟨h, _⟩
  · exact readT_none (by rw [h, rowsV_last hne hf]; rfl)
  · exact h
theorem rdSt_bad {l rest : Tx.Bs} {rs : List RowW} (H : RdSt l rest rs) (hf : (cut1 10 rest).2.2 = true) (hr : rowG (cut1 10 rest).1 = none) : readT l = none := by
  rcases H with ⟨rI, _, h⟩ | ⟨h, _⟩
  · exact readT_none (by rw [h, rowsV_cons hf, rowG_line, hr]; rfl)
  · exact h
theorem rdSt_full {l rest : Tx.Bs} {rs : List RowW} (H : RdSt l rest rs) (hne : rest ≠ []) (h8 : rs.length = 8) : readT l = none := by
  rcases H with ⟨rI, e, h⟩ | ⟨h, _⟩
  · cases hv : Tx.rowsV rest with
    | none => exact readT_none (by rw [h, hv]; rfl)
    | some bs =>
      rw [hv] at h
      have hb := rowsV_ne hne hv
      have hl := List.length_pos_iff.2 hb
      rw [readT_some (rI := rI ++ bs) h, tabB_long]
      · rfl
      · subst e
        simp at h8 ⊢
        omega
  · exact h
theorem rdSt_next {l rest : Tx.Bs} {rs : List RowW} {r : Tx.RowI} (H : RdSt l rest rs) (hf : (cut1 10 rest).2.2 = true) (hr : rowG (cut1 10 rest).1 = some r) : RdSt l (cut1 10 rest).2.1 (rs ++ [rowM r]) := by
  rcases H with ⟨rI, e, h⟩ | ⟨h, x, hx, hb⟩
  · have hl := rowG_line (cut1 10 rest).1
    rw [hr] at hl
    dsimp only at hl
    by_cases hm : Tx.inM r.f
    · rw [if_pos hm] at hl
      refine .inl ⟨rI ++ [r], by rw [e, List.map_append]; rfl, ?_⟩
      rw [h, rowsV_cons hf, hl]
      cases Tx.rowsV (cut1 10 rest).2.1 with
      | none => rfl
      | some bs => simp
    · rw [if_neg hm] at hl
      refine .inr ⟨readT_none (by rw [h, rowsV_cons hf, hl]; rfl), rowM r, by simp, ?_⟩
      show freqB r.f = false
      unfold Tx.inM at hm
      unfold freqB
      simp
      omega
  · exact .inr ⟨h, x, by simp [hx], hb⟩
theorem rdSt_end {l : Tx.Bs} {rs : List RowW} (H : RdSt l [] rs) : (tabB rs = true ∧ ∃ rI, rs = rI.map rowM ∧ readT l = some rI) ∨ (tabB rs = false ∧ readT l = none) := by
  rcases H with ⟨rI, e, h⟩ | ⟨h, hb⟩
  · have h2 : Tx.rowsV l = some rI := by rw [h, rowsV_nil]; simp
    rw [readT_some h2, ← e]
    cases hT : tabB rs
    · exact .inr ⟨rfl, rfl⟩
    · exact .inl ⟨rfl, rI, e, rfl⟩
  · exact .inr ⟨tabB_bad hb, h⟩

end Go.Proofs.YthbebgnjidaokaaDoor
