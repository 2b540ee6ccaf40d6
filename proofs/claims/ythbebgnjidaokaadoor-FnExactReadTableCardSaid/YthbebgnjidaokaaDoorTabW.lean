/-
  Texts and tables: what is read is what is written, and the other way round; tables compared.
-/
import Derived.Test.YthbebgnjidaokaaDoorImplTb
import Derived.Test.YthbebgnjidaokaaDoorTabT
import Derived.Test.YthbebgnjidaokaaDoorReadTd
import Derived.Test.YthbebgnjidaokaaDoorC3
import Derived.Test.YthbebgnjidaokaaDoorWTableOk
namespace Go.Proofs.YthbebgnjidaokaaDoor
open Go.RowKit Fl

/-- The numbers of thousandths of a number of thousandths. -/
theorem mI_milli {p q : Int} (hp : Tx.inM p) (hq : Tx.inM q) : mI (milliB p) (milliB q) = some (p, q) := by
  obtain ⟨p1, p2⟩ := hp
  obtain ⟨q1, q2⟩ := hq
  have k1 : okK (milliB p) = true := by unfold okK; rw [kOf_milli p1 p2]; simp; omega
  have k2 : okK (milliB q) = true := by unfold okK; rw [kOf_milli q1 q2]; simp; omega
  unfold mI
  rw [fin_milli p1 p2, fin_milli q1 q2, k1, k2, sK_milli p1 p2, sK_milli q1 q2]
  rfl
theorem mT_milli {z : Tx.Cn} (h : Tx.numOk z) : mT (milliB z.1) (milliB z.2) = z ∧ mB (milliB z.1) (milliB z.2) = true := by
  unfold mT mB
  rw [mI_milli h.1 h.2]
  exact ⟨rfl, rfl⟩
theorem rowM_int {r : Tx.RowI} (h : r.ok) : (rowM r).int = r ∧ (rowM r).told = true := by
  obtain ⟨_, ha, hb, hc, hd⟩ := h
  obtain ⟨a1, a2⟩ := mT_milli ha
  obtain ⟨b1, b2⟩ := mT_milli hb
  obtain ⟨c1, c2⟩ := mT_milli hc
  obtain ⟨d1, d2⟩ := mT_milli hd
  constructor
  · unfold RowW.int rowM
    simp only
    rw [a1, b1, c1, d1]
  · unfold RowW.told rowM
    simp only
    rw [a2, b2, c2, d2]
    rfl
theorem rowsM_int {rs : List Tx.RowI} (h : ∀ r ∈ rs, r.ok) : (rs.map rowM).map RowW.int = rs ∧ (rs.map rowM).all RowW.told = true := by
  induction rs with
  | nil => exact ⟨rfl, rfl⟩
  | cons r rs ih =>
    obtain ⟨a, b⟩ := ih fun x hx => h x (List.mem_cons_of_mem _ hx)
    obtain ⟨c, d⟩ := rowM_int (h r (List.mem_cons_self ..))
    constructor
    · simp only [List.map_cons]
      rw [c, a]
    · simp only [List.map_cons, List.all_cons]
      rw [d, b]
      rfl

/-- What is read is written as it was. -/
theorem read_write {l : Tx.Bs} {rI : List Tx.RowI} (h : readT l = some rI) : tabB (rI.map rowM) = true ∧ tabT (rI.map rowM) = some l ∧ readT (l ++ [32]) = none := by
  unfold readT at h
  cases hr : Tx.rowsV l with
  | none => rw [hr] at h; cases h
  | some rs =>
    rw [hr] at h
    simp only at h
    cases ht : tabB (rs.map rowM)
    · rw [ht] at h; cases h
    · rw [ht] at h
      injection h with h
      subst h
      obtain ⟨h1, h2⟩ := Tx.rowsV_is hr
      obtain ⟨a, b⟩ := rowsM_int h2
      refine ⟨ht, ?_, ?_⟩
      · unfold tabT
        rw [ht, b, a, ← h1]
        rfl
      · unfold readT
        rw [h1, Tx.rowsV_more]

/-- The rows that are read. -/
def readR (o : Option (List Tx.RowI)) : List RowW := (o.getD []).map rowM
theorem readR_ok {l : Tx.Bs} {o : Option (List Tx.RowI)} (h : readT l = o) : tabB (readR o) = true ∨ readR o = [] := by
  cases o with
  | none => exact .inr rfl
  | some rI => exact .inl (read_write h).1

end Go.Proofs.YthbebgnjidaokaaDoor
