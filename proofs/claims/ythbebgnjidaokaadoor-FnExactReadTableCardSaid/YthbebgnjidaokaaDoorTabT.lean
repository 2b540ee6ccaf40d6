/-
  Texts of numbers and of tables, in the model.
-/
import Derived.Test.YthbebgnjidaokaaDoorNumT
import Derived.Test.YthbebgnjidaokaaDoorTbl
import Derived.Test.YthbebgnjidaokaaDoorWhole
namespace Go.Proofs.YthbebgnjidaokaaDoor
open Go.RowKit Fl

/-- A number's thousandths (0 if it is not told), and whether it is told. -/
def mT (a b : Nat) : Tx.Cn := (mI a b).getD (0, 0)
def mB (a b : Nat) : Bool := (mI a b).isSome
theorem mOf_is (a b : Nat) : mOf a b = .tuple #[.int .i64 (mT a b).1, .int .i64 (mT a b).2, .bool (mB a b)] := by
  unfold mOf mT mB mI
  split <;> rfl
theorem mT_ok (a b : Nat) : Tx.numOk (mT a b) := by
  unfold mT mI
  split
  · rename_i h
    simp only [Bool.and_eq_true] at h
    have h1 := in_ok a
    have h2 := in_ok b
    rw [h.1.2] at h1
    rw [h.2] at h2
    simp at h1 h2
    exact ⟨h1, h2⟩
  · exact ⟨⟨by decide, by decide⟩, by decide, by decide⟩
theorem itoa_len {n : Int} (h0 : -1000000000 ≤ n) (h1 : n ≤ 1000000000) : (Lib.itoa n).length ≤ 12 := by
  unfold Lib.itoa
  split
  · rw [List.length_cons, Lib.decDigits_length]
    have := nDig_le (u := n.natAbs) (by omega)
    omega
  · rw [Lib.decDigits_length]
    have := nDig_le (u := n.toNat) (by omega)
    omega

theorem txt_keep {w wx wy : World} (C : Calm wx wy) (H : Calm w wx ∧ True) : Calm w wy ∧ True := ⟨calm_trans H.1 C, trivial⟩
theorem txt_drew {w wx : World} (H : Calm w wx ∧ True) : Calm w wx.drew ∧ True := ⟨grown_drew H.1, trivial⟩

/-- A row in thousandths; whether all its numbers are told. -/
def RowW.int (r : RowW) : Tx.RowI := ⟨r.f, mT r.m.a r.m.b, mT r.m.c r.m.d, mT r.m.e r.m.f, mT r.m.g r.m.h⟩
def RowW.told (r : RowW) : Bool := mB r.m.a r.m.b && (mB r.m.c r.m.d && (mB r.m.e r.m.f && mB r.m.g r.m.h))
/-- What TableText gives. -/
def tabT (rs : List RowW) : Option Tx.Bs := if tabB rs && rs.all RowW.told then some (Tx.textT (rs.map RowW.int)) else none
def textV (o : Option Tx.Bs) : Value := match o with
  | some l => .tuple #[.string (txt l), .bool true]
  | none => .tuple #[.string (txt []), .bool false]

def RowW.nums (r : RowW) : List (Nat × Nat) := [(r.m.a, r.m.b), (r.m.c, r.m.d), (r.m.e, r.m.f), (r.m.g, r.m.h)]
/-- A row's text up to a number. -/
def rowP (r : RowW) (j : Nat) : Tx.Bs := Lib.itoa r.f ++ (r.nums.take j).flatMap fun z => 32 :: Tx.numT (mT z.1 z.2)
theorem rowP_zero (r : RowW) : rowP r 0 = Lib.itoa r.f := by unfold rowP; simp
theorem rowP_step (r : RowW) {j : Nat} (h : j < r.nums.length) : rowP r (j + 1) = rowP r j ++ 32 :: Tx.numT (mT r.nums[j].1 r.nums[j].2) := by
  unfold rowP
  rw [← List.take_append_getElem h, List.flatMap_append, List.append_assoc]
  simp
theorem rowP_end (r : RowW) : rowP r 4 = Tx.lineT r.int := by
  unfold rowP RowW.nums Tx.lineT RowW.int
  simp
theorem rowP_len (r : RowW) (hf : 0 ≤ r.f ∧ r.f ≤ 9999999) (j : Nat) (hj : j ≤ 4) : (rowP r j).length ≤ 12 + 26 * j := by
  induction j with
  | zero =>
    rw [rowP_zero]
    have := itoa_len (n := r.f) (by omega) (by omega)
    omega
  | succ j ih =>
    rw [rowP_step r (show j < r.nums.length by show j < 4; omega), List.length_append]
    have := ih (by omega)
    obtain ⟨⟨p0, p1⟩, q0, q1⟩ := mT_ok r.nums[j].1 r.nums[j].2
    have l1 := itoa_len (n := (mT r.nums[j].1 r.nums[j].2).1) (by omega) (by omega)
    have l2 := itoa_len (n := (mT r.nums[j].1 r.nums[j].2).2) (by omega) (by omega)
    unfold Tx.numT
    simp only [List.length_cons, List.length_append]
    omega
theorem textT_app (xs : List Tx.RowI) (r : Tx.RowI) : Tx.textT (xs ++ [r]) = Tx.textT xs ++ (Tx.lineT r ++ [10]) := by
  induction xs with
  | nil => simp [Tx.textT]
  | cons x xs ih => simp [Tx.textT, ih]
theorem rowsB_freq (rs : List RowW) : ∀ p, rowsB p rs = true → ∀ r ∈ rs, 0 ≤ r.f ∧ r.f ≤ 9999999 := by
  induction rs with
  | nil => intro p _ r hr; simp at hr
  | cons x xs ih =>
    intro p h r hr
    have h' : (freqB x.f && x.finB && afterB p x.f && rowsB (some x.f) xs) = true := h
    simp only [Bool.and_eq_true] at h'
    rcases List.mem_cons.1 hr with rfl | hr
    · have := h'.1.1.1
      unfold freqB at this
      simpa using this
    · exact ih _ h'.2 r hr
theorem tabB_freq {rs : List RowW} (h : tabB rs = true) : ∀ r ∈ rs, 0 ≤ r.f ∧ r.f ≤ 9999999 := by
  unfold tabB at h
  simp only [Bool.and_eq_true] at h
  exact rowsB_freq rs none h.1
/-- The text of the first rows. -/
def headT (rs : List RowW) (k : Nat) : Tx.Bs := Tx.textT ((rs.take k).map RowW.int)
theorem headT_step {rs : List RowW} {k : Nat} (h : k < rs.length) : headT rs (k + 1) = headT rs k ++ (Tx.lineT rs[k].int ++ [10]) := by
  unfold headT
  rw [← List.take_append_getElem h, List.map_append]
  exact textT_app _ _
theorem headT_len {rs : List RowW} (hf : ∀ r ∈ rs, 0 ≤ r.f ∧ r.f ≤ 9999999) (k : Nat) (hk : k ≤ rs.length) : (headT rs k).length ≤ 120 * k := by
  induction k with
  | zero => simp [headT, Tx.textT]
  | succ k ih =>
    rw [headT_step (by omega), List.length_append, List.length_append, ← rowP_end]
    have := ih (by omega)
    have := rowP_len rs[k] (hf _ (List.getElem_mem (by omega))) 4 (by omega)
    simp
    omega

end Go.Proofs.YthbebgnjidaokaaDoor
