/-
  Texts of tables: written and read. No dump is read here.
-/
import Derived.Test.YthbebgnjidaokaaDoorTxt
namespace Go.Proofs.YthbebgnjidaokaaDoor
namespace Tx
open Go.Lib

/-- What stands between the bytes c. -/
def cutL (c : UInt8) : Bs → List Bs
  | [] => [[]]
  | b :: r => if b = c then [] :: cutL c r else match cutL c r with
    | x :: xs => (b :: x) :: xs
    | [] => [[b]]
def joinL (c : UInt8) : List Bs → Bs
  | [] => []
  | [x] => x
  | x :: y :: r => x ++ c :: joinL c (y :: r)

theorem cutL_ne (c : UInt8) (l : Bs) : cutL c l ≠ [] := by
  cases l with
  | nil => simp [cutL]
  | cons b r =>
    unfold cutL
    split
    · simp
    · split <;> simp
theorem cutL_join (c : UInt8) (l : Bs) : joinL c (cutL c l) = l := by
  induction l with
  | nil => rfl
  | cons b r ih =>
    unfold cutL
    cases hr : cutL c r with
    | nil => exact absurd hr (cutL_ne c r)
    | cons x xs =>
      rw [hr] at ih
      split
      · rename_i h
        subst h
        show [] ++ b :: joinL b (x :: xs) = b :: r
        rw [ih]
        rfl
      · show joinL c ((b :: x) :: xs) = b :: r
        cases xs with
        | nil =>
          have : x = r := ih
          subst this
          rfl
        | cons y ys =>
          have h' : x ++ c :: joinL c (y :: ys) = r := ih
          show (b :: x) ++ c :: joinL c (y :: ys) = b :: r
          rw [← h']
          rfl
theorem cutL_no {c : UInt8} {x : Bs} (h : c ∉ x) : cutL c x = [x] := by
  induction x with
  | nil => rfl
  | cons b r ih =>
    have h1 : b ≠ c := by rintro rfl; exact h (List.mem_cons_self ..)
    have h2 : c ∉ r := fun hc => h (List.mem_cons_of_mem _ hc)
    unfold cutL
    rw [if_neg h1, ih h2]
theorem cutL_app {c : UInt8} {x : Bs} (h : c ∉ x) (r : Bs) : cutL c (x ++ c :: r) = x :: cutL c r := by
  induction x with
  | nil =>
    show cutL c (c :: r) = _
    unfold cutL
    rw [if_pos rfl]
    cases r <;> rfl
  | cons b t ih =>
    have h1 : b ≠ c := by rintro rfl; exact h (List.mem_cons_self ..)
    have h2 : c ∉ t := fun hc => h (List.mem_cons_of_mem _ hc)
    show cutL c (b :: (t ++ c :: r)) = _
    conv => lhs; unfold cutL
    rw [if_neg h1, ih h2]

theorem dec_mem {n : Nat} {b : UInt8} (h : b ∈ decDigits n) : 48 ≤ b.toNat ∧ b.toNat ≤ 57 := by
  rw [decDigits_eq] at h
  obtain ⟨t, _, rfl⟩ := List.mem_map.1 h
  unfold dg
  rw [UInt8.toNat_ofNat']
  omega
theorem itoa_mem {n : Int} {b : UInt8} (h : b ∈ itoa n) : b = 45 ∨ (48 ≤ b.toNat ∧ b.toNat ≤ 57) := by
  unfold itoa at h
  split at h
  · rcases List.mem_cons.1 h with h | h
    · exact .inl h
    · exact .inr (dec_mem h)
  · exact .inr (dec_mem h)
theorem itoa_no {n : Int} {c : UInt8} (hc : c.toNat ≠ 45) (h48 : c.toNat < 48) : c ∉ itoa n := by
  intro h
  rcases itoa_mem h with h | h
  · subst h; exact hc rfl
  · omega

/-- A number in thousandths, as text; a row of a table, as text. -/
abbrev Cn := Int × Int
structure RowI where
  f : Int
  a : Cn
  b : Cn
  c : Cn
  d : Cn
def numT (z : Cn) : Bs := itoa z.1 ++ 44 :: itoa z.2
def lineT (r : RowI) : Bs := itoa r.f ++ 32 :: (numT r.a ++ 32 :: (numT r.b ++ 32 :: (numT r.c ++ 32 :: numT r.d)))
def textT : List RowI → Bs
  | [] => []
  | r :: rs => lineT r ++ 10 :: textT rs

def inM (n : Int) : Prop := -9999999 ≤ n ∧ n ≤ 9999999
def numOk (z : Cn) : Prop := inM z.1 ∧ inM z.2
def RowI.ok (r : RowI) : Prop := inM r.f ∧ numOk r.a ∧ numOk r.b ∧ numOk r.c ∧ numOk r.d

def numV (w : Bs) : Option Cn := match cutL 44 w with
  | [x, y] => match digV x, digV y with
    | some p, some q => some (p, q)
    | _, _ => none
  | _ => none
def lineV (l : Bs) : Option RowI := match cutL 32 l with
  | [w, x, y, z, t] => match digV w, numV x, numV y, numV z, numV t with
    | some f, some a, some b, some c, some d => some ⟨f, a, b, c, d⟩
    | _, _, _, _, _ => none
  | _ => none
/-- All lines but the last one, which is empty. -/
def linesV : List Bs → Option (List RowI)
  | [] => none
  | [x] => if x = [] then some [] else none
  | x :: y :: r => match lineV x, linesV (y :: r) with
    | some a, some b => some (a :: b)
    | _, _ => none
/-- The rows of a text. -/
def rowsV (l : Bs) : Option (List RowI) := linesV (cutL 10 l)

theorem numT_no {z : Cn} {c : UInt8} (hc : c.toNat ≠ 45) (hd : c.toNat ≠ 44) (h48 : c.toNat < 48) : c ∉ numT z := by
  intro h
  unfold numT at h
  rcases List.mem_append.1 h with h | h
  · exact itoa_no hc h48 h
  · rcases List.mem_cons.1 h with h | h
    · subst h; exact hd rfl
    · exact itoa_no hc h48 h
theorem numV_numT {z : Cn} (h : numOk z) : numV (numT z) = some z := by
  obtain ⟨⟨a, b⟩, c, d⟩ := h
  unfold numV numT
  rw [cutL_app (itoa_no (by decide) (by decide)), cutL_no (itoa_no (by decide) (by decide))]
  simp only [digV_itoa a b, digV_itoa c d]
theorem lineV_lineT {r : RowI} (h : r.ok) : lineV (lineT r) = some r := by
  obtain ⟨⟨f1, f2⟩, a, b, c, d⟩ := h
  unfold lineV lineT
  rw [cutL_app (itoa_no (by decide) (by decide)), cutL_app (numT_no (by decide) (by decide) (by decide)), cutL_app (numT_no (by decide) (by decide) (by decide)), cutL_app (numT_no (by decide) (by decide) (by decide)), cutL_no (numT_no (by decide) (by decide) (by decide))]
  simp only [digV_itoa f1 f2, numV_numT a, numV_numT b, numV_numT c, numV_numT d]
theorem lineT_no (r : RowI) : (10 : UInt8) ∉ lineT r := by
  have key : ∀ (x y : Bs), (10 : UInt8) ∉ x → (10 : UInt8) ∉ y → (10 : UInt8) ∉ x ++ 32 :: y := by
    intro x y hx hy h
    rcases List.mem_append.1 h with h | h
    · exact hx h
    · rcases List.mem_cons.1 h with h | h
      · exact absurd h (by decide)
      · exact hy h
  have hn : ∀ z, (10 : UInt8) ∉ numT z := fun z => numT_no (by decide) (by decide) (by decide)
  exact key _ _ (itoa_no (by decide) (by decide)) (key _ _ (hn _) (key _ _ (hn _) (key _ _ (hn _) (hn _))))
/-- What is written is read again. -/
theorem rowsV_textT : ∀ {rs : List RowI}, (∀ r ∈ rs, r.ok) → rowsV (textT rs) = some rs := by
  intro rs
  induction rs with
  | nil => intro _; rfl
  | cons r rs ih =>
    intro h
    have hr := lineV_lineT (h r (List.mem_cons_self ..))
    have hs := ih (fun x hx => h x (List.mem_cons_of_mem _ hx))
    unfold rowsV at hs ⊢
    show linesV (cutL 10 (lineT r ++ 10 :: textT rs)) = _
    rw [cutL_app (lineT_no r)]
    cases hc : cutL 10 (textT rs) with
    | nil => exact absurd hc (cutL_ne _ _)
    | cons x xs =>
      rw [hc] at hs
      unfold linesV
      rw [hr, hs]

theorem numV_is {w : Bs} {z : Cn} (h : numV w = some z) : w = numT z ∧ numOk z := by
  unfold numV at h
  split at h
  · rename_i x y hxy
    split at h
    · rename_i p q hp hq
      injection h with h
      subst h
      obtain ⟨e1, a1, b1⟩ := digV_is hp
      obtain ⟨e2, a2, b2⟩ := digV_is hq
      refine ⟨?_, ⟨a1, b1⟩, ⟨a2, b2⟩⟩
      have := cutL_join 44 w
      rw [hxy] at this
      rw [← this]
      show x ++ 44 :: y = itoa p ++ 44 :: itoa q
      rw [← e1, ← e2]
    · cases h
  · cases h
theorem lineV_is {l : Bs} {r : RowI} (h : lineV l = some r) : l = lineT r ∧ r.ok := by
  unfold lineV at h
  split at h
  · rename_i w x y z t hc
    split at h
    · rename_i f a b c d hf ha hb hc' hd
      injection h with h
      subst h
      obtain ⟨e0, f1, f2⟩ := digV_is hf
      obtain ⟨e1, o1⟩ := numV_is ha
      obtain ⟨e2, o2⟩ := numV_is hb
      obtain ⟨e3, o3⟩ := numV_is hc'
      obtain ⟨e4, o4⟩ := numV_is hd
      refine ⟨?_, ⟨f1, f2⟩, o1, o2, o3, o4⟩
      have := cutL_join 32 l
      rw [hc] at this
      rw [← this]
      show w ++ 32 :: (x ++ 32 :: (y ++ 32 :: (z ++ 32 :: t))) = _
      unfold lineT
      rw [e0, e1, e2, e3, e4]
    · cases h
  · cases h
theorem linesV_is : ∀ {ls : List Bs} {rs : List RowI}, linesV ls = some rs → joinL 10 ls = textT rs ∧ ∀ r ∈ rs, r.ok := by
  intro ls
  induction ls with
  | nil => intro rs h; cases h
  | cons x t ih =>
    intro rs h
    cases t with
    | nil =>
      unfold linesV at h
      split at h
      · rename_i hx
        injection h with h
        subst h hx
        exact ⟨rfl, by simp⟩
      · cases h
    | cons y r =>
      unfold linesV at h
      split at h
      · rename_i a b ha hb
        injection h with h
        subst h
        obtain ⟨e1, o1⟩ := lineV_is ha
        obtain ⟨e2, o2⟩ := ih hb
        refine ⟨?_, ?_⟩
        · show x ++ 10 :: joinL 10 (y :: r) = lineT a ++ 10 :: textT b
          rw [e1, e2]
        · intro q hq
          rcases List.mem_cons.1 hq with rfl | hq
          · exact o1
          · exact o2 q hq
      · cases h
/-- What is read is what is written. -/
theorem rowsV_is {l : Bs} {rs : List RowI} (h : rowsV l = some rs) : l = textT rs ∧ ∀ r ∈ rs, r.ok := by
  obtain ⟨e, o⟩ := linesV_is h
  rw [cutL_join] at e
  exact ⟨e, o⟩
/-- With a space behind it no text is read. -/
theorem rowsV_more (rs : List RowI) : rowsV (textT rs ++ [32]) = none := by
  induction rs with
  | nil => rfl
  | cons r rs ih =>
    unfold rowsV at ih ⊢
    show linesV (cutL 10 ((lineT r ++ 10 :: textT rs) ++ [32])) = none
    rw [List.append_assoc, List.cons_append, cutL_app (lineT_no r)]
    cases hc : cutL 10 (textT rs ++ [32]) with
    | nil => exact absurd hc (cutL_ne _ _)
    | cons x xs =>
      rw [hc] at ih
      unfold linesV
      rw [ih]
      cases lineV (lineT r) <;> rfl

end Tx
end Go.Proofs.YthbebgnjidaokaaDoor
