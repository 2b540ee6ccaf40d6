/-
  What the program reads of a text: numerals, numbers, matrices, rows, as the model reads them; no dump is read but for rows as words.
-/
import Derived.Test.YthbebgnjidaokaaDoorReadTc
import Derived.Test.YthbebgnjidaokaaDoorTabT
import Derived.Lib.AtoiAllCases
import Derived.Lib.AtoiTie
import Derived.Lib.Split
import Derived.Lib.IndexMore
namespace Go.Proofs.YthbebgnjidaokaaDoor
open Go.RowKit Fl

/-- The number that a numeral is, written as it would be. -/
def intV (l : Tx.Bs) : Option Int := match Lib.atoiAll l with
  | .ok v => if Lib.itoa v = l then some v else none
  | _ => none
theorem intV_is {l : Tx.Bs} {n : Int} (h : intV l = some n) : l = Lib.itoa n ∧ -9223372036854775808 ≤ n ∧ n ≤ 9223372036854775807 := by
  unfold intV at h
  split at h
  · rename_i v hv
    split at h
    · rename_i e
      injection h with h
      subst h
      exact ⟨e.symm, Lib.atoiAll_bounds hv⟩
    · cases h
  · cases h
theorem decFrom_lead (l : Tx.Bs) (h : l ≠ []) (n : Nat) (hd : Lib.decFrom 0 l = some n) : ∃ b r, l = b :: r ∧ b ≠ 45 ∧ b ≠ 43 := by
  cases l with
  | nil => exact absurd rfl h
  | cons b r =>
    refine ⟨b, r, rfl, ?_, ?_⟩
    · rintro rfl
      have : Lib.digitVal 45 = none := by decide
      simp [Lib.decFrom, this] at hd
    · rintro rfl
      have : Lib.digitVal 43 = none := by decide
      simp [Lib.decFrom, this] at hd
theorem atoi_itoa (n : Int) : Lib.atoi (Lib.itoa n) = some n := by
  have hne := Tx.dec_ne
  have hdd := Tx.decFrom_dec
  unfold Lib.itoa
  by_cases h : n < 0
  · rw [if_pos h]
    show (Lib.decNat (Lib.decDigits n.natAbs)).map (fun (m : Nat) => -(m : Int)) = some n
    unfold Lib.decNat
    rw [if_neg (by simpa using hne _), hdd]
    show some (-(n.natAbs : Int)) = some n
    congr 1
    omega
  · rw [if_neg h]
    obtain ⟨b, r, e, h45, h43⟩ := decFrom_lead _ (hne n.toNat) _ (hdd n.toNat)
    rw [e]
    show (if (b == 45) = true then (Lib.decNat r).map (fun (m : Nat) => -(m : Int)) else if (b == 43) = true then (Lib.decNat r).map (fun (m : Nat) => (m : Int)) else (Lib.decNat (b :: r)).map (fun (m : Nat) => (m : Int))) = some n
    rw [if_neg (by simpa using h45), if_neg (by simpa using h43), ← e]
    unfold Lib.decNat
    rw [if_neg (by simpa using hne _), hdd]
    show some ((n.toNat : Nat) : Int) = some n
    congr 1
    omega
theorem intV_itoa {n : Int} (h0 : -9999999 ≤ n) (h1 : n ≤ 9999999) : intV (Lib.itoa n) = some n := by
  have hl : (Lib.itoa n).length ≤ 18 := by
    have := itoa_len (n := n) (by omega) (by omega)
    omega
  unfold intV
  rw [Lib.atoiAll_short _ hl, atoi_itoa]
  show (if Lib.itoa n = Lib.itoa n then some n else none) = some n
  rw [if_pos rfl]
instance (n : Int) : Decidable (Tx.inM n) := by unfold Tx.inM; infer_instance
theorem digV_intV (l : Tx.Bs) : Tx.digV l = match intV l with
    | some n => if Tx.inM n then some n else none
    | none => none := by
  cases hd : Tx.digV l with
  | some n =>
    obtain ⟨rfl, h0, h1⟩ := Tx.digV_is hd
    rw [intV_itoa h0 h1]
    show some n = if Tx.inM n then some n else none
    rw [if_pos ⟨h0, h1⟩]
  | none =>
    cases hi : intV l with
    | none => rfl
    | some n =>
      show none = if Tx.inM n then some n else none
      split
      · rename_i hm
        obtain ⟨rfl, _, _⟩ := intV_is hi
        rw [Tx.digV_itoa hm.1 hm.2] at hd
        cases hd
      · rfl

/-- What is ahead of a byte and what is behind it, and whether it is there. -/
def cut1 (c : UInt8) : Tx.Bs → Tx.Bs × Tx.Bs × Bool
  | [] => ([], [], false)
  | b :: r => if b = c then ([], r, true) else (b :: (cut1 c r).1, (cut1 c r).2.1, (cut1 c r).2.2)
theorem cut1_no {c : UInt8} {l : Tx.Bs} (h : (cut1 c l).2.2 = false) : cut1 c l = (l, [], false) := by
  induction l with
  | nil => rfl
  | cons b r ih =>
    unfold cut1 at h ⊢
    by_cases e : b = c
    · rw [if_pos e] at h; cases h
    · rw [if_neg e] at h ⊢
      rw [ih h]
theorem cut1_at {c : UInt8} {l : Tx.Bs} (h : (cut1 c l).2.2 = true) : l = (cut1 c l).1 ++ c :: (cut1 c l).2.1 := by
  induction l with
  | nil => cases h
  | cons b r ih =>
    unfold cut1 at h ⊢
    by_cases e : b = c
    · rw [if_pos e]; subst e; rfl
    · rw [if_neg e] at h ⊢
      show b :: r = b :: ((cut1 c r).1 ++ c :: (cut1 c r).2.1)
      rw [← ih h]
theorem cut1_not (c : UInt8) (l : Tx.Bs) : c ∉ (cut1 c l).1 := by
  induction l with
  | nil => simp [cut1]
  | cons b r ih =>
    unfold cut1
    by_cases e : b = c
    · rw [if_pos e]; simp
    · rw [if_neg e]
      intro h
      rcases List.mem_cons.1 h with h | h
      · exact e h.symm
      · exact ih h
theorem cut1_cutL {c : UInt8} {l : Tx.Bs} (h : (cut1 c l).2.2 = true) : Tx.cutL c l = (cut1 c l).1 :: Tx.cutL c (cut1 c l).2.1 := by
  conv => lhs; rw [cut1_at h]
  exact Tx.cutL_app (cut1_not c l) _
theorem cut1_cutN {c : UInt8} {l : Tx.Bs} (h : (cut1 c l).2.2 = false) : Tx.cutL c l = [l] := by
  have := cut1_not c l
  rw [cut1_no h] at this
  exact Tx.cutL_no this
theorem pre_one (c b : UInt8) (r : Tx.Bs) : ([c] : Tx.Bs).isPrefixOf (b :: r) = (c == b) := by
  show (c == b && ([] : Tx.Bs).isPrefixOf r) = _
  cases r <;> simp
theorem index_cut (c : UInt8) (l : Tx.Bs) : ((cut1 c l).2.2 = false ∧ Lib.index l [c] = -1) ∨ ((cut1 c l).2.2 = true ∧ Lib.index l [c] = ((cut1 c l).1.length : Int)) := by
  induction l with
  | nil => exact .inl ⟨rfl, rfl⟩
  | cons b r ih =>
    unfold cut1 Lib.index
    rw [pre_one]
    by_cases e : b = c
    · subst e
      rw [if_pos rfl]
      exact .inr ⟨rfl, by simp⟩
    · rw [if_neg e, if_neg (by simpa using fun h : c = b => e h.symm)]
      rcases ih with ⟨h1, h2⟩ | ⟨h1, h2⟩
      · rw [h2]
        exact .inl ⟨h1, by decide⟩
      · rw [h2]
        refine .inr ⟨h1, ?_⟩
        rw [if_neg (by simp)]
        simp
theorem cut_take {c : UInt8} {l x y : Tx.Bs} (h : l = x ++ c :: y) : l.take x.length = x := by subst h; simp
theorem cut_drop {c : UInt8} {l x y : Tx.Bs} (h : l = x ++ c :: y) : l.drop (x.length + 1) = y := by
  subst h
  rw [List.drop_append]
  simp
theorem cut_cut1 (c : UInt8) (l : Tx.Bs) : Lib.cut l [c] = cut1 c l := by
  unfold Lib.cut
  rcases index_cut c l with ⟨h1, h2⟩ | ⟨h1, h2⟩
  · rw [h2, if_neg (by decide), cut1_no h1]
  · rw [h2, if_pos (by omega)]
    have e := cut1_at h1
    have t1 : l.take (cut1 c l).1.length = (cut1 c l).1 := cut_take e
    have t2 : l.drop ((cut1 c l).1.length + 1) = (cut1 c l).2.1 := cut_drop e
    show (l.take ((cut1 c l).1.length : Int).toNat, l.drop (((cut1 c l).1.length : Int).toNat + 1), true) = _
    rw [Int.toNat_natCast, t1, t2, ← h1]

/-- The number of a text of thousandths. -/
def numP (l : Tx.Bs) : Option Tx.Cn := match intV (cut1 44 l).1, intV (cut1 44 l).2.1 with
  | some a, some b => if Tx.inM a ∧ Tx.inM b then some (a, b) else none
  | _, _ => none
theorem intV_nil : intV [] = none := rfl
theorem no_comma {l : Tx.Bs} {n : Int} (h : intV l = some n) {c : UInt8} (hc : c.toNat ≠ 45) (h48 : c.toNat < 48) : c ∉ l := by
  obtain ⟨rfl, _, _⟩ := intV_is h
  exact Tx.itoa_no hc h48
theorem numP_eq (l : Tx.Bs) : numP l = Tx.numV l := by
  unfold numP Tx.numV
  cases hf : (cut1 44 l).2.2 with
  | false =>
    rw [cut1_cutN hf, cut1_no hf]
    dsimp only
    rw [intV_nil]
    cases intV l <;> rfl
  | true =>
    rw [cut1_cutL hf]
    cases hb : intV (cut1 44 l).2.1 with
    | none =>
      have : ∀ x, Tx.cutL 44 (cut1 44 l).2.1 = [x] → Tx.digV x = none := by
        intro x hx
        have e : (cut1 44 l).2.1 = x := by
          have := Tx.cutL_join 44 (cut1 44 l).2.1
          rw [hx] at this
          exact this.symm
        subst e
        rw [digV_intV, hb]
      cases intV (cut1 44 l).1 <;> dsimp only
      all_goals
        split
        · rename_i heq
          injection heq with e1 e2
          rw [this _ e2]
          cases Tx.digV _ <;> rfl
        · rfl
    | some b =>
      rw [Tx.cutL_no (no_comma hb (by decide) (by decide))]
      dsimp only
      rw [digV_intV, digV_intV, hb]
      cases intV (cut1 44 l).1 with
      | none => rfl
      | some a =>
        dsimp only
        by_cases ha : Tx.inM a <;> by_cases hb' : Tx.inM b <;> simp [ha, hb']

/-- Four numbers with a space between them. -/
def fourV (l : Tx.Bs) : Option (Tx.Cn × Tx.Cn × Tx.Cn × Tx.Cn) := match Tx.cutL 32 l with
  | [x, y, z, t] => match Tx.numV x, Tx.numV y, Tx.numV z, Tx.numV t with
    | some a, some b, some c, some d => some (a, b, c, d)
    | _, _, _, _ => none
  | _ => none
/-- A row of a line, whatever its frequency. -/
def rowG (l : Tx.Bs) : Option Tx.RowI := match intV (cut1 32 l).1, fourV (cut1 32 l).2.1 with
  | some f, some (a, b, c, d) => some ⟨f, a, b, c, d⟩
  | _, _ => none
theorem rowG_line (l : Tx.Bs) : Tx.lineV l = match rowG l with
    | some r => if Tx.inM r.f then some r else none
    | none => none := by
  unfold rowG Tx.lineV fourV
  cases hf : (cut1 32 l).2.2 with
  | false =>
    rw [cut1_cutN hf, cut1_no hf]
    dsimp only
    cases intV l <;> rfl
  | true =>
    rw [cut1_cutL hf]
    generalize (cut1 32 l).1 = x
    generalize Tx.cutL 32 (cut1 32 l).2.1 = ys
    match ys with
    | [a, b, c, d] =>
      dsimp only
      rw [digV_intV]
      cases intV x with
      | none => cases Tx.numV a <;> cases Tx.numV b <;> cases Tx.numV c <;> cases Tx.numV d <;> rfl
      | some n =>
        dsimp only
        by_cases hn : Tx.inM n
        · rw [if_pos hn]
          cases Tx.numV a <;> cases Tx.numV b <;> cases Tx.numV c <;> cases Tx.numV d <;> simp [hn]
        · rw [if_neg hn]
          cases Tx.numV a <;> cases Tx.numV b <;> cases Tx.numV c <;> cases Tx.numV d <;> simp [hn]
    | [] => cases intV x <;> rfl
    | [_] => cases intV x <;> rfl
    | [_, _] => cases intV x <;> rfl
    | [_, _, _] => cases intV x <;> rfl
    | _ :: _ :: _ :: _ :: _ :: _ => cases intV x <;> rfl

/-- A text cut at so many spaces at most. -/
def splitC (c : UInt8) : Nat → Tx.Bs → List Tx.Bs
  | 0, l => [l]
  | k + 1, l => if (cut1 c l).2.2 then (cut1 c l).1 :: splitC c k (cut1 c l).2.1 else [l]
theorem splitK_C (c : UInt8) : ∀ (k : Nat) (l : Tx.Bs), Lib.splitK [c] 0 k l = splitC c k l := by
  intro k
  induction k with
  | zero => intro l; rfl
  | succ k ih =>
    intro l
    unfold Lib.splitK splitC
    rcases index_cut c l with ⟨h1, h2⟩ | ⟨h1, h2⟩
    · rw [h2, h1]; rfl
    · rw [h2, h1, if_neg (by simp), if_pos rfl, ih]
      have e := cut1_at h1
      have t1 : l.take (cut1 c l).1.length = (cut1 c l).1 := cut_take e
      have t2 : l.drop ((cut1 c l).1.length + 1) = (cut1 c l).2.1 := cut_drop e
      show l.take (((cut1 c l).1.length : Int).toNat + 0) :: splitC c k (l.drop (((cut1 c l).1.length : Int).toNat + 1)) = _
      rw [Int.toNat_natCast, Nat.add_zero, t1, t2]
theorem splitC_all (c : UInt8) : ∀ (k : Nat) (l : Tx.Bs), (Tx.cutL c l).length ≤ k + 1 → splitC c k l = Tx.cutL c l := by
  intro k
  induction k with
  | zero =>
    intro l h
    unfold splitC
    cases hf : (cut1 c l).2.2 with
    | false => rw [cut1_cutN hf]
    | true =>
      rw [cut1_cutL hf] at h
      have := List.length_pos_iff.2 (Tx.cutL_ne c (cut1 c l).2.1)
      simp at h
      exact absurd h (List.ne_nil_of_length_pos this)
  | succ k ih =>
    intro l h
    unfold splitC
    cases hf : (cut1 c l).2.2 with
    | false => rw [cut1_cutN hf]; rfl
    | true =>
      rw [cut1_cutL hf] at h ⊢
      rw [if_pos rfl, ih _ (by simpa using h)]
theorem splitC_more (c : UInt8) : ∀ (k : Nat) (l : Tx.Bs), k + 1 < (Tx.cutL c l).length → (splitC c k l).length = k + 1 := by
  intro k
  induction k with
  | zero => intro l _; rfl
  | succ k ih =>
    intro l h
    unfold splitC
    cases hf : (cut1 c l).2.2 with
    | false => rw [cut1_cutN hf] at h; simp at h
    | true =>
      rw [cut1_cutL hf] at h
      rw [if_pos rfl, List.length_cons, ih _ (by simpa using h)]
theorem cutL_length (c : UInt8) (l : Tx.Bs) : (Tx.cutL c l).length ≤ l.length + 1 := by
  induction l with
  | nil => simp [Tx.cutL]
  | cons b r ih =>
    unfold Tx.cutL
    split
    · simp; omega
    · split
      · rename_i x xs hc
        rw [hc] at ih
        simp at ih ⊢
        omega
      · simp
/-- Cut in five at most: four pieces are all pieces, or there are not four. -/
theorem split_four (l : Tx.Bs) : (splitC 32 (min 5 (l.length + 1) - 1) l).length = 4 → splitC 32 (min 5 (l.length + 1) - 1) l = Tx.cutL 32 l := by
  intro h
  by_cases hk : (Tx.cutL 32 l).length ≤ (min 5 (l.length + 1) - 1) + 1
  · exact splitC_all 32 _ l hk
  · exfalso
    have h2 := splitC_more 32 (min 5 (l.length + 1) - 1) l (by omega)
    have h3 := cutL_length 32 l
    omega
theorem split_not (l : Tx.Bs) : (splitC 32 (min 5 (l.length + 1) - 1) l).length ≠ 4 → fourV l = none := by
  intro h
  by_cases hk : (Tx.cutL 32 l).length ≤ (min 5 (l.length + 1) - 1) + 1
  · rw [splitC_all 32 _ l hk] at h
    unfold fourV
    split
    · rename_i heq; rw [heq] at h; simp at h
    · rfl
  · have h3 := cutL_length 32 l
    unfold fourV
    split
    · rename_i heq; rw [heq] at hk h3; simp at hk h3; omega
    · rfl

end Go.Proofs.YthbebgnjidaokaaDoor
