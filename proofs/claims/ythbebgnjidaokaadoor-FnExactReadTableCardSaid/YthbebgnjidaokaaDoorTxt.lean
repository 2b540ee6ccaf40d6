/-
  Texts of whole numbers: written and read. No dump is read here.
-/
import Derived.Lib.ItoaNum
import Derived.Lib.Atoi
namespace Go.Proofs.YthbebgnjidaokaaDoor
namespace Tx
open Go.Lib

abbrev Bs := List UInt8

/-- A number of one to seven digits without leading zeros. -/
def natV (l : Bs) : Option Nat := if (1 ≤ l.length ∧ l.length ≤ 7) ∧ ¬(1 < l.length ∧ l.head? = some 48) then decFrom 0 l else none
/-- A number as it is written in a table: with a hyphen ahead or not. -/
def digV : Bs → Option Int
  | 45 :: x :: r => match digV (x :: r) with
    | some n => if 0 < n then some (-n) else none
    | none => none
  | l => (natV l).map Int.ofNat

theorem decFrom_snoc (l : Bs) (b : UInt8) : ∀ acc, decFrom acc (l ++ [b]) = match decFrom acc l with
    | some n => (match digitVal b with
      | some d => some (n * 10 + d)
      | none => none)
    | none => none := by
  induction l with
  | nil =>
    intro acc
    simp only [List.nil_append, decFrom]
    cases digitVal b <;> rfl
  | cons a t ih =>
    intro acc
    simp only [List.cons_append, decFrom]
    cases ha : digitVal a with
    | none => rfl
    | some d => exact ih _

theorem digitVal_of (d : Nat) (h : d < 10) : digitVal (UInt8.ofNat (48 + d)) = some d := by
  have e : (UInt8.ofNat (48 + d)).toNat = 48 + d := by rw [UInt8.toNat_ofNat']; omega
  unfold digitVal
  rw [e, if_pos (by omega)]
  congr 1
  omega
theorem digit_is {b : UInt8} {d : Nat} (h : digitVal b = some d) : b = UInt8.ofNat (48 + d) ∧ d < 10 := by
  obtain ⟨h1, h2, h3⟩ := digitVal_eq h
  refine ⟨?_, by omega⟩
  apply UInt8.toNat_inj.1
  rw [UInt8.toNat_ofNat']
  omega

/-- A numeral's digits spell the number. -/
theorem decFrom_dec (u : Nat) : decFrom 0 (decDigits u) = some u := by
  induction u using Nat.strongRecOn with
  | ind u ih =>
    by_cases h : u < 10
    · rw [decDigits_one h]
      simp only [decFrom, digitVal_of u h]
      simp
    · rw [decDigits, dif_neg h, decFrom_snoc, ih (u / 10) (by omega)]
      simp only [digitVal_of (u % 10) (by omega)]
      congr 1
      omega

theorem dec_ne (u : Nat) : decDigits u ≠ [] := by
  intro h
  have := decDigits_length u
  rw [h] at this
  have := nDigits_pos u
  simp at *
  omega

/-- The first digit of a numeral is not 0, but for 0. -/
theorem dec_head (u : Nat) (hu : u ≠ 0) : ∃ d r, decDigits u = UInt8.ofNat (48 + d) :: r ∧ 1 ≤ d ∧ d < 10 := by
  induction u using Nat.strongRecOn with
  | ind u ih =>
    by_cases h : u < 10
    · exact ⟨u, [], decDigits_one h, by omega, h⟩
    · obtain ⟨d, r, e, h1, h2⟩ := ih (u / 10) (by omega) (by omega)
      exact ⟨d, r ++ [UInt8.ofNat (48 + u % 10)], by rw [decDigits, dif_neg h, e]; rfl, h1, h2⟩

/-- Digits without leading zeros are the numeral. -/
theorem dec_of (l : Bs) : ∀ n, decFrom 0 l = some n → l ≠ [] → (1 < l.length → l.head? ≠ some 48) → l = decDigits n := by
  induction hk : l.length using Nat.strongRecOn generalizing l with
  | ind k ih =>
    intro n h hne hz
    have e := List.dropLast_concat_getLast hne
    rw [← e] at h
    rw [decFrom_snoc] at h
    cases hm : decFrom 0 l.dropLast with
    | none => rw [hm] at h; cases h
    | some m =>
      rw [hm] at h
      cases hd : digitVal (l.getLast hne) with
      | none => rw [hd] at h; cases h
      | some d =>
        rw [hd] at h
        simp only [Option.some.injEq] at h
        obtain ⟨hb, hd10⟩ := digit_is hd
        by_cases h1 : l.dropLast = []
        · rw [h1] at hm e
          simp only [decFrom, Option.some.injEq] at hm
          have hn : n = d := by omega
          rw [← e, hb, hn, decDigits_one hd10]
          rfl
        · have hl : 1 < l.length := by
            have := List.length_pos_iff.2 h1
            rw [List.length_dropLast] at this
            omega
          have hh : l.dropLast.head? = l.head? := by
            cases l with
            | nil => exact absurd rfl hne
            | cons x xs =>
              cases xs with
              | nil => simp at hl
              | cons y ys => rfl
          have hI := ih l.dropLast.length (by rw [List.length_dropLast]; omega) l.dropLast rfl m hm h1 (fun _ => by rw [hh]; exact hz (by omega))
          have hm0 : m ≠ 0 := by
            rintro rfl
            have h0 : decDigits 0 = [48] := decDigits_one (by decide)
            rw [h0] at hI
            have := hz (by omega)
            rw [← hh, hI] at this
            exact this rfl
          have hn10 : ¬n < 10 := by omega
          have hdn : decDigits n = decDigits (n / 10) ++ [UInt8.ofNat (48 + n % 10)] := by rw [decDigits, dif_neg hn10]
          rw [hdn, show n / 10 = m by omega, show n % 10 = d by omega, ← hI, ← hb]
          exact e.symm

theorem pow_le_n (n : Nat) (h : 10 ≤ n) : 10 ^ (nDigits n - 1) ≤ n := by
  induction n using Nat.strongRecOn with
  | ind n ih =>
    rw [nDigits_big (by omega)]
    by_cases h2 : n / 10 < 10
    · rw [nDigits_small h2]; omega
    · have := ih (n / 10) (by omega) (by omega)
      have hp := nDigits_pos (n / 10)
      rw [show nDigits (n / 10) + 1 - 1 = (nDigits (n / 10) - 1) + 1 by omega, Nat.pow_succ]
      omega

theorem natV_dec {n : Nat} (h : n ≤ 9999999) : natV (decDigits n) = some n := by
  have hl : (decDigits n).length ≤ 7 := by
    rw [decDigits_length]
    rcases Nat.lt_or_ge 7 (nDigits n) with h7 | h7
    · exfalso
      have hp : 10 ^ (nDigits n - 1) ≤ n := by
        by_cases h10 : n < 10
        · rw [nDigits_small h10] at h7; omega
        · exact pow_le_n n (by omega)
      have : 10 ^ 7 ≤ 10 ^ (nDigits n - 1) := Nat.pow_le_pow_right (by decide) (by omega)
      omega
    · exact h7
  have h1 : 1 ≤ (decDigits n).length := List.length_pos_iff.2 (dec_ne n)
  unfold natV
  rw [if_pos, decFrom_dec]
  refine ⟨⟨h1, hl⟩, ?_⟩
  rintro ⟨h2, h3⟩
  by_cases h0 : n = 0
  · subst h0
    rw [decDigits_one (by decide)] at h2
    simp at h2
  · obtain ⟨d, r, e, d1, d2⟩ := dec_head n h0
    rw [e] at h3
    simp only [List.head?_cons, Option.some.injEq] at h3
    have := congrArg UInt8.toNat h3
    rw [UInt8.toNat_ofNat'] at this
    have e48 : (48 : UInt8).toNat = 48 := rfl
    omega

theorem natV_is {l : Bs} {n : Nat} (h : natV l = some n) : l = decDigits n ∧ n ≤ 9999999 := by
  unfold natV at h
  split at h
  · rename_i hc
    obtain ⟨⟨h1, h7⟩, hz⟩ := hc
    have hne : l ≠ [] := by rintro rfl; simp at h1
    refine ⟨dec_of l n h hne (fun h2 h3 => hz ⟨h2, h3⟩), ?_⟩
    have := decFrom_lt l 0 n h
    have : (0 + 1) * 10 ^ l.length ≤ 10 ^ 7 := by
      rw [Nat.zero_add, Nat.one_mul]
      exact Nat.pow_le_pow_right (by decide) h7
    omega
  · cases h
/-- No digit is a hyphen. -/
theorem natV_head {l : Bs} {n : Nat} (h : natV l = some n) : ∃ x r, l = x :: r ∧ x ≠ 45 := by
  obtain ⟨e, _⟩ := natV_is h
  have hne := dec_ne n
  rw [← e] at hne
  cases l with
  | nil => exact absurd rfl hne
  | cons x r =>
    refine ⟨x, r, rfl, ?_⟩
    rintro rfl
    unfold natV at h
    split at h
    · simp only [decFrom] at h
      have : digitVal 45 = none := by decide
      rw [this] at h
      cases h
    · cases h

/-- What is written is read again. -/
theorem digV_itoa {n : Int} (h1 : -9999999 ≤ n) (h2 : n ≤ 9999999) : digV (itoa n) = some n := by
  unfold itoa
  by_cases h : n < 0
  · rw [if_pos h]
    have hv := natV_dec (n := n.natAbs) (by omega)
    obtain ⟨x, r, e, hx⟩ := natV_head hv
    rw [e] at hv ⊢
    have : digV (x :: r) = some (n.natAbs : Int) := by
      unfold digV
      split
      · rename_i heq
        injection heq with h3 _
        exact absurd h3.symm (by intro h4; exact hx (by first | exact h4 | exact h4.symm))
      · rw [hv]; rfl
    show (match digV (x :: r) with
      | some n => if 0 < n then some (-n) else none
      | none => none) = some n
    rw [this]
    simp only
    rw [if_pos (by omega)]
    congr 1
    omega
  · rw [if_neg h]
    have hv := natV_dec (n := n.toNat) (by omega)
    obtain ⟨x, r, e, hx⟩ := natV_head hv
    rw [e] at hv ⊢
    unfold digV
    split
    · rename_i heq
      injection heq with h3 _
      exact absurd h3.symm (by intro h4; exact hx (by first | exact h4 | exact h4.symm))
    · rw [hv]
      show some ((n.toNat : Nat) : Int) = some n
      congr 1
      omega

/-- What is read is what is written. -/
theorem digV_is : ∀ {l : Bs} {n : Int}, digV l = some n → l = itoa n ∧ -9999999 ≤ n ∧ n ≤ 9999999 := by
  intro l
  match l with
  | 45 :: x :: r =>
    intro n h
    have h' : (match digV (x :: r) with
      | some n => if 0 < n then some (-n) else none
      | none => none) = some n := h
    cases hm : digV (x :: r) with
    | none => rw [hm] at h'; cases h'
    | some m =>
      rw [hm] at h'
      simp only at h'
      by_cases h0 : 0 < m
      · rw [if_pos h0] at h'
        injection h' with h'
        obtain ⟨e, h1, h2⟩ := digV_is hm
        refine ⟨?_, by omega, by omega⟩
        unfold itoa at e ⊢
        rw [if_neg (by omega)] at e
        rw [if_pos (by omega), e, show n.natAbs = m.toNat by omega]
      · rw [if_neg h0] at h'
        cases h'
  | [] => intro n h; simp [digV, natV] at h
  | [x] =>
    intro n h
    have h' : (natV [x]).map Int.ofNat = some n := by
      unfold digV at h
      split at h
      · rename_i heq
        injection heq with _ h3
        cases h3
      · exact h
    cases hv : natV [x] with
    | none => rw [hv] at h'; cases h'
    | some m =>
      rw [hv] at h'
      injection h' with h'
      have h' : (m : Int) = n := h'
      obtain ⟨e, hm⟩ := natV_is hv
      refine ⟨?_, by omega, by omega⟩
      unfold itoa
      rw [if_neg (by omega), e, show n.toNat = m by omega]
  | x :: y :: r =>
    intro n h
    by_cases hx : x = 45
    · subst hx
      have h' : (match digV (y :: r) with
        | some n => if 0 < n then some (-n) else none
        | none => none) = some n := h
      cases hm : digV (y :: r) with
      | none => rw [hm] at h'; cases h'
      | some m =>
        rw [hm] at h'
        simp only at h'
        by_cases h0 : 0 < m
        · rw [if_pos h0] at h'
          injection h' with h'
          obtain ⟨e, h1, h2⟩ := digV_is hm
          refine ⟨?_, by omega, by omega⟩
          unfold itoa at e ⊢
          rw [if_neg (by omega)] at e
          rw [if_pos (by omega), e, show n.natAbs = m.toNat by omega]
        · rw [if_neg h0] at h'
          cases h'
    · have h' : (natV (x :: y :: r)).map Int.ofNat = some n := by
        unfold digV at h
        split at h
        · rename_i heq
          injection heq with h3 _
          exact absurd h3 hx
        · exact h
      cases hv : natV (x :: y :: r) with
      | none => rw [hv] at h'; cases h'
      | some m =>
        rw [hv] at h'
        injection h' with h'
        have h' : (m : Int) = n := h'
        obtain ⟨e, hm⟩ := natV_is hv
        refine ⟨?_, by omega, by omega⟩
        unfold itoa
        rw [if_neg (by omega), e, show n.toNat = m by omega]

end Tx
end Go.Proofs.YthbebgnjidaokaaDoor
