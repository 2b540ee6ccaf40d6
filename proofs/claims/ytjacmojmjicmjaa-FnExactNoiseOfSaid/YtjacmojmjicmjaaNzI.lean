/-
  Whether a float64 is finite, asked by math.IsInf and math.IsNaN; and what is infinite or no number stays so.
-/
import Derived.Test.YtjacmojmjicmjaaWord
namespace Go.Proofs.Ytjacmojmjicmjaa
open Go.RowKit Fl
open Ieee

theorem andNot_all (y : Nat) : (bits .andNot .u64 (y : Int) 9223372036854775808).toNat = y % 2 ^ 63 := by
  have e : bits .andNot .u64 (y : Int) 9223372036854775808 = IntKind.u64.wrap ((y % 2 ^ 63 : Nat) : Int) := by
    show IntKind.u64.wrap ((BitVec.ofInt 64 (y : Int) &&& ~~~ BitVec.ofInt 64 9223372036854775808).toNat : Int) = _
    rw [BitVec.toNat_and, BitVec.toNat_not, BitVec.toNat_ofInt, BitVec.toNat_ofInt]
    congr 2
    rw [show ((y : Int) % ((2 ^ 64 : Nat) : Int)).toNat = y % 2 ^ 64 by omega, show ((9223372036854775808 : Int) % ((2 ^ 64 : Nat) : Int)).toNat = 2 ^ 63 by decide, show (2 : Nat) ^ 64 - 1 - 2 ^ 63 = 2 ^ 63 - 1 by decide, Nat.and_two_pow_sub_one_eq_mod]
    omega
  have hm := Nat.mod_lt y (show 0 < 2 ^ 63 by decide)
  rw [e]
  unfold IntKind.wrap
  simp only [IntKind.bits, IntKind.signed, Bool.false_and, Bool.false_eq_true, if_false]
  omega

set_option maxHeartbeats 400000 in
theorem abs_all (y : Nat) (w : World) :
    Calls Try.prog 85 #[.float .f64 y] w fun e w' => e = .returned (.float .f64 (y % 2 ^ 63)) ∧ w = w' := by
  have h1 := run_f64bits y
  have h2 := run_f64from
  have h3 := Lib.hid (andNot_all y)
  go_enter Try.func85, Try.ntmps85
  go_wp2
  go_ret
  refine ⟨?_, rfl⟩
  rw [← h3.out]
  rfl

/-- Greater than all numbers, without its sign. -/
def infB (x : Nat) : Bool := FloatKind.f64.format.order (x % 2 ^ 63) 9218868437227405311 == some .gt

set_option maxHeartbeats 400000 in
theorem isInf_all (x : Nat) (w : World) :
    Calls Try.prog 80 #[.float .f64 x, .int .i64 0] w fun e w' => e = .returned (.bool (infB x)) ∧ w = w' := by
  go_enter Try.func80, Try.ntmps80
  go_wp2_with fail
  refine (abs_all _ _).mono ?_
  rintro e w1 ⟨rfl, rfl⟩
  go_wp2_with fail
  go_ret
  exact ⟨rfl, rfl⟩

set_option maxHeartbeats 400000 in
theorem isNaN_all (x : Nat) (w : World) :
    Calls Try.prog 81 #[.float .f64 x] w fun e w' => e = .returned (.bool (FloatKind.f64.format.order x x != some .eq)) ∧ w = w' := by
  go_enter Try.func81, Try.ntmps81
  go_wp2_with fail
  go_ret
  exact ⟨rfl, rfl⟩

theorem rung_num64 {x : Nat} (h : num FloatKind.f64.format x) : x % FloatKind.f64.format.signWeight < FloatKind.f64.format.infRung := by
  obtain ⟨s, m, e, hr⟩ := num_read h
  by_cases hb : x % FloatKind.f64.format.signWeight < FloatKind.f64.format.infRung
  · exact hb
  · exfalso
    have hle : FloatKind.f64.format.binade ≤ FloatKind.f64.format.infRung := by decide
    have hb2 : ¬ x % FloatKind.f64.format.signWeight < FloatKind.f64.format.binade := by omega
    unfold Format.read at hr
    simp only [if_neg hb2, if_neg hb] at hr
    split at hr <;> cases hr

theorem top_num : num FloatKind.f64.format 9218868437227405311 ∧ V FloatKind.f64.format 9218868437227405311 = rungV FloatKind.f64.format 9218868437227405311 := by
  have hn : num FloatKind.f64.format 9218868437227405311 := by unfold num; decide
  refine ⟨hn, ?_⟩
  have := V_rung FloatKind.f64.format (rung_num64 hn)
  rw [show 9218868437227405311 % FloatKind.f64.format.signWeight = 9218868437227405311 by decide, show (9218868437227405311 / FloatKind.f64.format.signWeight % 2 == 1) = false by decide] at this
  exact this

/-- The two questions tell whether it is finite. -/
theorem fin_asked (x : Nat) : (infB x || FloatKind.f64.format.order x x != some .eq) = !fin .f64 x := by
  have hsw : FloatKind.f64.format.signWeight = 2 ^ 63 := by decide
  cases hr : FloatKind.f64.format.read x with
  | number s m e =>
    have hn : num FloatKind.f64.format x := by unfold num; rw [hr]; rfl
    have hf : fin .f64 x = true := hn
    obtain ⟨a1, a2⟩ := abs_spec .f64 hn
    rw [hsw] at a1 a2
    have ho : FloatKind.f64.format.order x x = some .eq := order_self _ (fin_not_nan hf)
    obtain ⟨t1, t2⟩ := top_num
    have hlt := rung_num64 a1
    have hv := V_rung FloatKind.f64.format hlt
    rw [hsw] at hv hlt
    have hi : FloatKind.f64.format.infRung = 9218868437227405312 := by decide
    rw [hi] at hlt
    rw [show (x % 2 ^ 63 / 2 ^ 63 % 2 == 1) = false by rw [Nat.div_eq_of_lt (Nat.mod_lt _ (by decide))]; rfl] at hv
    simp only [Bool.false_eq_true, if_false] at hv
    have hle : rungV FloatKind.f64.format (x % 2 ^ 63 % 2 ^ 63) ≤ rungV FloatKind.f64.format 9218868437227405311 := by
      rcases Nat.lt_or_ge (x % 2 ^ 63 % 2 ^ 63) 9218868437227405311 with g | g
      · have := rung_strict FloatKind.f64.format g; grind
      · rw [show x % 2 ^ 63 % 2 ^ 63 = 9218868437227405311 by omega]; exact Rat.le_refl
    have hi2 : infB x = false := by
      unfold infB
      rw [gt_walk a1 t1, hv, t2]
      exact decide_eq_false (by grind)
    rw [hi2, ho, hf]
    rfl
  | infinity s =>
    have hf : fin .f64 x = false := by unfold fin; rw [hr]; rfl
    have ha : FloatKind.f64.format.read (x % 2 ^ 63) = .infinity false := by
      unfold Format.read at hr ⊢
      simp only [hsw] at hr ⊢
      rw [Nat.mod_mod, show (x % 2 ^ 63 / 2 ^ 63 % 2 == 1) = false by rw [Nat.div_eq_of_lt (Nat.mod_lt _ (by decide))]; rfl]
      split at hr
      · cases hr
      · split at hr
        · cases hr
        · split at hr
          · rename_i h1 h2 h3
            simp only [if_neg h1, if_neg h2, if_pos h3]
          · cases hr
    have ht : FloatKind.f64.format.read 9218868437227405311 = .number false 9007199254740991 971 := by decide
    have hi2 : infB x = true := by
      unfold infB Format.order
      rw [ha, ht]
      rfl
    rw [hi2, hf]
    rfl
  | nan s t =>
    have hf : fin .f64 x = false := by unfold fin; rw [hr]; rfl
    have ho := order_not FloatKind.f64.format (x := x) (y := x) (.inl (by rw [hr]; rfl))
    rw [ho, hf]
    simp

theorem fin_read {x : Nat} (h : fin .f64 x = false) : (∃ s, FloatKind.f64.format.read x = .infinity s) ∨ (FloatKind.f64.format.read x).isNaN = true := by
  unfold fin at h
  cases hr : FloatKind.f64.format.read x with
  | number => rw [hr] at h; cases h
  | infinity s => exact .inl ⟨s, rfl⟩
  | nan => exact .inr rfl

theorem nan_fin {x : Nat} (h : (FloatKind.f64.format.read x).isNaN = true) : fin .f64 x = false := by
  unfold fin
  cases hr : FloatKind.f64.format.read x with
  | number => rw [hr] at h; cases h
  | infinity s => rw [hr] at h; cases h
  | nan => rfl

/-- A sum with what is not finite is not finite. -/
theorem add_bad {s q : Nat} (h : fin .f64 s = false ∨ fin .f64 q = false) (w : World) : fin .f64 (fres .add .f64 s q w) = false := by
  cases hf : floatBits .add .f64 s q with
  | none => exact nan_fin (fres_none w hf)
  | some r =>
    rw [fres_some w hf]
    simp only [floatBits, Format.add] at hf
    have hinf : ∀ b, fin .f64 (FloatKind.f64.format.write (.infinity b)) = false := by intro b; cases b <;> decide
    rcases h with h | h
    · rcases fin_read h with ⟨a, ha⟩ | ha
      · rw [ha] at hf
        cases hr : FloatKind.f64.format.read q with
        | number t m e =>
          rw [hr] at hf
          simp only [Datum.sum] at hf
          injection hf with hf
          rw [← hf]; exact hinf _
        | infinity t =>
          rw [hr] at hf
          cases a <;> cases t <;> simp [Datum.sum] at hf
          all_goals (rw [← hf]; exact hinf _)
        | nan t u => rw [hr] at hf; cases a <;> simp [Datum.sum] at hf
      · cases hr : FloatKind.f64.format.read s with
        | number => rw [hr] at ha; cases ha
        | infinity => rw [hr] at ha; cases ha
        | nan t u => rw [hr] at hf; simp [Datum.sum] at hf
    · rcases fin_read h with ⟨a, ha⟩ | ha
      · rw [ha] at hf
        cases hr : FloatKind.f64.format.read s with
        | number t m e =>
          rw [hr] at hf
          simp only [Datum.sum] at hf
          injection hf with hf
          rw [← hf]; exact hinf _
        | infinity t =>
          rw [hr] at hf
          cases a <;> cases t <;> simp [Datum.sum] at hf
          all_goals (rw [← hf]; exact hinf _)
        | nan t u => rw [hr] at hf; cases a <;> simp [Datum.sum] at hf
      · cases hr : FloatKind.f64.format.read q with
        | number => rw [hr] at ha; cases ha
        | infinity => rw [hr] at ha; cases ha
        | nan t u =>
          rw [hr] at hf
          cases hs : FloatKind.f64.format.read s <;> rw [hs] at hf <;> simp [Datum.sum] at hf

/-- A quotient by 0 is not finite. -/
theorem quo_bad {t g : Nat} (ht : ∃ m e, FloatKind.f64.format.read t = .number false m e) (hg : FloatKind.f64.format.order g 0 = some .eq) (w : World) : fin .f64 (fres .quo .f64 t g w) = false := by
  obtain ⟨m, e, ht⟩ := ht
  have z : FloatKind.f64.format.read 0 = .number false 0 (-1074) := by decide
  obtain ⟨b, j, hr⟩ : ∃ b j, FloatKind.f64.format.read g = .number b 0 j := by
    unfold Format.order at hg
    rw [z] at hg
    cases hr : FloatKind.f64.format.read g with
    | number b n j =>
      refine ⟨b, j, ?_⟩
      rw [hr] at hg
      have hn : n = 0 := by
        cases n with
        | zero => rfl
        | succ n =>
          exfalso
          have hp : (0 : Nat) < 2 ^ (j - min j (-1074)).toNat := Nat.two_pow_pos _
          simp only [Datum.order] at hg
          injection hg with hg
          rw [Int.compare_eq_eq] at hg
          unfold signed at hg
          simp only [Bool.false_eq_true, if_false] at hg
          have hne : ((((n + 1) * 2 ^ (j - min j (-1074)).toNat : Nat)) : Int) ≠ 0 := by
            have : 0 < (n + 1) * 2 ^ (j - min j (-1074)).toNat := Nat.mul_pos (Nat.succ_pos _) hp
            omega
          cases b <;> simp at hg <;> omega
      rw [hn]
    | infinity b => rw [hr] at hg; cases b <;> simp [Datum.order] at hg
    | nan => rw [hr] at hg; simp [Datum.order] at hg
  cases hf : floatBits .quo .f64 t g with
  | none => exact nan_fin (fres_none w hf)
  | some r =>
    rw [fres_some w hf]
    have hinf : ∀ b, fin .f64 (FloatKind.f64.format.write (.infinity b)) = false := by intro b; cases b <;> decide
    simp only [floatBits, Format.div, ht, hr, Datum.quotient, if_true] at hf
    split at hf
    · cases hf
    · injection hf with hf
      rw [← hf]; exact hinf _

/-- The program's question, and what it gives. -/
theorem implFin7_t (x : Nat) (w : World) :
    Calls Try.prog 68 #[.float .f64 x] w fun e w' => e = .returned (if fin .f64 x then .tuple #[.float .f64 x, .bool true] else .tuple #[.float .f64 0, .bool false]) ∧ w = w' := by
  have hq := fin_asked x
  obtain ⟨i, hi⟩ : ∃ i, infB x = i := ⟨_, rfl⟩
  obtain ⟨n, hn⟩ : ∃ n, (FloatKind.f64.format.order x x != some .eq) = n := ⟨_, rfl⟩
  obtain ⟨f, hf⟩ : ∃ f, fin .f64 x = f := ⟨_, rfl⟩
  rw [hi, hn, hf] at hq
  have HI := Lib.hid hi
  have HN := Lib.hid hn
  rw [hf]
  clear hi hn hf
  go_enter Try.func68, Try.ntmps68
  cases i <;> cases n <;> cases f <;> simp at hq
  all_goals clear hq
  · go_wp2_with fail
    refine (isInf_all _ _).mono ?_
    rw [HI.out]
    rintro e w1 ⟨rfl, rfl⟩
    go_wp2_with fail
    refine (isNaN_all _ _).mono ?_
    rw [HN.out]
    rintro e w1 ⟨rfl, rfl⟩
    go_wp2_with fail
    go_ret2
    exact ⟨rfl, rfl⟩
  · go_wp2_with fail
    refine (isInf_all _ _).mono ?_
    rw [HI.out]
    rintro e w1 ⟨rfl, rfl⟩
    go_wp2_with fail
    refine (isNaN_all _ _).mono ?_
    rw [HN.out]
    rintro e w1 ⟨rfl, rfl⟩
    go_wp2_with fail
    go_ret2
    exact ⟨rfl, rfl⟩
  all_goals
    go_wp2_with fail
    refine (isInf_all _ _).mono ?_
    rw [HI.out]
    rintro e w1 ⟨rfl, rfl⟩
    go_wp2_with fail
    go_ret2
    exact ⟨rfl, rfl⟩

end Go.Proofs.Ytjacmojmjicmjaa
