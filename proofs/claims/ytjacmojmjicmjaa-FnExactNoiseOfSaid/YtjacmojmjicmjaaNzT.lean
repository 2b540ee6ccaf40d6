/-
  The noise of a chain of any stages, in floats: whatever the stages are, each operation of the loops is there (it may become too great, or 0, but no NaN).
-/
import Derived.Test.YtjacmojmjicmjaaNoise
namespace Go.Proofs.Ytjacmojmjicmjaa
open Go.RowKit Fl Ieee

/-- A word that stands for no negative number: a number, or infinity. -/
def Nn (x : Nat) : Prop := (∃ m e, FloatKind.f64.format.read x = .number false m e) ∨ FloatKind.f64.format.read x = .infinity false

theorem read_small {x : Nat} (h : x ≤ 9218868437227405312) : Nn x := by
  have e1 : FloatKind.f64.format.signWeight = 9223372036854775808 := by decide
  have e2 : FloatKind.f64.format.infRung = 9218868437227405312 := by decide
  have hd : x / 9223372036854775808 % 2 = 0 := by omega
  have hm : x % 9223372036854775808 = x := by omega
  unfold Nn Format.read
  simp only [e1, e2, hd, hm]
  split
  · exact .inl ⟨_, _, rfl⟩
  · split
    · exact .inl ⟨_, _, rfl⟩
    · split
      · exact .inr rfl
      · rename_i a b c
        exact absurd (by omega) c

theorem nn_write (m : Nat) (e : Int) : Nn (FloatKind.f64.format.write (.number false m e)) := by
  obtain ⟨R, hR, h⟩ := write_word FloatKind.f64.format m e
  rw [h false]
  have e2 : FloatKind.f64.format.infRung = 9218868437227405312 := by decide
  rw [e2] at hR
  exact read_small hR
theorem nn_inf : Nn (FloatKind.f64.format.write (.infinity false)) := read_small (by decide)

theorem signed_false (m k : Nat) : 0 ≤ signed false m k := by
  unfold signed
  rw [if_neg (by decide)]
  exact Int.natCast_nonneg _

theorem add_nn {x y : Nat} (hx : Nn x) (hy : Nn y) : ∃ r, floatBits .add .f64 x y = some r ∧ Nn r := by
  rcases hx with ⟨m, i, hx⟩ | hx <;> rcases hy with ⟨n, j, hy⟩ | hy
  · have h1 := signed_false m (i - min i j).toNat
    have h2 := signed_false n (j - min i j).toNat
    have hs : Datum.sum (.number false m i) (.number false n j) = some (.number false (signed false m (i - min i j).toNat + signed false n (j - min i j).toNat).natAbs (min i j)) := by
      unfold Datum.sum
      simp only
      congr 2
      split
      · rfl
      · exact decide_eq_false (by omega)
    exact ⟨_, by simp only [floatBits, Format.add, hx, hy, hs, Option.map_some]; rfl, nn_write _ _⟩
  · exact ⟨_, by simp only [floatBits, Format.add, hx, hy]; rfl, nn_inf⟩
  · exact ⟨_, by simp only [floatBits, Format.add, hx, hy]; rfl, nn_inf⟩
  · exact ⟨_, by simp only [floatBits, Format.add, hx, hy]; rfl, nn_inf⟩

/-- The product with a number that is not 0. -/
theorem mul_nn {x y : Nat} (hx : Nn x) (hy : ∃ m e, FloatKind.f64.format.read y = .number false m e ∧ m ≠ 0) : ∃ r, floatBits .mul .f64 x y = some r ∧ Nn r := by
  obtain ⟨n, j, hy, hn⟩ := hy
  rcases hx with ⟨m, i, hx⟩ | hx
  · exact ⟨_, by simp only [floatBits, Format.mul, hx, hy]; rfl, nn_write _ _⟩
  · refine ⟨_, by simp only [floatBits, Format.mul, hx, hy, Datum.product, if_neg hn]; rfl, nn_inf⟩

/-- The quotient of a number by what is not 0. -/
theorem quo_nn {x y : Nat} (hx : ∃ m e, FloatKind.f64.format.read x = .number false m e) (hy : Nn y) (h0 : ¬FloatKind.f64.format.order y 0 = some .eq) : ∃ r, floatBits .quo .f64 x y = some r ∧ Nn r := by
  obtain ⟨m, i, hx⟩ := hx
  rcases hy with ⟨n, j, hy⟩ | hy
  · have hn : n ≠ 0 := by
      rintro rfl
      apply h0
      have z : FloatKind.f64.format.read 0 = .number false 0 (-1074) := by decide
      unfold Format.order
      rw [hy, z]
      simp [Datum.order, signed]
    refine ⟨_, by simp only [floatBits, Format.div, hx, hy, Datum.quotient, if_neg hn]; rfl, nn_write _ _⟩
  · exact ⟨_, by simp only [floatBits, Format.div, hx, hy]; rfl, nn_write 0 0⟩

/-- A number that is not infinite. -/
theorem nn_num {x : Nat} (h : Nn x) (hn : num FloatKind.f64.format x) : ∃ m e, FloatKind.f64.format.read x = .number false m e := by
  rcases h with h | h
  · exact h
  · unfold num at hn
    rw [h] at hn
    cases hn

theorem V_sign {x : Nat} {s : Bool} {m : Nat} {e : Int} (h : FloatKind.f64.format.read x = .number s m e) (h0 : 0 < V FloatKind.f64.format x) : s = false := by
  unfold V at h0
  rw [h, val_mag] at h0
  cases s
  · rfl
  · exfalso
    have := mag_nonneg m e
    simp only [if_true] at h0
    grind

/-- One less than a number that is at least 1. -/
theorem sub_nn {n : Nat} (hf : num FloatKind.f64.format n) (h1 : 1 ≤ V FloatKind.f64.format n) (h2 : V FloatKind.f64.format n ≤ 1000000) : ∃ r, floatBits .sub .f64 n 4607182418800017408 = some r ∧ (∃ m e, FloatKind.f64.format.read r = .number false m e) := by
  obtain ⟨o1, o2⟩ := oneN
  have l := lim64.1
  have l2 := lim64.2
  obtain ⟨r, r1, r2, _⟩ := sub_spec .f64 hf (fin_num.1 o1) (by rw [o2]; grind) (by rw [o2]; grind)
  refine ⟨r, r1, nn_num ?_ r2⟩
  obtain ⟨s, m, i, hr⟩ := num_read hf
  have hs0 := V_sign hr (by grind)
  subst hs0
  obtain ⟨t, n', j, ho⟩ := num_read (fin_num.1 o1)
  have ht0 := V_sign ho (by rw [o2]; decide)
  subst ht0
  have v1 : val (.number false m i) = V FloatKind.f64.format n := by unfold V; rw [hr]
  have v2 : val (.number true n' j) = -1 := by
    have := opposite_val false n' j
    have e : val (.number false n' j) = 1 := by rw [← o2]; unfold V; rw [ho]
    rw [e] at this
    exact this
  obtain ⟨s', m', e', hs, hv⟩ := sum_val false true m n' i j
  have hs' : s' = false := by
    cases s'
    · rfl
    · exfalso
      unfold Datum.sum at hs
      simp only at hs
      injection hs with hs
      injection hs with ha hb hc
      rw [v1, v2, val_mag] at hv
      simp only [if_true] at hv
      have hp := p2_pos e'
      by_cases ht : signed false m (i - min i j).toNat + signed true n' (j - min i j).toNat = 0
      · rw [if_pos ht] at ha
        cases ha
      · have hm : m' ≠ 0 := by omega
        have hm' : (1 : Rat) ≤ (m' : Rat) := by simpa using Rat.natCast_le_natCast.2 (show 1 ≤ m' by omega)
        have := Rat.mul_pos (show (0 : Rat) < (m' : Rat) by grind) hp
        grind
  subst hs'
  have e : r = FloatKind.f64.format.write (.number false m' e') := by
    have : floatBits .sub .f64 n 4607182418800017408 = some (FloatKind.f64.format.write (.number false m' e')) := by
      simp only [floatBits, Format.sub, hr, ho, Datum.opposite]
      rw [show (!false) = true from rfl, hs]
      rfl
    rw [r1] at this
    injection this
  rw [e]
  exact nn_write _ _

/-- What a stage's numbers are. -/
theorem stage_nn {n h : Nat} (hs : stB n h = true) : num FloatKind.f64.format n ∧ 1 ≤ V FloatKind.f64.format n ∧ V FloatKind.f64.format n ≤ 1000000 ∧ (∃ m e, FloatKind.f64.format.read n = .number false m e) ∧ (∃ m e, FloatKind.f64.format.read h = .number false m e ∧ m ≠ 0) := by
  unfold stB at hs
  simp only [Bool.and_eq_true] at hs
  obtain ⟨⟨h1, h2⟩, h3, h4⟩ := hs
  obtain ⟨o1, o2⟩ := oneN
  have m1 : num FloatKind.f64.format 4696837146684686336 := by unfold num; decide
  have m2 : V FloatKind.f64.format 4696837146684686336 = 1000000 := by decide +kernel
  have top : FloatKind.f64.format.read 4696837146684686336 = .number false 8589934592000000 (-33) := by decide
  have zer : FloatKind.f64.format.read 0 = .number false 0 (-1074) := by decide
  have inf_no : ∀ x : Nat, leB x 4696837146684686336 = true → ∀ s, FloatKind.f64.format.read x = .infinity s → s = true := by
    intro x hx s hr
    cases s
    · exfalso
      unfold leB Format.order at hx
      rw [hr, top] at hx
      revert hx
      decide
    · rfl
  have nn : num FloatKind.f64.format n := by
    unfold num
    cases hr : FloatKind.f64.format.read n with
    | number s m e => rfl
    | infinity s =>
      exfalso
      have := inf_no n h2 s hr
      subst this
      have o3 : FloatKind.f64.format.read 4607182418800017408 = .number false 4503599627370496 (-52) := by decide
      unfold geB Format.order at h1
      rw [hr, o3] at h1
      revert h1
      decide
    | nan s t =>
      exfalso
      unfold geB Format.order at h1
      rw [hr] at h1
      revert h1
      cases FloatKind.f64.format.read 4607182418800017408 <;> simp [Datum.order]
  have nh : num FloatKind.f64.format h := by
    unfold num
    cases hr : FloatKind.f64.format.read h with
    | number s m e => rfl
    | infinity s =>
      exfalso
      have := inf_no h h4 s hr
      subst this
      unfold Format.order at h3
      rw [hr, zer] at h3
      revert h3
      decide
    | nan s t =>
      exfalso
      unfold Format.order at h3
      rw [hr, zer] at h3
      revert h3
      simp [Datum.order]
  have v1 : 1 ≤ V FloatKind.f64.format n := by
    have := order_spec _ nn (fin_num.1 o1)
    rw [o2] at this
    unfold geB at h1
    simp only [Bool.or_eq_true, beq_iff_eq] at h1
    rcases h1 with h1 | h1
    · have := this.2.2.1 h1; grind
    · have := this.2.1.1 h1; grind
  have v2 : V FloatKind.f64.format n ≤ 1000000 := by
    have := order_spec _ nn m1
    rw [m2] at this
    unfold leB at h2
    simp only [Bool.or_eq_true, beq_iff_eq] at h2
    rcases h2 with h2 | h2
    · have := this.1.1 h2; grind
    · have := this.2.1.1 h2; grind
  have v3 : 0 < V FloatKind.f64.format h := by
    have := order_spec _ nh zero64.1
    rw [zero64.2] at this
    exact this.2.2.1 (by simpa using h3)
  refine ⟨nn, v1, v2, ?_, ?_⟩
  · obtain ⟨s, m, e, hr⟩ := num_read nn
    have := V_sign hr (by grind)
    subst this
    exact ⟨m, e, hr⟩
  · obtain ⟨s, m, e, hr⟩ := num_read nh
    have := V_sign hr v3
    subst this
    refine ⟨m, e, hr, ?_⟩
    rintro rfl
    unfold V at v3
    rw [hr, val_mag] at v3
    simp at v3

/-! Lists. -/

/-- What NoiseOf gives of any stages, after k of them. -/
def noiseT : Nat → Nat → Nat → List (Nat × Nat) → Option Nat
  | _, s, _, [] => if fin .f64 s then some s else none
  | k, s, g, p :: ps => if stB p.1 p.2 && !(FloatKind.f64.format.order g 0 == some .eq) then noiseT (k + 1) (if k = 0 then p.1 else sB s p.1 g) (gB g p.2) ps else none

theorem noiseT_cons {k s g : Nat} {ws : List (Nat × Nat)} {n : Nat} (h : n < ws.length) {o : Option Nat} (F : noiseT k s g (ws.drop n) = o) :
    o = (if stB ws[n].1 ws[n].2 && !(FloatKind.f64.format.order g 0 == some .eq) then noiseT (k + 1) (if k = 0 then ws[n].1 else sB s ws[n].1 g) (gB g ws[n].2) (ws.drop (n + 1)) else none) := by
  rw [List.drop_eq_getElem_cons h] at F
  rw [← F]
  rfl

/-- What a round of the loop asks, of any stage. -/
structure RoundT (k s g n h : Nat) : Prop where
  gn : GnStep g h
  nz : k ≠ 0 → NzStep s g n h
  ng : Nn (gB g h)
  ns : Nn (if k = 0 then n else sB s n g)
theorem roundT_at {k s g n h : Nat} (hs : Nn s) (hg : Nn g) (st : stB n h = true) (g0 : ¬FloatKind.f64.format.order g 0 = some .eq) : RoundT k s g n h := by
  obtain ⟨a, b, c, d, e⟩ := stage_nn st
  obtain ⟨r, r1, r2⟩ := mul_nn hg e
  have eg : gB g h = r := by unfold gB; rw [r1]; rfl
  obtain ⟨t, t1, t2⟩ := sub_nn a b c
  have et : tB n = t := by unfold tB; rw [t1]; rfl
  obtain ⟨q, q1, q2⟩ := quo_nn t2 hg g0
  have eq : qB n g = q := by unfold qB; rw [et, q1]; rfl
  obtain ⟨u, u1, u2⟩ := add_nn hs q2
  have es : sB s n g = u := by unfold sB; rw [eq, u1]; rfl
  refine ⟨by unfold GnStep; rw [eg]; exact r1, fun _ => ⟨by rw [et]; exact t1, by rw [et, eq]; exact q1, by rw [eq, es]; exact u1, g0⟩, by rw [eg]; exact r2, ?_⟩
  split
  · exact .inl d
  · rw [es]; exact u2

end Go.Proofs.Ytjacmojmjicmjaa
