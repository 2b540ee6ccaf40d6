/-
  Two words of float32 that stand for the same number, not 0, are the same word. Narrowed again after the absolute value as float64, a part is its absolute value.
-/
import Derived.Test.YthbebgnjidaokaaMo
namespace Go.Proofs.Ythbebgnjidaokaa
open Go.RowKit Fl
open Ieee

/-- The number of a rung. -/
def rungV (f : Format) (r : Nat) : Rat := if r < f.binade then (r : Rat) * p2 f.leastPlace else ((f.binade + r % f.binade : Nat) : Rat) * p2 (f.leastPlace + (r / f.binade - 1 : Nat))

theorem rung_strict (f : Format) {r s : Nat} (h : r < s) : rungV f r < rungV f s := by
  have hB : 0 < f.binade := Nat.two_pow_pos _
  have hL := p2_pos f.leastPlace
  unfold rungV
  by_cases hr : r < f.binade
  · rw [if_pos hr]
    by_cases hs : s < f.binade
    · rw [if_pos hs]
      have : (r : Rat) < (s : Rat) := Rat.natCast_lt_natCast.2 h
      exact Rat.mul_lt_mul_of_pos_right this hL
    · rw [if_neg hs]
      have h1 : (r : Rat) * p2 f.leastPlace < ((f.binade + s % f.binade : Nat) : Rat) * p2 f.leastPlace :=
        Rat.mul_lt_mul_of_pos_right (Rat.natCast_lt_natCast.2 (by omega)) hL
      have h2 : ((f.binade + s % f.binade : Nat) : Rat) * p2 f.leastPlace ≤ ((f.binade + s % f.binade : Nat) : Rat) * p2 (f.leastPlace + (s / f.binade - 1 : Nat)) :=
        Rat.mul_le_mul_of_nonneg_left (p2_le (by omega)) Rat.natCast_nonneg
      grind
  · have hs : ¬ s < f.binade := by omega
    rw [if_neg hr, if_neg hs]
    have dr := Nat.div_add_mod r f.binade
    have ds := Nat.div_add_mod s f.binade
    have mr := Nat.mod_lt r hB
    have ms := Nat.mod_lt s hB
    have qr : 1 ≤ r / f.binade := (Nat.le_div_iff_mul_le hB).2 (by omega)
    have hq : r / f.binade ≤ s / f.binade := Nat.div_le_div_right (by omega)
    by_cases he : r / f.binade = s / f.binade
    · rw [← he]
      refine Rat.mul_lt_mul_of_pos_right (Rat.natCast_lt_natCast.2 ?_) (p2_pos _)
      rw [← he] at ds
      omega
    · have h1 : ((f.binade + r % f.binade : Nat) : Rat) * p2 (f.leastPlace + (r / f.binade - 1 : Nat)) < ((2 * f.binade : Nat) : Rat) * p2 (f.leastPlace + (r / f.binade - 1 : Nat)) :=
        Rat.mul_lt_mul_of_pos_right (Rat.natCast_lt_natCast.2 (by omega)) (p2_pos _)
      have e1 : ((2 * f.binade : Nat) : Rat) * p2 (f.leastPlace + (r / f.binade - 1 : Nat)) = (f.binade : Rat) * p2 (f.leastPlace + (r / f.binade : Nat)) := by
        have := p2_succ (f.leastPlace + (r / f.binade - 1 : Nat))
        rw [show f.leastPlace + ((r / f.binade - 1 : Nat) : Int) + 1 = f.leastPlace + ((r / f.binade : Nat) : Int) by omega] at this
        rw [this]
        simp
        grind
      have h2 : (f.binade : Rat) * p2 (f.leastPlace + (r / f.binade : Nat)) ≤ (f.binade : Rat) * p2 (f.leastPlace + (s / f.binade - 1 : Nat)) :=
        Rat.mul_le_mul_of_nonneg_left (p2_le (by omega)) Rat.natCast_nonneg
      have h3 : (f.binade : Rat) * p2 (f.leastPlace + (s / f.binade - 1 : Nat)) ≤ ((f.binade + s % f.binade : Nat) : Rat) * p2 (f.leastPlace + (s / f.binade - 1 : Nat)) :=
        Rat.mul_le_mul_of_nonneg_right (Rat.natCast_le_natCast.2 (by omega)) (Rat.le_of_lt (p2_pos _))
      grind

theorem rung_inj (f : Format) {r s : Nat} (h : rungV f r = rungV f s) : r = s := by
  rcases Nat.lt_trichotomy r s with g | g | g
  · have := rung_strict f g; grind
  · exact g
  · have := rung_strict f g; grind

theorem rung_nonneg (f : Format) (r : Nat) : 0 ≤ rungV f r := by
  unfold rungV
  split <;> exact mag_nonneg _ _

/-- What a finite word stands for. -/
theorem V_rung (f : Format) {x : Nat} (h : x % f.signWeight < f.infRung) : V f x = if x / f.signWeight % 2 == 1 then -rungV f (x % f.signWeight) else rungV f (x % f.signWeight) := by
  unfold V Format.read rungV
  by_cases hb : x % f.signWeight < f.binade
  · simp only [if_pos hb, val_mag]
  · simp only [if_neg hb, if_pos h, val_mag]

theorem rung_num {x : Nat} (h : num FloatKind.f32.format x) : x % FloatKind.f32.format.signWeight < FloatKind.f32.format.infRung := by
  obtain ⟨s, m, e, hr⟩ := num_read h
  by_cases hb : x % FloatKind.f32.format.signWeight < FloatKind.f32.format.infRung
  · exact hb
  · exfalso
    have hle : FloatKind.f32.format.binade ≤ FloatKind.f32.format.infRung := by decide
    have hb2 : ¬ x % FloatKind.f32.format.signWeight < FloatKind.f32.format.binade := by omega
    unfold Format.read at hr
    simp only [if_neg hb2, if_neg hb] at hr
    split at hr <;> cases hr

theorem word_inj {x y : Nat} (hx : x < 2 ^ 32) (hy : y < 2 ^ 32) (fx : num FloatKind.f32.format x) (fy : num FloatKind.f32.format y) (h : V FloatKind.f32.format x = V FloatKind.f32.format y) (h0 : V FloatKind.f32.format x ≠ 0) : x = y := by
  have rx := V_rung _ (rung_num fx)
  have ry := V_rung _ (rung_num fy)
  have px := rung_nonneg FloatKind.f32.format (x % FloatKind.f32.format.signWeight)
  have py := rung_nonneg FloatKind.f32.format (y % FloatKind.f32.format.signWeight)
  have hw : FloatKind.f32.format.signWeight = 2 ^ 31 := by decide
  have key : x % FloatKind.f32.format.signWeight = y % FloatKind.f32.format.signWeight ∧ (x / FloatKind.f32.format.signWeight % 2 == 1) = (y / FloatKind.f32.format.signWeight % 2 == 1) := by
    cases hsx : (x / FloatKind.f32.format.signWeight % 2 == 1) <;> cases hsy : (y / FloatKind.f32.format.signWeight % 2 == 1)
    · rw [hsx] at rx; rw [hsy] at ry
      simp only [Bool.false_eq_true, if_false] at rx ry
      exact ⟨rung_inj FloatKind.f32.format (by grind), rfl⟩
    · rw [hsx] at rx; rw [hsy] at ry
      simp only [Bool.false_eq_true, if_false, if_true] at rx ry
      grind
    · rw [hsx] at rx; rw [hsy] at ry
      simp only [Bool.false_eq_true, if_false, if_true] at rx ry
      grind
    · rw [hsx] at rx; rw [hsy] at ry
      simp only [if_true] at rx ry
      exact ⟨rung_inj FloatKind.f32.format (by grind), rfl⟩
  obtain ⟨k1, k2⟩ := key
  rw [hw] at k1 k2
  have dx : x / 2 ^ 31 < 2 := by omega
  have dy : y / 2 ^ 31 < 2 := by omega
  rw [Nat.mod_eq_of_lt dx, Nat.mod_eq_of_lt dy] at k2
  have : x / 2 ^ 31 = y / 2 ^ 31 := by
    have a : x / 2 ^ 31 = 0 ∨ x / 2 ^ 31 = 1 := by omega
    have b : y / 2 ^ 31 = 0 ∨ y / 2 ^ 31 = 1 := by omega
    rcases a with a | a <;> rcases b with b | b <;> rw [a, b] at k2 ⊢ <;> simp at k2
  omega

/-- The absolute value of a part that is not 0, taken as float64, and narrowed again. -/
theorem abs_narrow {x : Nat} (hx : fin .f32 x = true) (h : x < 2 ^ 32) (h0 : V FloatKind.f32.format x ≠ 0) (hB : absR (V FloatKind.f32.format x) ≤ 20000) :
    floatToFloatBits .f64 (yW x % 2 ^ 63) .f32 = some (if FloatKind.f32.format.order x 0 == some .lt then Op.negFloat .f32 x else x) := by
  obtain ⟨y1, y2, y3⟩ := yW_spec hx
  obtain ⟨a1, a2⟩ := abs_spec .f64 (fin_num.1 y2)
  rw [show FloatKind.f64.format.signWeight = 2 ^ 63 by decide] at a1 a2
  have a3 : V FloatKind.f64.format (yW x % 2 ^ 63) = absR (V FloatKind.f32.format x) := by rw [a2, y3]; rfl
  have hn := absR_nonneg (V FloatKind.f32.format x)
  have l := lim32.1
  obtain ⟨r, r1, r2, r3⟩ := narrow_spec a1 (by rw [a3]; grind) (by rw [a3]; grind)
  have hH : Has FloatKind.f32.format (absR (V FloatKind.f32.format x)) := by
    have hh := has_V FloatKind.f32.format x
    rcases absR_cases (V FloatKind.f32.format x) with ⟨_, e⟩ | ⟨_, e⟩
    · rw [e]; exact has_neg hh
    · rw [e]; exact hh
  rw [a3] at r3
  have r4 := rndV_exact r3 hH
  have rl : r < 2 ^ 32 := by
    unfold floatToFloatBits at r1
    rw [if_neg (by decide)] at r1
    split at r1
    · cases r1
    · injection r1 with r1
      rw [← r1]
      exact FloatKind.f32.format.write_lt _
    · split at r1
      · cases r1
      · injection r1 with r1
        rw [← r1]
        exact FloatKind.f32.format.write_lt _
  obtain ⟨z1, z2⟩ : num FloatKind.f32.format 0 ∧ V FloatKind.f32.format 0 = 0 := ⟨fin_num.1 (by decide), by decide +kernel⟩
  obtain ⟨o1, o2, o3⟩ := order_spec FloatKind.f32.format (fin_num.1 hx) z1
  rw [r1]
  congr 1
  rcases absR_cases (V FloatKind.f32.format x) with ⟨g, e⟩ | ⟨g, e⟩
  · have hlt : FloatKind.f32.format.order x 0 = some .lt := o1.2 (by rw [z2]; exact g)
    obtain ⟨n1, n2⟩ := neg_spec .f32 h (fin_num.1 hx)
    rw [hlt]
    simp only [beq_self_eq_true, if_true]
    exact word_inj rl (neg_lt .f32 h) r2 n1 (by rw [r4, e, n2]) (by rw [r4]; grind)
  · have hlt : FloatKind.f32.format.order x 0 ≠ some .lt := fun hh => by
      have := o1.1 hh
      grind
    rw [if_neg (by simpa using hlt)]
    exact word_inj rl h r2 (fin_num.1 hx) (by rw [r4, e]) (by rw [r4]; grind)

end Go.Proofs.Ythbebgnjidaokaa
