/-
  Sums, differences and narrowed numbers that are finite are rounded right, however great they are.
-/
import Derived.Test.YthbebgnjidaokaaNear
namespace Go.Proofs.Ythbebgnjidaokaa
namespace Fl
open Ieee

theorem nearest_spec' (f : Format) (he : 2 ≤ f.exponentBits) (hfb : f.binade ≤ f.infRung) (neg : Bool) (m : Nat) (place : Int) (hm : 0 < m)
    (hx : num f (f.nearest neg m place)) :
    ∃ m' e', f.read (f.nearest neg m place) = .number neg m' e' ∧ Rnd f ((m : Rat) * p2 place) ((m' : Rat) * p2 e') := by
  obtain ⟨hl1, hl2⟩ := log2_bounds hm
  unfold Format.nearest at hx ⊢
  rw [if_neg (by omega)] at hx ⊢
  simp only at hx ⊢
  generalize hlast : max (place + ↑m.log2 - ↑f.fractionBits) f.leastPlace = last at hx ⊢
  have hlow : f.leastPlace ≤ last := by omega
  have hge : place + ↑m.log2 - ↑f.fractionBits ≤ last := by omega
  have hor : last = f.leastPlace ∨ last = place + ↑m.log2 - ↑f.fractionBits := by omega
  clear hlast
  generalize hkept : Toward.even.cut neg (m <<< (place - last).toNat) (last - place).toNat = kept at hx ⊢
  obtain ⟨c1, c2⟩ := cut_even neg (m <<< (place - last).toNat) (last - place).toNat
  rw [hkept] at c1 c2
  rw [Nat.shiftLeft_eq] at c1 c2
  -- the value of what is cut, in units of the last place
  have hx1 : (m : Rat) * p2 place < p2 (place + m.log2 + 1) := by
    rw [show place + (m.log2 : Int) + 1 = (m.log2 + 1 : Int) + place by omega, p2_add]
    exact Rat.mul_lt_mul_of_pos_right hl2 (p2_pos place)
  have hx2 : p2 (place + m.log2) ≤ (m : Rat) * p2 place := by
    rw [show place + (m.log2 : Int) = (m.log2 : Int) + place by omega, p2_add]
    exact Rat.mul_le_mul_of_nonneg_right hl1 (Rat.le_of_lt (p2_pos place))
  have hplaces : place = ((place - last).toNat : Int) - ((last - place).toNat : Int) + last := by omega
  generalize (place - last).toNat = a at *
  generalize (last - place).toNat = b at *
  have r1 : 2 * ((kept : Rat) * p2 b) ≤ 2 * ((m : Rat) * p2 a) + p2 b := by
    rw [p2_nat, p2_nat]
    have := Rat.natCast_le_natCast.2 c1
    simpa [Rat.natCast_add, Rat.natCast_mul] using this
  have r2 : 2 * ((m : Rat) * p2 a) ≤ 2 * ((kept : Rat) * p2 b) + p2 b := by
    rw [p2_nat, p2_nat]
    have := Rat.natCast_le_natCast.2 c2
    simpa [Rat.natCast_add, Rat.natCast_mul] using this
  have hlb : p2 last = p2 b * p2 (last - b) := by rw [← p2_add]; congr 1; omega
  have hpa : p2 place = p2 a * p2 (last - b) := by rw [← p2_add]; congr 1; omega
  have hu : 0 ≤ p2 (last - b) := Rat.le_of_lt (p2_pos _)
  have s1 : 2 * ((kept : Rat) * p2 last) ≤ 2 * ((m : Rat) * p2 place) + p2 last := by
    have := Rat.mul_le_mul_of_nonneg_right r1 hu
    rw [hlb, hpa]; grind
  have s2 : 2 * ((m : Rat) * p2 place) ≤ 2 * ((kept : Rat) * p2 last) + p2 last := by
    have := Rat.mul_le_mul_of_nonneg_right r2 hu
    rw [hlb, hpa]; grind
  clear r1 r2 c1 c2 hkept hlb hpa hu
  generalize hX : (m : Rat) * p2 place = X at *
  have htop : X < p2 (last + f.fractionBits + 1) := by
    have := p2_le (show place + (m.log2 : Int) + 1 ≤ last + f.fractionBits + 1 by omega)
    grind
  -- how many units
  have hP : 0 < p2 last := p2_pos last
  have kle : kept ≤ 2 ^ (f.fractionBits + 1) := by
    have h1 : 2 * ((kept : Rat) * p2 last) < 2 * p2 (last + f.fractionBits + 1) + p2 last := by grind
    rw [show last + (f.fractionBits : Int) + 1 = ((f.fractionBits + 1 : Nat) : Int) + last by omega, p2_add, p2_nat] at h1
    have h2 : (2 * (kept : Rat)) * p2 last < (2 * ((2 ^ (f.fractionBits + 1) : Nat) : Rat) + 1) * p2 last := by grind
    have h3 := (Rat.mul_lt_mul_right hP).1 h2
    have h4 : ((2 * kept : Nat) : Rat) < ((2 * 2 ^ (f.fractionBits + 1) + 1 : Nat) : Rat) := by
      simpa [Rat.natCast_add, Rat.natCast_mul] using h3
    have := Rat.natCast_lt_natCast.1 h4
    omega
  have kge : last = f.leastPlace ∨ 2 ^ f.fractionBits ≤ kept := by
    rcases hor with h | h
    · exact .inl h
    · right
      have h0 : p2 (last + f.fractionBits) ≤ X := by rw [show last + (f.fractionBits : Int) = place + m.log2 by omega]; exact hx2
      rw [Int.add_comm, p2_add, p2_nat] at h0
      have h2 : (2 * ((2 ^ f.fractionBits : Nat) : Rat)) * p2 last ≤ (2 * (kept : Rat) + 1) * p2 last := by grind
      have h3 := Rat.le_of_mul_le_mul_right h2 hP
      have h4 : ((2 * 2 ^ f.fractionBits : Nat) : Rat) ≤ ((2 * kept + 1 : Nat) : Rat) := by
        simpa [Rat.natCast_add, Rat.natCast_mul] using h3
      have := Rat.natCast_le_natCast.1 h4
      omega
  -- no overflow
  have hE : ((2 ^ (f.exponentBits - 1) : Nat) : Int) = 2 ^ (f.exponentBits - 1) := by simp
  have hE2 : 2 ^ f.exponentBits = 2 * 2 ^ (f.exponentBits - 1) := by
    rw [← Nat.pow_succ']; congr 1; omega
  have hE3 : 2 ≤ 2 ^ (f.exponentBits - 1) := by
    have := Nat.pow_le_pow_right (n := 2) (by decide) (show 1 ≤ f.exponentBits - 1 by omega)
    simpa using this
  have hlp : f.leastPlace = 2 - ((2 ^ (f.exponentBits - 1) : Nat) : Int) - f.fractionBits := by unfold Format.leastPlace; rw [hE]
  have hin : f.infRung = (2 ^ f.exponentBits - 1) * 2 ^ f.fractionBits := rfl
  have hbin : f.binade = 2 ^ f.fractionBits := rfl
  generalize 2 ^ (f.exponentBits - 1) = H at *
  have hB : 0 < f.binade := by rw [hbin]; exact Nat.two_pow_pos _
  have hkB : kept ≤ 2 * f.binade := by rw [hbin]; rw [Nat.pow_succ] at kle; omega
  have hkB2 : last = f.leastPlace ∨ f.binade ≤ kept := by rw [hbin]; exact kge
  obtain ⟨L, hL⟩ : ∃ L : Nat, last = f.leastPlace + L := ⟨(last - f.leastPlace).toNat, by omega⟩
  have hL2 : (last - f.leastPlace).toNat = L := by omega
  rw [hL2] at hx
  have hmin : min (L * f.binade + kept) f.infRung < f.infRung := num_word hfb (Nat.min_le_right _ _) hx
  have hrung : L * f.binade + kept < f.infRung := by omega
  rw [hL2, Nat.min_eq_left (by omega), read_word f neg _ hrung]
  have fin : ∀ (m' : Nat) (e' : Int), (m' : Rat) * p2 e' = (kept : Rat) * p2 last → Rnd f X ((m' : Rat) * p2 e') := by
    intro m' e' h
    rw [h]
    refine ⟨last, kept, hlow, ?_, htop, rfl, s1, s2⟩
    rcases hor with h | h
    · exact .inl h
    · right
      rw [show last + (f.fractionBits : Int) = place + m.log2 by omega]; exact hx2
  by_cases hsub : L * f.binade + kept < f.binade
  · rw [if_pos hsub]
    refine ⟨_, _, rfl, fin _ _ ?_⟩
    have hL0 : L = 0 := by
      apply Classical.byContradiction
      intro hn
      have : 1 * f.binade ≤ L * f.binade := Nat.mul_le_mul_right _ (by omega)
      omega
    subst hL0
    rw [show last = f.leastPlace by omega, Nat.zero_mul, Nat.zero_add]
  · rw [if_neg hsub]
    refine ⟨_, _, rfl, fin _ _ ?_⟩
    have hkb : f.binade ≤ kept := by
      rcases hkB2 with h | h
      · have hL0 : L = 0 := by omega
        subst hL0; omega
      · exact h
    by_cases hk2 : kept < 2 * f.binade
    · have hd : (L * f.binade + kept) / f.binade = L + 1 := by
        rw [show L * f.binade + kept = (kept - f.binade) + f.binade * (L + 1) by rw [Nat.mul_add, Nat.mul_comm]; omega]
        rw [Nat.add_mul_div_left _ _ hB, Nat.div_eq_of_lt (by omega)]; omega
      have hr : (L * f.binade + kept) % f.binade = kept - f.binade := by
        rw [show L * f.binade + kept = (kept - f.binade) + f.binade * (L + 1) by rw [Nat.mul_add, Nat.mul_comm]; omega]
        rw [Nat.add_mul_mod_self_left, Nat.mod_eq_of_lt (by omega)]
      rw [hd, hr, show f.binade + (kept - f.binade) = kept by omega]
      congr 2
      omega
    · have hk : kept = 2 * f.binade := by omega
      subst hk
      have hd : (L * f.binade + 2 * f.binade) / f.binade = L + 2 := by
        rw [← Nat.add_mul, Nat.mul_div_cancel _ hB]
      have hr : (L * f.binade + 2 * f.binade) % f.binade = 0 := by
        rw [← Nat.add_mul, Nat.mul_mod_left]
      rw [hd, hr, show f.leastPlace + ((L + 2 - 1 : Nat) : Int) = last + 1 by omega, p2_succ]
      simp only [Nat.add_zero, Rat.natCast_mul]
      grind


theorem write_rnd' (k : FloatKind) {s : Bool} {m : Nat} {e : Int} (h : num k.format (k.format.write (.number s m e))) : RndV k.format (val (.number s m e)) (V k.format (k.format.write (.number s m e))) := by
  by_cases hm : m = 0
  · subst hm
    have hl := lim_pos k.format
    have z1 : val (.number s 0 e) = 0 := by cases s <;> simp [val]
    exact (write_rnd k.format (fmt_he k) (by rw [z1]; exact hl) (by rw [z1]; grind)).2
  · have hm' : 0 < m := by omega
    have hpos := mag_pos hm' e
    obtain ⟨m', e', hr, hrnd⟩ := nearest_spec' k.format (fmt_he k) (fmt_bin k) s m e hm' h
    have hr' : k.format.read (k.format.write (.number s m e)) = .number s m' e' := hr
    unfold V
    rw [hr', val_mag, val_mag]
    cases s
    · exact .inr (.inl ⟨by simpa using hpos, by simpa using hrnd⟩)
    · refine .inr (.inr ⟨?_, ?_⟩)
      · simp only [if_true]; grind
      · simpa [Rat.neg_neg] using hrnd

section
variable {k : FloatKind} {x y r : Nat}
theorem add_spec' (hx : num k.format x) (hy : num k.format y) (h : floatBits .add k x y = some r) (hr : num k.format r) : RndV k.format (V k.format x + V k.format y) (V k.format r) := by
  obtain ⟨s, m, i, hx⟩ := num_read hx
  obtain ⟨t, n, j, hy⟩ := num_read hy
  obtain ⟨s', m', e', hs, hv⟩ := sum_val s t m n i j
  have e : r = k.format.write (.number s' m' e') := by
    simp [floatBits, Format.add, hx, hy, hs] at h
    exact h.symm
  subst e
  have hv' : V k.format x + V k.format y = val (.number s' m' e') := by unfold V; rw [hx, hy, hv]
  rw [hv']
  exact write_rnd' k hr
theorem sub_spec' (hx : num k.format x) (hy : num k.format y) (h : floatBits .sub k x y = some r) (hr : num k.format r) : RndV k.format (V k.format x - V k.format y) (V k.format r) := by
  obtain ⟨s, m, i, hx⟩ := num_read hx
  obtain ⟨t, n, j, hy⟩ := num_read hy
  obtain ⟨s', m', e', hs, hv⟩ := sum_val s (!t) m n i j
  have ho : val (.number (!t) n j) = -val (.number t n j) := opposite_val t n j
  rw [ho, ← Rat.sub_eq_add_neg] at hv
  have e : r = k.format.write (.number s' m' e') := by
    simp [floatBits, Format.sub, hx, hy, hs, Datum.opposite] at h
    exact h.symm
  subst e
  have hv' : V k.format x - V k.format y = val (.number s' m' e') := by unfold V; rw [hx, hy, hv]
  rw [hv']
  exact write_rnd' k hr
theorem add_some (hx : num k.format x) (hy : num k.format y) : ∃ r, floatBits .add k x y = some r := by
  obtain ⟨s, m, i, hx⟩ := num_read hx
  obtain ⟨t, n, j, hy⟩ := num_read hy
  obtain ⟨s', m', e', hs, hv⟩ := sum_val s t m n i j
  exact ⟨k.format.write (.number s' m' e'), by simp [floatBits, Format.add, hx, hy, hs]⟩
end

end Fl
end Go.Proofs.Ythbebgnjidaokaa
