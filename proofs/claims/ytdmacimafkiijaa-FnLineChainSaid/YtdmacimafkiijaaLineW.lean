/-
  The chain matrix of a line with any impedance that is drawn is there; with a whole impedance it is near the known one; chains of two such lines.
-/
import Derived.Test.YtdmacimafkiijaaLineD
import Derived.Test.YtdmacimafkiijaaNearOf
namespace Go.Proofs.Ytdmacimafkiijaa
open Go.RowKit Fl
open Ieee

/-- Half the sum of what runs along and 1 divided by it. -/
theorem LineT.half {C S m n : Rat} (t : LineT C S m n) (hm : 7505 / 10000 ≤ m) : (n + m) / 2 ≤ 1042 / 1000 := by
  have m1 := t.m1
  have n0 := t.n0
  have n1 := t.n1
  have inv := t.inv
  have uge := t.u.ge
  have nm := Rat.mul_nonneg (show 0 ≤ n * m from Rat.mul_nonneg (by grind) (by grind)) (show 0 ≤ (C * C + S * S) - (1 - 1 / 10000000) by grind)
  have h1 : n * m * (1 - 1 / 10000000) ≤ 1 := by grind
  have h2 := Rat.mul_nonneg (show 0 ≤ m - 7505 / 10000 by grind) (show 0 ≤ 13325 / 10000 - m by grind)
  -- m (n + m) <= 2.083 m + a little
  have h3 : m * (n + m) ≤ m * (2083 / 1000 + 1 / 100000) := by grind
  have := Rat.le_of_mul_le_mul_left h3 (show 0 < m by grind)
  grind

theorem Cm.fst {a b : Nat} {X Y ε A : Rat} (h : Cm a b X Y ε) (hA : Md X Y A) : Md (V FloatKind.f32.format a) (V FloatKind.f32.format b) (A + ε) := h.at hA

theorem has64 (x : Nat) : Has FloatKind.f64.format (V FloatKind.f32.format x) := by
  have := has_prod x 1065353216
  have e : V FloatKind.f32.format 1065353216 = 1 := by decide +kernel
  rw [e, Rat.mul_one] at this
  exact this
theorem has64_abs (x : Nat) : Has FloatKind.f64.format (absR (V FloatKind.f32.format x)) := by
  rcases absR_cases (V FloatKind.f32.format x) with ⟨_, e⟩ | ⟨_, e⟩
  · rw [e]; exact has_neg (has64 x)
  · rw [e]; exact has64 x

theorem sum_le {x y : Rat} (h : Md x y (105 / 100)) : absR x + absR y ≤ 3 / 2 := by
  have sx : absR x * absR x = x * x := by rcases absR_cases x with ⟨_, e⟩ | ⟨_, e⟩ <;> rw [e] <;> grind
  have sy : absR y * absR y = y * y := by rcases absR_cases y with ⟨_, e⟩ | ⟨_, e⟩ <;> rw [e] <;> grind
  have d := sq_nonneg (absR x - absR y)
  obtain ⟨_, h1⟩ := h
  exact sq_le (by grind) (by decide +kernel)

/-- A quotient of a number that is not great by one that is not tiny. -/
theorem quo_some {d1 d2 x y : Nat} (f1 : fin .f32 d1 = true) (f2 : fin .f32 d2 = true) (fx : fin .f32 x = true) (fy : fin .f32 y = true) (hd : Md (V FloatKind.f32.format d1) (V FloatKind.f32.format d2) (105 / 100)) {K : Rat}
    (hK : Has FloatKind.f32.format K) (hK0 : 0 ≤ K) (hK1 : K < lim FloatKind.f32.format) (h : 3 / 2 ≤ K * absR (V FloatKind.f32.format x) ∨ 3 / 2 ≤ K * absR (V FloatKind.f32.format y)) :
    ∃ e f, QuoW d1 d2 x y e f ∧ Fin2 e f := by
  have hs := sum_le hd
  have b1 := hd.fst
  have b2 := hd.snd
  have hK6 : Has FloatKind.f64.format K := by
    obtain ⟨t, L, g1, g2, g3⟩ := hK
    exact ⟨t, L, Nat.le_trans g1 (by decide), Int.le_trans (by decide) g2, g3⟩
  have hS : Has FloatKind.f64.format (3 / 2) := ⟨3, -1, by decide, by decide, by decide +kernel⟩
  have l1 : (105 / 100 : Rat) ≤ p2 128 := by decide +kernel
  have l2 : (3 / 2 : Rat) ≤ p2 129 := by decide +kernel
  obtain ⟨e, f, hq, he, hf, _, _⟩ := quo64_fin f1 f2 fx fy (has64_abs d1) (by grind) (has64_abs d2) (by grind) hS l2 hs Rat.le_refl Rat.le_refl (by
    have z : absR 0 = 0 := by decide +kernel
    rcases h with h | h
    · left; intro e; rw [e, z, Rat.mul_zero] at h; exact absurd h (by decide +kernel)
    · right; intro e; rw [e, z, Rat.mul_zero] at h; exact absurd h (by decide +kernel)) hK6 hK hK0 hK1 h
  exact ⟨e, f, hq, by show (fin .f32 e && fin .f32 f) = true; rw [he, hf]; rfl⟩

/-- Every impedance that is drawn, finite and not 0: it is not great, and 1 divided by it is neither. -/
theorem z_kind {x y : Nat} (h : ZOk x y) (fx : fin .f32 x = true) (fy : fin .f32 y = true) (hz : (FloatKind.f32.format.order x 0 == some .eq && FloatKind.f32.format.order y 0 == some .eq) = false) :
    Md (V FloatKind.f32.format x) (V FloatKind.f32.format y) 305000000000000000000000000000000000000 ∧ ∃ K, Has FloatKind.f32.format K ∧ 0 ≤ K ∧ K < lim FloatKind.f32.format ∧ (3 / 2 ≤ K * absR (V FloatKind.f32.format x) ∨ 3 / 2 ≤ K * absR (V FloatKind.f32.format y)) := by
  have hm : ∀ m : Int, -25000 ≤ m → m ≤ 100000 → absR (V FloatKind.f32.format (milliB m)) ≤ 20000 := by
    intro m h0 h1
    exact small_of_k (by rw [kOf_milli (by omega) (by omega)]; omega)
  have hn : ∀ m : Int, -25000 ≤ m → m ≤ 100000 → m ≠ 0 → (1 : Rat) / 2000 ≤ absR (V FloatKind.f32.format (milliB m)) := fun m h0 h1 h2 => (milli_big (okM_iff.2 ⟨by omega, by omega⟩) h2).2
  have small : ∀ {x y : Nat}, absR (V FloatKind.f32.format x) ≤ 20000 → absR (V FloatKind.f32.format y) ≤ 20000 → Md (V FloatKind.f32.format x) (V FloatKind.f32.format y) 305000000000000000000000000000000000000 := fun h1 h2 => (Md.of h1 h2).le (by decide +kernel)
  have k14 : Has FloatKind.f32.format 4096 ∧ (0 : Rat) ≤ 4096 ∧ (4096 : Rat) < lim FloatKind.f32.format := ⟨by simpa using has_int (f := FloatKind.f32.format) (by decide) 4096 (by decide), by decide +kernel, by decide +kernel⟩
  have k1 : Has FloatKind.f32.format 1 ∧ (0 : Rat) ≤ 1 ∧ (1 : Rat) < lim FloatKind.f32.format := ⟨by simpa using has_int (f := FloatKind.f32.format) (by decide) 1 (by decide), by decide +kernel, by decide +kernel⟩
  have z32 : V FloatKind.f32.format 0 = 0 := zero32.2
  rcases h with ⟨n, n0, n1, rfl, rfl⟩ | ⟨x', y', re, im, e, r0, r1, i0, i1, h⟩
  · have h1 := hm (1000 * n) (by omega) (by omega)
    have h2 := hn (1000 * n) (by omega) (by omega) (by omega)
    exact ⟨small h1 (by rw [z32]; decide +kernel), 4096, k14.1, k14.2.1, k14.2.2, .inl (by grind)⟩
  · injection e with _ e1 e2
    subst e1; subst e2
    rcases h with ⟨rfl, rfl⟩ | ⟨_, ⟨rfl, _⟩ | ⟨_, hnn, _⟩ | ⟨rfl, rfl⟩ | ⟨rfl, rfl⟩ | ⟨h1, h2⟩ | ⟨rfl, rfl⟩⟩
    · refine ⟨small (hm _ r0 (by omega)) (hm _ i0 (by omega)), 4096, k14.1, k14.2.1, k14.2.2, ?_⟩
      by_cases hr : re = 0
      · by_cases hi : im = 0
        · exfalso
          subst hr; subst hi
          have e0 : milliB 0 = 0 := by decide +kernel
          rw [e0] at hz
          exact absurd hz (by decide)
        · have := hn im (by omega) (by omega) hi
          exact .inr (by grind)
      · have := hn re (by omega) (by omega) hr
        exact .inl (by grind)
    · exact absurd fx (by decide)
    · exfalso
      have := fin_not_nan fy
      rw [hnn] at this
      cases this
    · exact ⟨⟨by decide +kernel, by decide +kernel⟩, 1, k1.1, k1.2.1, k1.2.2, .inl (by decide +kernel)⟩
    · refine ⟨⟨by decide +kernel, by decide +kernel⟩, 15 * p2 123, ⟨15, 123, by decide, by decide, by simp⟩, by decide +kernel, by decide +kernel, .inl (by decide +kernel)⟩
    · exfalso
      rcases h1 with rfl | rfl <;> rcases h2 with rfl | rfl <;> exact absurd hz (by decide)
    · have hr := hm re r0 (by omega)
      have s := (absR_le.1 (ab_mul hr hr)).1
      have hx : V FloatKind.f32.format 2137108966 * V FloatKind.f32.format 2137108966 + 20000 * 20000 ≤ 305000000000000000000000000000000000000 * 305000000000000000000000000000000000000 := by decide +kernel
      exact ⟨⟨by decide +kernel, by grind⟩, 1, k1.1, k1.2.1, k1.2.2, .inl (by decide +kernel)⟩

/-- The matrix of a line with such an impedance is there. -/
theorem lineZ_at {x y : Nat} (h : ZOk x y) (fx : fin .f32 x = true) (fy : fin .f32 y = true) (hz : (FloatKind.f32.format.order x 0 == some .eq && FloatKind.f32.format.order y 0 == some .eq) = false)
    {e f q1 q2 s1 s2 d1 d2 : Nat} {C S m n : Rat} (t : LineT C S m n) (hm : 7505 / 10000 ≤ m) (L : Line e f q1 q2 s1 s2 d1 d2 C S m n) : ∃ b1 b2 c1 c2, LineZ x y s1 s2 d1 d2 b1 b2 c1 c2 := by
  obtain ⟨mz, K, k1, k2, k3, k4⟩ := z_kind h fx fy hz
  have hh := t.half hm
  have m1 := t.m1
  have n0 := t.n0
  have mD : Md ((n - m) / 2 * C) ((n + m) / 2 * S) (1042 / 1000) := md_scale t.u.le (absR_le.2 ⟨by grind, by grind⟩) (absR_le.2 ⟨by grind, by grind⟩)
  have hd := (L.nd.at mD).le (B := 105 / 100) (by decide +kernel)
  have hd' := (L.nd.at mD).le (B := 1043 / 1000) (by decide +kernel)
  have mm := (mz.mul hd').le (B := 319000000000000000000000000000000000000) (by decide +kernel)
  obtain ⟨b1, b2, hb, fb1, fb2, _, _, _, _⟩ := cmul_gen fx fy L.nd.1 L.nd.2.1 (by decide +kernel) (by decide +kernel) mm.fst mm.snd
  obtain ⟨c1, c2, hc, fc⟩ := quo_some L.nd.1 L.nd.2.1 fx fy hd k1 k2 k3 k4
  refine ⟨b1, b2, c1, c2, hb, hc, ?_, by rw [fx, fy]; rfl, hz⟩
  unfold finTwo
  rw [L.ns.f2, fc, fb1, fb2]
  rfl

end Go.Proofs.Ytdmacimafkiijaa
