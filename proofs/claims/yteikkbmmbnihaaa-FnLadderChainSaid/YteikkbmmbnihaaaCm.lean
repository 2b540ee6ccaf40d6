/-
  Nearness of complex64 numbers in the plane: by how far a number is off a known one, as a distance; sums, differences, products and quotients.
-/
import Derived.Test.YteikkbmmbnihaaaNc
namespace Go.Proofs.Yteikkbmmbnihaaa
open Go.RowKit Fl
open Ieee

theorem sq_le {a b : Rat} (h : a * a ≤ b * b) (hb : 0 ≤ b) : a ≤ b := by
  rcases Rat.le_total (a := a) (b := b) with g | g
  · exact g
  · by_cases he : a = b
    · grind
    · have := Rat.mul_pos (show 0 < a - b by grind) (show 0 < a + b by grind)
      grind

/-- The point (x, y) is not farther than A from 0. -/
def Md (x y A : Rat) : Prop := 0 ≤ A ∧ x * x + y * y ≤ A * A

theorem Md.zero : Md 0 0 0 := ⟨by decide +kernel, by decide +kernel⟩
theorem Md.le {x y A B : Rat} (h : Md x y A) (hB : A ≤ B) : Md x y B := by
  obtain ⟨h0, h1⟩ := h
  refine ⟨by grind, ?_⟩
  have := Rat.mul_nonneg (show 0 ≤ B - A by grind) (show 0 ≤ B + A by grind)
  grind
theorem Md.neg {x y A : Rat} (h : Md x y A) : Md (-x) (-y) A := ⟨h.1, by have := h.2; grind⟩
theorem Md.to {x y z w A : Rat} (h : Md x y A) (h1 : x = z) (h2 : y = w) : Md z w A := by rw [← h1, ← h2]; exact h
theorem Md.add {x y z w A B : Rat} (h1 : Md x y A) (h2 : Md z w B) : Md (x + z) (y + w) (A + B) := by
  obtain ⟨a0, a1⟩ := h1
  obtain ⟨b0, b1⟩ := h2
  have s := sq_nonneg (x * w - y * z)
  have m1 := Rat.mul_le_mul_of_nonneg_right a1 (show 0 ≤ z * z + w * w by have := sq_nonneg z; have := sq_nonneg w; grind)
  have m2 := Rat.mul_le_mul_of_nonneg_left b1 (show 0 ≤ A * A from Rat.mul_nonneg a0 a0)
  have ab := Rat.mul_nonneg a0 b0
  have key : x * z + y * w ≤ A * B := sq_le (by grind) ab
  exact ⟨by grind, by grind⟩
theorem Md.mul {x y z w A B : Rat} (h1 : Md x y A) (h2 : Md z w B) : Md (x * z - y * w) (x * w + y * z) (A * B) := by
  obtain ⟨a0, a1⟩ := h1
  obtain ⟨b0, b1⟩ := h2
  have m1 := Rat.mul_le_mul_of_nonneg_right a1 (show 0 ≤ z * z + w * w by have := sq_nonneg z; have := sq_nonneg w; grind)
  have m2 := Rat.mul_le_mul_of_nonneg_left b1 (show 0 ≤ A * A from Rat.mul_nonneg a0 a0)
  exact ⟨Rat.mul_nonneg a0 b0, by grind⟩
theorem Md.fst {x y A : Rat} (h : Md x y A) : absR x ≤ A := by
  obtain ⟨h0, h1⟩ := h
  have s := sq_nonneg y
  exact absR_le.2 ⟨sq_le (by grind) h0, by have := sq_le (a := -x) (b := A) (by grind) h0; grind⟩
theorem Md.snd {x y A : Rat} (h : Md x y A) : absR y ≤ A := by
  obtain ⟨h0, h1⟩ := h
  have s := sq_nonneg x
  exact absR_le.2 ⟨sq_le (by grind) h0, by have := sq_le (a := -y) (b := A) (by grind) h0; grind⟩
theorem Md.of {x y a : Rat} (h1 : absR x ≤ a) (h2 : absR y ≤ a) : Md x y (3 / 2 * a) := by
  have h0 := ab_nonneg h1
  have s1 : x * x ≤ a * a := by
    have := (absR_le.1 (ab_mul h1 h1)).1
    exact this
  have s2 : y * y ≤ a * a := by
    have := (absR_le.1 (ab_mul h2 h2)).1
    exact this
  have := Rat.mul_nonneg h0 h0
  exact ⟨by grind, by grind⟩

/-- A number of these words is near X + Yi. -/
def Cm (a b : Nat) (X Y ε : Rat) : Prop := fin .f32 a = true ∧ fin .f32 b = true ∧ Md (V FloatKind.f32.format a - X) (V FloatKind.f32.format b - Y) ε

theorem Cm.of {a b : Nat} {X Y : Rat} (ha : fin .f32 a = true) (hb : fin .f32 b = true) (h1 : V FloatKind.f32.format a = X) (h2 : V FloatKind.f32.format b = Y) : Cm a b X Y 0 := by
  refine ⟨ha, hb, ?_⟩
  rw [h1, h2]
  exact Md.zero.to (by grind) (by grind)
theorem Cm.le {a b : Nat} {X Y ε δ : Rat} (h : Cm a b X Y ε) (hd : ε ≤ δ) : Cm a b X Y δ := ⟨h.1, h.2.1, h.2.2.le hd⟩
theorem Cm.to {a b : Nat} {X Y Z W ε : Rat} (h : Cm a b X Y ε) (h1 : X = Z) (h2 : Y = W) : Cm a b Z W ε := by rw [← h1, ← h2]; exact h
theorem Cm.move {a b : Nat} {X Y Z W ε δ : Rat} (h : Cm a b X Y ε) (h1 : Md (X - Z) (Y - W) δ) : Cm a b Z W (ε + δ) :=
  ⟨h.1, h.2.1, (h.2.2.add h1).to (by grind) (by grind)⟩
theorem Cm.at {a b : Nat} {X Y ε A : Rat} (h : Cm a b X Y ε) (hA : Md X Y A) : Md (V FloatKind.f32.format a) (V FloatKind.f32.format b) (A + ε) :=
  ((h.2.2.add hA).to (by grind) (by grind)).le (by grind)

/-- A product of numbers near X + Yi and Z + Wi. -/
theorem Cm.mul {a b c d : Nat} {X Y Z W ε δ : Rat} (h1 : Cm a b X Y ε) (h2 : Cm c d Z W δ) (A B η : Rat) (hX : Md X Y A) (hZ : Md Z W B)
    (hl : p2 (-60) ≤ (A + ε) * (B + δ)) (hu : (A + ε) * (B + δ) ≤ 320000000000000000000000000000000000000) (hη : A * δ + B * ε + ε * δ + 3 / 2 * ((A + ε) * (B + δ) * p2 (-22)) ≤ η) :
    ∃ e f, (∀ (P : Program) (t : TypeId) (w : World), (binOp .mul t (.complex .f32 a b) (.complex .f32 c d)).run P w = .ok (.complex .f32 e f) w) ∧ Cm e f (X * Z - Y * W) (X * W + Y * Z) η := by
  have m := (h1.at hX).mul (h2.at hZ)
  obtain ⟨ha, hb, m1⟩ := h1
  obtain ⟨hc, hd, m2⟩ := h2
  obtain ⟨e, f, hm, he, hf, e3, f3, _, _⟩ := cmul_gen ha hb hc hd hl hu m.fst m.snd
  refine ⟨e, f, hm, he, hf, ?_⟩
  have r := Md.of e3 f3
  have p1 := hX.mul m2
  have p2' := m1.mul hZ
  have p3 := m1.mul m2
  exact ((r.add ((p1.add p2').add p3)).to (by grind) (by grind)).le (by grind)

theorem Cm.add {a b c d : Nat} {X Y Z W ε δ : Rat} (h1 : Cm a b X Y ε) (h2 : Cm c d Z W δ) (S η : Rat) (hS : Md (X + Z) (Y + W) (S - ε - δ)) (hl : p2 (-60) ≤ S) (hu : S ≤ 100000000000000000000)
    (hη : ε + δ + 3 / 2 * (S * p2 (-23)) ≤ η) : AddOk a c ∧ AddOk b d ∧ Cm (addB a c) (addB b d) (X + Z) (Y + W) η := by
  have n := h1.2.2.add h2.2.2
  have m : Md (V FloatKind.f32.format a + V FloatKind.f32.format c) (V FloatKind.f32.format b + V FloatKind.f32.format d) S := ((n.add hS).to (by grind) (by grind)).le (by grind)
  have z : ∀ x : Rat, absR (x - x) ≤ 0 := fun x => absR_le.2 ⟨by grind, by grind⟩
  obtain ⟨p1, q1, r1⟩ := part_add (η := S * p2 (-23)) h1.1 h2.1 (z _) (z _) (by have := m.fst; grind) hl hu (by grind)
  obtain ⟨p2', q2, r2⟩ := part_add (η := S * p2 (-23)) h1.2.1 h2.2.1 (z _) (z _) (by have := m.snd; grind) hl hu (by grind)
  exact ⟨⟨fun w => fres_some w p1, fask_some p1⟩, ⟨fun w => fres_some w p2', fask_some p2'⟩, q1, q2, (((Md.of r1 r2).add n).to (by grind) (by grind)).le (by grind)⟩

theorem Cm.sub {a b c d : Nat} {X Y Z W ε δ : Rat} (h1 : Cm a b X Y ε) (h2 : Cm c d Z W δ) (S η : Rat) (hS : Md (X - Z) (Y - W) (S - ε - δ)) (hl : p2 (-60) ≤ S) (hu : S ≤ 100000000000000000000)
    (hη : ε + δ + 3 / 2 * (S * p2 (-23)) ≤ η) : SubOk a c ∧ SubOk b d ∧ Cm (subB a c) (subB b d) (X - Z) (Y - W) η := by
  have n := h1.2.2.add h2.2.2.neg
  have m : Md (V FloatKind.f32.format a - V FloatKind.f32.format c) (V FloatKind.f32.format b - V FloatKind.f32.format d) S := ((n.add hS).to (by grind) (by grind)).le (by grind)
  have z : ∀ x : Rat, absR (x - x) ≤ 0 := fun x => absR_le.2 ⟨by grind, by grind⟩
  obtain ⟨p1, q1, r1⟩ := part_sub (η := S * p2 (-23)) h1.1 h2.1 (z _) (z _) (by have := m.fst; grind) hl hu (by grind)
  obtain ⟨p2', q2, r2⟩ := part_sub (η := S * p2 (-23)) h1.2.1 h2.2.1 (z _) (z _) (by have := m.snd; grind) hl hu (by grind)
  exact ⟨⟨fun w => fres_some w p1, fask_some p1⟩, ⟨fun w => fres_some w p2', fask_some p2'⟩, q1, q2, (((Md.of r1 r2).add n).to (by grind) (by grind)).le (by grind)⟩

theorem quo_budget {x y ε k s : Rat} (h : x ≤ y) (hη : ε + k + 3 / 2 * y ≤ s) : 3 / 2 * x + ε + k ≤ s := by grind

/-- A quotient of numbers near X + Yi and Z + Wi, where (Z + Wi)(U + Ti) = X + Yi, and Z + Wi is at least m from 0. -/
theorem Cm.quo {a b c d : Nat} {X Y Z W U T ε δ : Rat} (h1 : Cm a b X Y ε) (h2 : Cm c d Z W δ) (A B K m η : Rat) (hX : Md X Y A) (hZ : Md Z W B) (hU : Md U T K) (hq1 : Z * U - W * T = X) (hq2 : Z * T + W * U = Y)
    (hm : m * m ≤ Z * Z + W * W) (hA : 1 / 1073741824 ≤ A + ε) (hA2 : A + ε ≤ 268435456) (hB : B + δ ≤ 1073741824) (hd : 1 / 1000000 ≤ m - δ)
    (hη : ε + δ * K + 3 / 2 * ((A + ε) * (1 / 2000000)) ≤ η * (m - δ)) (hη0 : 0 ≤ η) :
    ∃ e f, (∀ (P : Program) (t : TypeId) (w : World), (binOp .quo t (.complex .f32 a b) (.complex .f32 c d)).run P w = .ok (.complex .f32 e f) w) ∧ Cm e f U T η := by
  have mA := h1.at hX
  have mB := h2.at hZ
  obtain ⟨ha, hb, m1⟩ := h1
  obtain ⟨hc, hdd, m2⟩ := h2
  obtain ⟨k28, k30, k31⟩ := p2_28
  have d0 := m2.1
  -- what is divided by is not near 0
  have low : (m - δ) * (m - δ) ≤ V FloatKind.f32.format c * V FloatKind.f32.format c + V FloatKind.f32.format d * V FloatKind.f32.format d := by
    generalize hR : V FloatKind.f32.format c * V FloatKind.f32.format c + V FloatKind.f32.format d * V FloatKind.f32.format d = R
    rcases Rat.le_total (a := (m - δ) * (m - δ)) (b := R) with g | g
    · exact g
    · by_cases he : R = (m - δ) * (m - δ)
      · rw [he]; exact Rat.le_refl
      · exfalso
        -- then c, d is nearer than m - δ to 0, and Z, W nearer than m
        have q : Md (V FloatKind.f32.format c) (V FloatKind.f32.format d) (m - δ) := ⟨by grind, by rw [hR]; exact g⟩
        obtain ⟨s0, s1⟩ := (q.add m2.neg).to (z := Z) (w := W) (by grind) (by grind)
        have e : m - δ + δ = m := by grind
        rw [e] at s1
        -- equality everywhere: the strict one is lost
        have q' : ∃ r, 0 ≤ r ∧ r < m - δ ∧ R ≤ r * r := by
          refine ⟨(m - δ + R / (m - δ)) / 2, ?_, ?_, ?_⟩
          all_goals
            have hp : 0 < m - δ := by grind
            have hR0 : 0 ≤ R := by
              rw [← hR]
              have := sq_nonneg (V FloatKind.f32.format c)
              have := sq_nonneg (V FloatKind.f32.format d)
              grind
            have hd : R / (m - δ) * (m - δ) = R := Rat.div_mul_cancel (by grind)
            generalize R / (m - δ) = x at hd
          · have : 0 ≤ x := by
              rcases Rat.le_total (a := 0) (b := x) with h | h
              · exact h
              · by_cases hx : x = 0
                · grind
                · have := Rat.mul_pos (show 0 < -x by grind) hp
                  grind
            grind
          · have : x < m - δ := by
              rcases Rat.le_total (a := m - δ) (b := x) with h | h
              · exfalso
                have := Rat.mul_nonneg (show 0 ≤ x - (m - δ) by grind) (Rat.le_of_lt hp)
                grind
              · by_cases hx : x = m - δ
                · exfalso; rw [hx] at hd; grind
                · grind
            grind
          · have := sq_nonneg (m - δ - x)
            grind
        obtain ⟨r, r0, r1, r2⟩ := q'
        obtain ⟨t0, t1⟩ := ((show Md (V FloatKind.f32.format c) (V FloatKind.f32.format d) r from ⟨r0, by rw [hR]; exact r2⟩).add m2.neg).to (z := Z) (w := W) (by grind) (by grind)
        have := Rat.mul_pos (show 0 < m - (r + δ) by grind) (show 0 < m + (r + δ) by grind)
        grind
  -- the greater part
  obtain ⟨M, cM, dM, gM⟩ : ∃ M, absR (V FloatKind.f32.format c) ≤ M ∧ absR (V FloatKind.f32.format d) ≤ M ∧ (absR (V FloatKind.f32.format c) = M ∨ absR (V FloatKind.f32.format d) = M) := by
    rcases Rat.le_total (a := absR (V FloatKind.f32.format c)) (b := absR (V FloatKind.f32.format d)) with g | g
    · exact ⟨_, g, Rat.le_refl, .inr rfl⟩
    · exact ⟨_, Rat.le_refl, g, .inl rfl⟩
  have MB : M ≤ B + δ := by
    rcases gM with g | g
    · rw [← g]; exact mB.fst
    · rw [← g]; exact mB.snd
  have hM0 := ab_nonneg cM
  have hMl : 1 / 1073741824 ≤ M := by
    have s1 : V FloatKind.f32.format c * V FloatKind.f32.format c ≤ M * M := (absR_le.1 (ab_mul cM cM)).1
    have s2 : V FloatKind.f32.format d * V FloatKind.f32.format d ≤ M * M := (absR_le.1 (ab_mul dM dM)).1
    have := Rat.mul_nonneg (show 0 ≤ m - δ - 1 / 1000000 by grind) (show 0 ≤ m - δ + 1 / 1000000 by grind)
    exact sq_le (by grind) hM0
  obtain ⟨N, hN⟩ : ∃ N, M * N = 1 := ⟨1 / M, by rw [Rat.mul_comm]; exact Rat.div_mul_cancel (by grind)⟩
  obtain ⟨e, f, hq, he, hf, q1, q2, _, _⟩ := quo64_near ha hb hc hdd mA.fst mA.snd cM dM gM (by rw [k31]; grind) (by rw [k28]; grind) (by rw [k31]; grind) (by rw [k30]; grind) hN
  refine ⟨e, f, hq, he, hf, ?_⟩
  have r := Md.of q1 q2
  have hqe : (A + ε) * qe ≤ (A + ε) * (1 / 2000000) := Rat.mul_le_mul_of_nonneg_left qe_small (by grind)
  have p1 := m2.mul hU
  have t := ((r.add m1).add p1.neg).to (z := V FloatKind.f32.format c * (V FloatKind.f32.format e - U) - V FloatKind.f32.format d * (V FloatKind.f32.format f - T)) (w := V FloatKind.f32.format c * (V FloatKind.f32.format f - T) + V FloatKind.f32.format d * (V FloatKind.f32.format e - U)) (by grind) (by grind)
  obtain ⟨t0, t1⟩ := t.le (B := η * (m - δ)) (quo_budget hqe hη)
  refine ⟨hη0, ?_⟩
  generalize V FloatKind.f32.format e - U = u at *
  generalize V FloatKind.f32.format f - T = v at *
  have uv : 0 ≤ u * u + v * v := by have := sq_nonneg u; have := sq_nonneg v; grind
  have l2 := Rat.mul_le_mul_of_nonneg_right low uv
  have pos : 0 < (m - δ) * (m - δ) := Rat.mul_pos (by grind) (by grind)
  exact Rat.le_of_mul_le_mul_right (show (u * u + v * v) * ((m - δ) * (m - δ)) ≤ η * η * ((m - δ) * (m - δ)) by grind) pos

end Go.Proofs.Yteikkbmmbnihaaa
