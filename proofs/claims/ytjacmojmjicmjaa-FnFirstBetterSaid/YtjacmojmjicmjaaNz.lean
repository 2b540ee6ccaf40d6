/-
  The noise of a chain of moderate stages, in floats: each step is there, the noise never less, the gain within bounds.
-/
import Derived.Test.YtjacmojmjicmjaaStgOk
import Derived.Test.YtjacmojmjicmjaaInv
namespace Go.Proofs.Ytjacmojmjicmjaa
open Go.RowKit Fl

def tB (n : Nat) : Nat := (floatBits .sub .f64 n 4607182418800017408).getD 0
def qB (n g : Nat) : Nat := (floatBits .quo .f64 (tB n) g).getD 0
def sB (s n g : Nat) : Nat := (floatBits .add .f64 s (qB n g)).getD 0
def gB (g h : Nat) : Nat := (floatBits .mul .f64 g h).getD 0

/-- A stage of moderate numbers. -/
structure Mod (n h : Nat) : Prop where
  ok : stB n h = true
  fn : fin .f64 n = true
  fh : fin .f64 h = true
  n1 : 1 ≤ V FloatKind.f64.format n
  n2 : V FloatKind.f64.format n ≤ 16
  h1 : 1 / 16 ≤ V FloatKind.f64.format h
  h2 : V FloatKind.f64.format h ≤ 16
/-- What is known after k stages. -/
structure NzInv (k : Nat) (s g : Nat) : Prop where
  fs : fin .f64 s = true
  fg : fin .f64 g = true
  s1 : 1 ≤ V FloatKind.f64.format s
  s2 : V FloatKind.f64.format s ≤ p2 (4 * k + 8)
  g1 : p2 (-(4 * (k : Int))) ≤ V FloatKind.f64.format g
  g2 : V FloatKind.f64.format g ≤ p2 (4 * k)
/-- The operations of a step. -/
structure NzStep (s g n h : Nat) : Prop where
  t : floatBits .sub .f64 n 4607182418800017408 = some (tB n)
  q : floatBits .quo .f64 (tB n) g = some (qB n g)
  s : floatBits .add .f64 s (qB n g) = some (sB s n g)
  g0 : ¬FloatKind.f64.format.order g 0 = some .eq
/-- The gain's step. -/
def GnStep (g h : Nat) : Prop := floatBits .mul .f64 g h = some (gB g h)

theorem has_p2 {e : Int} (h : -1074 ≤ e) : Has FloatKind.f64.format (p2 e) := by
  have t : FloatKind.f64.format.leastPlace = -1074 := by decide
  exact ⟨1, e, by decide, by rw [t]; exact h, by simp⟩
theorem oneN : fin .f64 4607182418800017408 = true ∧ V FloatKind.f64.format 4607182418800017408 = 1 := ⟨by decide, by decide +kernel⟩
theorem p2_4 (k : Nat) : p2 (4 * (k : Int) + 4) = 16 * p2 (4 * k) ∧ p2 (-(4 * ((k : Int) + 1))) = 1 / 16 * p2 (-(4 * (k : Int))) ∧ p2 (4 * (k : Int) + 8) = 256 * p2 (4 * k) ∧ p2 (4 * (k : Int)) * p2 (-(4 * (k : Int))) = 1 := by
  have a : p2 4 = 16 := by decide +kernel
  have b : p2 (-4) = 1 / 16 := by decide +kernel
  have c : p2 8 = 256 := by decide +kernel
  refine ⟨?_, ?_, ?_, ?_⟩
  · rw [p2_add, a]; grind
  · rw [show -(4 * ((k : Int) + 1)) = -4 + -(4 * (k : Int)) by omega, p2_add, b]
  · rw [p2_add, c]; grind
  · rw [← p2_add, show 4 * (k : Int) + -(4 * (k : Int)) = 0 by omega]
    decide +kernel

theorem gain_step {k s g n h : Nat} (hk : k ≤ 10) (I : NzInv k s g) (m : Mod n h) : GnStep g h ∧ fin .f64 (gB g h) = true ∧ p2 (-(4 * ((k + 1 : Nat) : Int))) ≤ V FloatKind.f64.format (gB g h) ∧ V FloatKind.f64.format (gB g h) ≤ p2 (4 * ((k + 1 : Nat) : Int)) := by
  obtain ⟨e1, e2, _, _⟩ := p2_4 k
  have g1 := I.g1
  have g2 := I.g2
  have h1 := m.h1
  have h2 := m.h2
  have l := lim64.1
  have big : p2 (4 * (k : Int)) ≤ p2 40 := p2_le (by omega)
  have b40 : p2 40 = 1099511627776 := by decide +kernel
  have pp := p2_pos (-(4 * (k : Int)))
  have u1 := Rat.mul_le_mul_of_nonneg_left h2 (show 0 ≤ V FloatKind.f64.format g by grind)
  have u2 := Rat.mul_le_mul_of_nonneg_left h1 (show 0 ≤ V FloatKind.f64.format g by grind)
  obtain ⟨r, r1, r2, r3⟩ := mul_spec .f64 (fin_num.1 I.fg) (fin_num.1 m.fh) (by grind) (by grind)
  have e : gB g h = r := by unfold gB; rw [r1]; rfl
  have c1 : ((k + 1 : Nat) : Int) = (k : Int) + 1 := by omega
  have hi := rndV_le r3 (has_p2 (e := 4 * ((k + 1 : Nat) : Int)) (by omega)) (by rw [c1, show 4 * ((k : Int) + 1) = 4 * (k : Int) + 4 by omega, e1]; grind)
  have lo := rndV_ge r3 (has_p2 (e := -(4 * ((k + 1 : Nat) : Int))) (by omega)) (by rw [c1, e2]; grind)
  rw [e]
  refine ⟨by unfold GnStep; rw [e]; exact r1, fin_num.2 r2, lo, hi⟩

theorem noise_step {k s g n h : Nat} (hk : k ≤ 10) (I : NzInv k s g) (m : Mod n h) : NzStep s g n h ∧ fin .f64 (sB s n g) = true ∧ V FloatKind.f64.format s ≤ V FloatKind.f64.format (sB s n g) ∧ V FloatKind.f64.format (sB s n g) ≤ p2 (4 * ((k + 1 : Nat) : Int) + 8) := by
  obtain ⟨o1, o2⟩ := oneN
  obtain ⟨e1, e2, e3, e4⟩ := p2_4 k
  have g1 := I.g1
  have g2 := I.g2
  have s1 := I.s1
  have s2 := I.s2
  have n1 := m.n1
  have n2 := m.n2
  have l := lim64.1
  have l2 := lim64.2
  have big : p2 (4 * (k : Int)) ≤ p2 40 := p2_le (by omega)
  have b40 : p2 40 = 1099511627776 := by decide +kernel
  have pp := p2_pos (-(4 * (k : Int)))
  have pq := p2_pos (4 * (k : Int))
  have hz : Has FloatKind.f64.format (0 : Rat) := ⟨0, 0, by decide, by decide, by simp⟩
  have h16 : Has FloatKind.f64.format (16 : Rat) := ⟨16, 0, by decide, by decide, by rw [p2_zero]; simp⟩
  obtain ⟨t, t1, t2, t3⟩ := sub_spec .f64 (fin_num.1 m.fn) (fin_num.1 o1) (by rw [o2]; grind) (by rw [o2]; grind)
  rw [o2] at t3
  have et : tB n = t := by unfold tB; rw [t1]; rfl
  have ta := rndV_ge t3 hz (by grind)
  have tb := rndV_le t3 h16 (by grind)
  have hg0 : V FloatKind.f64.format g ≠ 0 := by grind
  obtain ⟨X, hX⟩ : ∃ X : Rat, X * V FloatKind.f64.format g = V FloatKind.f64.format t := ⟨V FloatKind.f64.format t / V FloatKind.f64.format g, Rat.div_mul_cancel hg0⟩
  have X0 : 0 ≤ X := by
    rcases Rat.le_total (a := 0) (b := X) with y | y
    · exact y
    · by_cases hx : X = 0
      · rw [hx]; exact Rat.le_refl
      · exfalso
        have := Rat.mul_pos (show 0 < -X by grind) (show 0 < V FloatKind.f64.format g by grind)
        grind
  have X1 : X ≤ 16 * p2 (4 * (k : Int)) := by
    rcases Rat.le_total (a := X) (b := 16 * p2 (4 * (k : Int))) with y | y
    · exact y
    · by_cases hx : X = 16 * p2 (4 * (k : Int))
      · rw [hx]; exact Rat.le_refl
      · exfalso
        have a1 := Rat.mul_pos (show 0 < X - 16 * p2 (4 * (k : Int)) by grind) (show 0 < V FloatKind.f64.format g by grind)
        have a2 := Rat.mul_le_mul_of_nonneg_left g1 (show 0 ≤ 16 * p2 (4 * (k : Int)) by grind)
        grind
  obtain ⟨q, q1, q2, q3⟩ := quo_spec .f64 (fin_num.1 (fin_num.2 t2)) (fin_num.1 I.fg) hg0 X hX (by grind) (by grind)
  have eq : qB n g = q := by unfold qB; rw [et, q1]; rfl
  have qa := rndV_ge q3 hz X0
  have qb := rndV_le q3 (has_p2 (e := 4 * (k : Int) + 4) (by omega)) (by rw [e1]; exact X1)
  obtain ⟨s', s1', s2', s3'⟩ := add_spec .f64 (fin_num.1 I.fs) q2 (by grind) (by grind)
  have es : sB s n g = s' := by unfold sB; rw [eq, s1']; rfl
  have sa := rndV_ge s3' (has_V _ s) (by grind)
  have c1 : ((k + 1 : Nat) : Int) = (k : Int) + 1 := by omega
  have e5 : p2 (4 * ((k + 1 : Nat) : Int) + 8) = 4096 * p2 (4 * (k : Int)) := by
    rw [c1, show 4 * ((k : Int) + 1) + 8 = 12 + 4 * (k : Int) by omega, p2_add]
    have : p2 12 = 4096 := by decide +kernel
    rw [this]
  have sb := rndV_le s3' (has_p2 (e := 4 * ((k + 1 : Nat) : Int) + 8) (by omega)) (by rw [e5]; grind)
  rw [es]
  refine ⟨⟨by rw [et]; exact t1, by rw [et, eq]; exact q1, by rw [eq, es]; exact s1', ?_⟩, fin_num.2 s2', sa, sb⟩
  intro h0
  have := (order_spec _ (fin_num.1 I.fg) (zero64).1).2.1.1 h0
  rw [zero64.2] at this
  exact hg0 this

/-! Lists. -/

/-- A stage as the loops meet it: a moderate one, or none. -/
def Okay (p : Nat × Nat) : Prop := Mod p.1 p.2 ∨ stB p.1 p.2 = false
/-- The noise of the stages of a list, after k stages. -/
def noiseR : Nat → Nat → Nat → List (Nat × Nat) → Option Nat
  | _, s, _, [] => some s
  | k, s, g, p :: ps => if stB p.1 p.2 then noiseR (k + 1) (if k = 0 then p.1 else sB s p.1 g) (gB g p.2) ps else none
/-- What NoiseOf gives. -/
def noiseV (o : Option Nat) : Value := match o with
  | some s => .tuple #[.float .f64 s, .bool true]
  | none => .tuple #[.float .f64 0, .bool false]

/-- Ahead of the first stage nothing is known of the noise. -/
def NzAt (k s g : Nat) : Prop := (k = 0 ∧ g = 4607182418800017408 ∧ s = 0) ∨ (1 ≤ k ∧ NzInv k s g)

theorem gain_one {n h : Nat} (m : Mod n h) : GnStep 4607182418800017408 h ∧ NzInv 1 n (gB 4607182418800017408 h) := by
  obtain ⟨o1, o2⟩ := oneN
  have h1 := m.h1
  have h2 := m.h2
  have n1 := m.n1
  have n2 := m.n2
  have l := lim64.1
  obtain ⟨r, r1, r2, r3⟩ := mul_spec .f64 (fin_num.1 o1) (fin_num.1 m.fh) (by rw [o2]; grind) (by rw [o2]; grind)
  rw [o2, Rat.one_mul] at r3
  have v := rndV_exact r3 (has_V _ _)
  have e : gB 4607182418800017408 h = r := by unfold gB; rw [r1]; rfl
  have a : p2 (-(4 * ((1 : Nat) : Int))) = 1 / 16 := by decide +kernel
  have b : p2 (4 * ((1 : Nat) : Int)) = 16 := by decide +kernel
  have c : p2 (4 * ((1 : Nat) : Int) + 8) = 4096 := by decide +kernel
  rw [e]
  refine ⟨by unfold GnStep; rw [e]; exact r1, m.fn, fin_num.2 r2, n1, ?_, ?_, ?_⟩
  · rw [c]; grind
  · rw [a, v]; exact h1
  · rw [b, v]; exact h2

theorem inv_next {k s g n h : Nat} (hk : k ≤ 10) (I : NzInv k s g) (m : Mod n h) : NzInv (k + 1) (sB s n g) (gB g h) := by
  obtain ⟨_, f1, a, b⟩ := noise_step hk I m
  obtain ⟨_, f2, c, d⟩ := gain_step hk I m
  have := I.s1
  exact ⟨f1, f2, by grind, b, c, d⟩

end Go.Proofs.Ytjacmojmjicmjaa
