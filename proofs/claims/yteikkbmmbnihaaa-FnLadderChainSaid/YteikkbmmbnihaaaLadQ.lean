/-
  The chain of a ladder: it is there, its determinant is 1, and what is seen through it with 1 behind it is near the exact number.
-/
import Derived.Test.YteikkbmmbnihaaaLadR
import Derived.Test.YteikkbmmbnihaaaLadU
namespace Go.Proofs.Yteikkbmmbnihaaa
open Go.RowKit Fl
open Ieee

/-- All words of what is seen at a chain with 1 behind it. -/
structure AtW (m : Words) (x1 y1 x2 y2 o p : Nat) : Prop where
  m1 : MulW m.a m.b 1065353216 0 x1 y1
  s1 : AddOk x1 m.c
  s2 : AddOk y1 m.d
  m2 : MulW m.e m.f 1065353216 0 x2 y2
  s3 : AddOk x2 m.g
  s4 : AddOk y2 m.h
  k1 : Fin2 (addB x1 m.c) (addB y1 m.d)
  k2 : Fin2 (addB x2 m.g) (addB y2 m.h)
  nz : Nz (addB x2 m.g) (addB y2 m.h)
  q : QuoW (addB x1 m.c) (addB y1 m.d) (addB x2 m.g) (addB y2 m.h) o p
  k3 : Fin2 o p

theorem IsDy.cm {a b : Nat} {i j e : Int} (h : IsDy a b i j e) : Cm a b ((i : Rat) * p2 e) ((j : Rat) * p2 e) 0 := Cm.of h.1 h.2.1 h.2.2.1 h.2.2.2
theorem IsDy.f2 {a b : Nat} {i j e : Int} (h : IsDy a b i j e) : Fin2 a b := by
  show (fin .f32 a && fin .f32 b) = true
  rw [h.1, h.2.1]
  rfl

theorem p2_four (n : Nat) : p2 (0 - 2 * (n : Int)) * ((4 ^ n : Nat) : Rat) = 1 := by
  have h : ((4 ^ n : Nat) : Rat) = p2 (2 * (n : Int)) := by
    rw [show (4 : Nat) ^ n = 2 ^ (2 * n) by rw [Nat.pow_mul], ← p2_nat]
    congr 1
  rw [h, ← p2_add]
  rw [show (0 - 2 * (n : Int) + 2 * (n : Int)) = 0 by omega]
  decide +kernel

/-- All that is asked of a ladder's chain. -/
theorem lad_words {c : Nat} {ns : List Nat} (hc : c = 115 ∨ c = 112) (hl : ns.length ≤ 3) (hn : ∀ n ∈ ns, n < 8) :
    ∃ m, ChainF wireW (gath c ns 0) m ∧ m.okB ∧
      (∃ a1 a2 b1 b2, DetW m.a m.b m.c m.d m.e m.f m.g m.h a1 a2 b1 b2 ∧ V FloatKind.f32.format (subB a1 b1) = 1 ∧ V FloatKind.f32.format (subB a2 b2) = 0) ∧
      ∃ x1 y1 x2 y2 o p, AtW m x1 y1 x2 y2 o p ∧ Cm o p (seenR c 1 ns (1, 0)).1 (seenR c 1 ns (1, 0)).2 (2 / 100000) := by
  have hlen : (partsFrom c 1 ns).length = ns.length := by
    have key : ∀ (l : List Nat) (j : Nat), (partsFrom c j l).length = l.length := by
      intro l
      induction l with
      | nil => intro j; rfl
      | cons x xs ih => intro j; simp [partsFrom, ih]
    exact key ns 1
  have hpow : 32 ^ ns.length ≤ 32768 := by
    have h := Nat.pow_le_pow_right (show 0 < 32 by decide) hl
    exact Nat.le_trans h (by decide)
  obtain ⟨m, F, D, _⟩ := chain_dy (partsFrom c 1 ns) wireW wireD 0 1 (partsFrom_lt ns 1 hn) wire_isD.1 wire_isD.2 (by rw [hlen]; omega) (by rw [hlen]; omega) (by decide)
  rw [hlen] at D
  have hok := lad_ok hc hl hn
  unfold ladOk at hok
  have hI : chainI wireD (partsFrom c 1 ns) = ladI c ns := rfl
  rw [hI] at D
  generalize hz : seenR c 1 ns (1, 0) = z at *
  generalize ladI c ns = i at *
  simp only [Bool.and_eq_true, decide_eq_true_eq] at hok
  obtain ⟨⟨⟨⟨⟨⟨⟨⟨⟨⟨⟨⟨⟨⟨ib, ic⟩, ie⟩, ih⟩, det⟩, ba⟩, bd⟩, bf⟩, bg⟩, up⟩, dn⟩, lo⟩, zb⟩, z1⟩, z2⟩ := hok
  obtain ⟨DA, DB, DC, DD⟩ := D
  rw [ib] at DA
  rw [ic] at DB
  rw [ie] at DC
  rw [ih] at DD
  have h4 := p2_four ns.length
  have he1 : -6 ≤ 0 - 2 * (ns.length : Int) := by omega
  have he2 : 0 - 2 * (ns.length : Int) ≤ 0 := by omega
  have h16 : ((16 ^ ns.length : Nat) : Int) = ((4 ^ ns.length : Nat) : Int) * ((4 ^ ns.length : Nat) : Int) := by
    rw [show (16 : Nat) = 4 * 4 by decide, Nat.mul_pow]
    exact Int.natCast_mul _ _
  generalize 0 - 2 * (ns.length : Int) = e at *
  generalize 4 ^ ns.length = M at *
  rw [h16] at det
  have nn : ∀ {p q : Int}, p.natAbs ≤ 1000 → q.natAbs ≤ 1000 → (p * q).natAbs ≤ 1000000 := fun hp hq => natAbs_mul_le hp hq
  have g1 := nn ba bg
  have g2 := nn bd bf
  refine ⟨m, by unfold gath; rw [List.drop_zero]; exact F, Words.IsD.ok (i := ⟨i.a, 0, 0, i.d, 0, i.f, i.g, 0⟩) ⟨DA, DB, DC, DD⟩, ?_, ?_⟩
  · obtain ⟨a1, a2, m1, d1⟩ := mul_dy DA DD (by omega) (by omega) (by simpa using Nat.le_trans g1 (by decide)) (by simp)
    obtain ⟨b1, b2, m2, d2⟩ := mul_dy DB DC (by omega) (by omega) (by simp; omega) (by simp)
    obtain ⟨s1, s2, d3⟩ := sub_dy d1 d2 (by omega) (by omega) (by simp; omega) (by simp)
    refine ⟨a1, a2, b1, b2, ⟨DA.f2, DB.f2, DC.f2, DD.f2, m1, m2, d1.f2, d2.f2, s1, s2, d3.f2⟩, ?_, ?_⟩
    · rw [d3.2.2.1]
      have e1 : i.a * i.g - 0 * 0 - (0 * 0 - i.d * i.f) = (M : Int) * (M : Int) := by rw [← det]; omega
      rw [e1, p2_add, Rat.intCast_mul, Rat.intCast_natCast]
      have : (M : Rat) * (M : Rat) * (p2 e * p2 e) = (p2 e * (M : Rat)) * (p2 e * (M : Rat)) := by grind
      rw [this, h4]
      decide +kernel
    · rw [d3.2.2.2]
      simp
  · have one : IsDy 1065353216 0 1 0 0 := ⟨by decide, by decide, one_q.2.2.1, one_q.2.2.2⟩
    obtain ⟨x1, y1, m1, d1⟩ := mul_dy DA one (by omega) (by omega) (by simp; omega) (by simp)
    obtain ⟨x2, y2, m2, d2⟩ := mul_dy DC one (by omega) (by omega) (by simp) (by simp; omega)
    simp only [Int.add_zero, Int.mul_one, Int.mul_zero, Int.sub_zero, Int.zero_add] at d1 d2
    obtain ⟨s1, s2, u1⟩ := add_dy d1 DB (by omega) (by omega) (by omega) (by omega)
    obtain ⟨s3, s4, u2⟩ := add_dy d2 DD (by omega) (by omega) (by omega) (by omega)
    simp only [Int.add_zero, Int.zero_add] at u1 u2
    have n1 := u1.cm
    have n2 := u2.cm
    have R : ∀ {p q : Int}, p ≤ q → (p : Rat) ≤ (q : Rat) := fun h => Rat.intCast_le_intCast.2 h
    have up' := R up
    have dn' := R dn
    have lo' := R lo
    simp only [Rat.intCast_add, Rat.intCast_mul, Rat.intCast_natCast] at up' dn' lo'
    obtain ⟨U, T⟩ := z
    dsimp only at zb z1 z2
    generalize (i.a : Rat) = a at *
    generalize (i.d : Rat) = d at *
    generalize (i.f : Rat) = f at *
    generalize (i.g : Rat) = g at *
    generalize (M : Rat) = N at *
    generalize p2 e = P at *
    have PP : P * P * (N * N) = 1 := by
      have : P * P * (N * N) = (P * N) * (P * N) := by grind
      rw [this, h4]; decide +kernel
    have P0 : 0 ≤ P * P := sq_nonneg P
    have k1 := Rat.mul_le_mul_of_nonneg_left up' P0
    have k2 := Rat.mul_le_mul_of_nonneg_left dn' P0
    have k3 := Rat.mul_le_mul_of_nonneg_left lo' P0
    have j1 : a * P * (a * P) + d * P * (d * P) ≤ 53 / 4 * (53 / 4) := by grind
    have j2 : g * P * (g * P) + f * P * (f * P) ≤ 53 / 4 * (53 / 4) := by grind
    have j3 : 1 / 2 * (1 / 2) ≤ g * P * (g * P) + f * P * (f * P) := by grind
    obtain ⟨o, p, q, n3⟩ := Cm.quo n1 n2 (U := U) (T := T) (53 / 4) (53 / 4) 11 (1 / 2) (2 / 100000) ⟨by decide +kernel, j1⟩ ⟨by decide +kernel, j2⟩ ⟨by decide +kernel, by grind⟩
      (by have := z1; grind) (by have := z2; grind) j3 (by decide +kernel) (by decide +kernel) (by decide +kernel) (by decide +kernel) (by decide +kernel) (by decide +kernel)
    exact ⟨x1, y1, x2, y2, o, p, ⟨m1, s1, s2, m2, s3, s4, u1.f2, u2.f2, n2.nz j3 (by decide +kernel), q, n3.f2⟩, n3⟩

end Go.Proofs.Yteikkbmmbnihaaa
