/-
  Contracts: the chain with its ends exchanged, the determinant, and the statements' test of whole matrices.
-/
import Derived.Test.YteikkbmmbnihaaaC3
namespace Go.Proofs.Yteikkbmmbnihaaa
open Go.RowKit Fl

/-- A number, and whether it is told. -/
def ToldC (x : Ending) : Prop := ∃ (e f : Nat) (β : Bool), x = .returned (.tuple #[.complex .f32 e f, .bool β])

theorem ifFinite_any2 (a b : Nat) (w : World) :
    Calls Try.prog 64 #[.complex .f32 a b] w fun x w' => ToldC x ∧ ∃ n, w' = w.drewN n := by
  refine (ifFinite_any a b w).mono ?_
  rintro e w1 ⟨rfl, n, rfl⟩
  refine ⟨?_, n, rfl⟩
  cases (fin .f32 a && fin .f32 b)
  · exact ⟨_, _, _, rfl⟩
  · exact ⟨_, _, _, rfl⟩

set_option maxHeartbeats 1000000 in
/-- Whatever the numbers are, Product tells something. -/
theorem implProduct_any (a b c d : Nat) (w : World) :
    Calls Try.prog 63 #[.complex .f32 a b, .complex .f32 c d] w fun x w' => ToldC x ∧ ∃ n, w' = w.drewN n := by
  have hm := fun (P : Program) (t : TypeId) (w : World) => run_c_mul P t a b c d w
  obtain ⟨β, hβ⟩ : ∃ β, (fin .f32 a && fin .f32 b) = β := ⟨_, rfl⟩
  obtain ⟨γ, hγ⟩ : ∃ γ, (fin .f32 c && fin .f32 d) = γ := ⟨_, rfl⟩
  have HB := Lib.hid hβ
  have HC := Lib.hid hγ
  clear hβ hγ
  cases β
  · go_enter Try.func63, Try.ntmps63
    go_wp2_with fail
    refine (implFinite_any _ _ _).mono ?_
    rw [HB.out]
    rintro e w1 ⟨rfl, n, rfl⟩
    go_wp2_with fail
    go_ret2
    exact ⟨⟨_, _, _, rfl⟩, _, rfl⟩
  · cases γ
    all_goals
      go_enter Try.func63, Try.ntmps63
      go_wp2_with fail
      refine (implFinite_any _ _ _).mono ?_
      rw [HB.out]
      rintro e w1 ⟨rfl, n, rfl⟩
      go_wp2_with fail
      refine (implFinite_any _ _ _).mono ?_
      rw [HC.out]
      rintro e w1 ⟨rfl, n2, rfl⟩
      go_wp2_with fail
    · go_ret2
      exact ⟨⟨_, _, _, rfl⟩, _, rfl⟩
    · refine (ifFinite_any2 _ _ _).mono ?_
      rintro e w1 ⟨⟨u, v, δ, rfl⟩, n3, rfl⟩
      go_wp2_with fail
      go_ret2
      exact ⟨⟨_, _, _, rfl⟩, _, rfl⟩

set_option maxHeartbeats 1000000 in
/-- Whatever the numbers are, Determinant tells something. -/
theorem implDeterminant_any (a b c d e f g h : Nat) (w : World) :
    Calls Try.prog 30 #[twoV a b c d e f g h] w fun x w' => ToldC x ∧ Calm w w' := by
  go_enter Try.func30, Try.ntmps30
  go_wp2_with fail
  refine (implProduct_any _ _ _ _ _).mono ?_
  rintro x w1 ⟨⟨p, q, β, rfl⟩, n, rfl⟩
  cases β
  all_goals
    go_wp2_with fail
    refine (implProduct_any _ _ _ _ _).mono ?_
    rintro x w2 ⟨⟨r, s, γ, rfl⟩, n2, rfl⟩
    cases γ
    all_goals go_wp2_with fail
  · go_ret2
    exact ⟨⟨_, _, _, rfl⟩, grown_drewN (calm_new w _) _⟩
  · go_ret2
    exact ⟨⟨_, _, _, rfl⟩, grown_drewN (calm_new w _) _⟩
  · go_ret2
    exact ⟨⟨_, _, _, rfl⟩, grown_drewN (calm_new w _) _⟩
  · refine (ifFinite_any2 _ _ _).mono ?_
    rintro x w3 ⟨⟨u, v, δ, rfl⟩, n3, rfl⟩
    go_wp2_with fail
    go_ret2
    exact ⟨⟨_, _, _, rfl⟩, grown_drewN (calm_new w _) _⟩

theorem ifFinite_of {a b : Nat} (ha : fin .f32 a = true) (hb : fin .f32 b = true) (w : World) :
    Calls Try.prog 64 #[.complex .f32 a b] w fun x w' => x = .returned (.tuple #[.complex .f32 a b, .bool true]) ∧ ∃ n, w' = w.drewN n := by
  refine (ifFinite_any a b w).mono ?_
  rw [ha, hb]
  rintro e w1 ⟨rfl, n, rfl⟩
  exact ⟨rfl, n, rfl⟩

/-- The difference of two whole numbers. -/
theorem diff_int {a b c d : Nat} {i j k l : Int} (h1 : IsInt a b i j) (h2 : IsInt c d k l) (bi : i.natAbs ≤ 2000000) (bj : j.natAbs ≤ 2000000) (bk : k.natAbs ≤ 2000000) (bl : l.natAbs ≤ 2000000) :
    ∃ e f, (∀ w, fres .sub .f32 a c w = e) ∧ fask .sub .f32 a c = 0 ∧ (∀ w, fres .sub .f32 b d w = f) ∧ fask .sub .f32 b d = 0 ∧ IsInt e f (i - k) (j - l) := by
  obtain ⟨ha, hb, va, vb⟩ := h1
  obtain ⟨hc, hd, vc, vd⟩ := h2
  obtain ⟨e, e1, e2, e3⟩ := sub32_exact ha hc va vc (by omega)
  obtain ⟨f, f1, f2, f3⟩ := sub32_exact hb hd vb vd (by omega)
  exact ⟨e, f, fun w => fres_some w e1, fask_some e1, fun w => fres_some w f1, fask_some f1, e2, f2, e3, f3⟩

set_option maxHeartbeats 1000000 in
/-- The determinant of whole numbers. -/
theorem implDeterminant_int {m : Words} {i : Ints} (hm : m.Is i) (bi : i.small) (w : World) :
    Calls Try.prog 30 #[m.v] w fun x w' => (∃ e f, x = .returned (.tuple #[.complex .f32 e f, .bool true]) ∧
      IsInt e f (i.a * i.g - i.b * i.h - (i.c * i.e - i.d * i.f)) (i.a * i.h + i.b * i.g - (i.c * i.f + i.d * i.e))) ∧ Calm w w' := by
  obtain ⟨a, b, c, d, e, f, g, h⟩ := m
  obtain ⟨m1, m2, m3, m4⟩ := hm
  obtain ⟨s1, s2, s3, s4, s5, s6, s7, s8⟩ := bi
  obtain ⟨x1, y1, e1, i1, u1, v1⟩ := mul_int m1 m4 s1 s2 s7 s8
  obtain ⟨x2, y2, e2, i2, u2, v2⟩ := mul_int m2 m3 s3 s4 s5 s6
  obtain ⟨p, q, g1, g2, g3, g4, o⟩ := diff_int i1 i2 u1 v1 u2 v2
  have HO := Lib.hid o
  have E1 := Lib.hid e1
  have E2 := Lib.hid e2
  have M1 := Lib.hid m1
  have M2 := Lib.hid m2
  have M3 := Lib.hid m3
  have M4 := Lib.hid m4
  have I1 := Lib.hid i1
  have I2 := Lib.hid i2
  clear o e1 e2 m1 m2 m3 m4 i1 i2 u1 v1 u2 v2 s1 s2 s3 s4 s5 s6 s7 s8
  unfold Words.v
  go_enter Try.func30, Try.ntmps30
  go_wp2_with fail
  refine (implProduct_of M1.out.1 M1.out.2.1 M4.out.1 M4.out.2.1 I1.out.1 I1.out.2.1 E1.out _).mono ?_
  rintro z w1 ⟨rfl, n, rfl⟩
  go_wp2_with fail
  refine (implProduct_of M2.out.1 M2.out.2.1 M3.out.1 M3.out.2.1 I2.out.1 I2.out.2.1 E2.out _).mono ?_
  rintro z w2 ⟨rfl, n2, rfl⟩
  go_wp2_with fail
  refine (ifFinite_of HO.out.1 HO.out.2.1 _).mono ?_
  rintro z w3 ⟨rfl, n3, rfl⟩
  go_wp2_with fail
  go_ret2
  exact ⟨⟨_, _, rfl, HO.out⟩, grown_drewN (calm_new w _) _⟩

/-- What the test of whole matrices gives. -/
def WholeTwo (a b c d e f g h : Nat) (most : Int) (w : World) (x : Ending) (w' : World) : Prop :=
  ∃ β : Bool, x = .returned (.bool β) ∧ Calm w w' ∧ (β = true → Whole a b most ∧ Whole c d most ∧ Whole e f most ∧ Whole g h most)

end Go.Proofs.Yteikkbmmbnihaaa
