/-
  Contracts of chapter 4's functions in the program: circles.
-/
import Derived.Test.YtdmacimafkiijaaCir2
import Derived.Test.YtdmacimafkiijaaWord
import Derived.Test.YtdmacimafkiijaaC3b
import Derived.Test.YtdmacimafkiijaaRefI
import Derived.Test.YtdmacimafkiijaaAbs
namespace Go.Proofs.Ytdmacimafkiijaa
open Go.RowKit Fl
open Ieee

/-- 1 divided by a reactance is not 0, and not too great. -/
theorem tN_more {m : Int} (h : okM m = true) (h0 : m ≠ 0) : tN m < 2 ^ 32 ∧ V FloatKind.f32.format (tN m) ≠ 0 ∧ absR (V FloatKind.f32.format (tN m)) ≤ 20000 := by
  obtain ⟨f, hb⟩ := milli_big h h0
  obtain ⟨o1, o2⟩ := one32_spec
  obtain ⟨h1, h2⟩ := okM_iff.1 h
  have hs := small_of_k (b := milliB m) (by rw [kOf_milli h1 h2]; omega)
  have hc := absR_cases (V FloatKind.f32.format (milliB m))
  have hz : V FloatKind.f32.format (milliB m) ≠ 0 := by grind
  have l := lim32.2
  obtain ⟨X, x1, x2, x3⟩ := div_bound (N := 1) (K := 2000) hz (by
    have : absR 1 = 1 := by decide +kernel
    rw [this]; grind)
  obtain ⟨q, q1, q2, q3⟩ := quo_spec .f32 (fin_num.1 o1) (fin_num.1 f) hz X (by rw [o2]; exact x1) (by grind) (by grind)
  have e : tN m = q := by unfold tN quoB; rw [q1]; rfl
  have hk : Has FloatKind.f32.format (20000 : Rat) := by simpa using has_int (f := FloatKind.f32.format) (by decide) 20000 (by decide)
  have hp : Has FloatKind.f32.format (p2 (-15)) := ⟨1, -15, by decide, by decide, by simp⟩
  have hp0 : p2 (-15) = 1 / 32768 := by decide +kernel
  have b1 := rndV_le q3 hk (by grind)
  have b2 := rndV_ge q3 (has_neg hk) (by grind)
  have hn := absR_cases (V FloatKind.f32.format q)
  refine ⟨by rw [e]; exact Format.div_lt _ q1, ?_, by rw [e]; grind⟩
  rw [e]
  rcases hc with ⟨g, eg⟩ | ⟨g, eg⟩
  · have hX : X ≤ -(1 / 32768) := by
      rcases Rat.le_total (a := X) (b := -(1 / 32768)) with y | y
      · exact y
      · have := Rat.mul_nonneg (show 0 ≤ X + 1 / 32768 by grind) (show 0 ≤ -V FloatKind.f32.format (milliB m) by grind)
        grind
    have hle := rndV_le q3 (has_neg hp) (by rw [hp0]; exact hX)
    rw [hp0] at hle
    intro h0
    rw [h0] at hle
    exact absurd hle (by decide +kernel)
  · have hX : 1 / 32768 ≤ X := by
      rcases Rat.le_total (a := 1 / 32768) (b := X) with y | y
      · exact y
      · have := Rat.mul_nonneg (show 0 ≤ 1 / 32768 - X by grind) (show 0 ≤ V FloatKind.f32.format (milliB m) by grind)
        grind
    have hle := rndV_ge q3 hp (by rw [hp0]; exact hX)
    rw [hp0] at hle
    intro h0
    rw [h0] at hle
    exact absurd hle (by decide +kernel)

set_option maxHeartbeats 1000000 in
theorem implReactance_any (m : Int) (w : World) :
    Calls Try.prog 13 #[.int .i64 m] w fun x w' => x = .returned (reaV m) ∧ Calm w w' := by
  by_cases h0 : m = 0
  · subst h0
    go_enter Try.func13, Try.ntmps13
    go_wp2_with fail
    refine bodyPost_ret (results_cir_tmp rfl _ rfl (Cir.new w _ _ _)) rfl ?_
    exact ⟨rfl, World.grownBy_alloc w _ none⟩
  · have HD := Lib.hid (show decide (m ≠ 0) = true by simpa using h0)
    cases hm : okM m
    · have HV := Lib.hid hm
      clear hm
      go_enter Try.func13, Try.ntmps13
      go_wp2_with fail
      refine (isMilli_any _ _).mono ?_
      rw [HV.out]
      rintro e w1 ⟨rfl, rfl⟩
      go_wp2_with fail
      refine bodyPost_ret (results_cir_tmp rfl _ rfl (Cir.new w _ _ _)) rfl ?_
      exact ⟨by unfold reaV; rw [HV.out]; rfl, World.grownBy_alloc w _ none⟩
    · have HV := Lib.hid hm
      obtain ⟨n1, n2⟩ := tN_spec hm h0
      obtain ⟨t1, t2, t3⟩ := tN_more hm h0
      have hz : milliV 0 m = .complex .f32 0 (milliB m) := by
        have e2 : milliB 0 = 0 := by decide +kernel
        unfold milliV
        rw [hm, e2]
        rfl
      have HZ := Lib.hid hz
      have a3 : ∀ w, fres .quo .f32 1065353216 (milliB m) w = tN m := fun w => fres_some w n1
      have a4 : fask .quo .f32 1065353216 (milliB m) = 0 := fask_some n1
      have HA := Lib.hid (show floatToFloatBits .f64 (yW (tN m) % 2 ^ 63) .f32 = some (tA m) from abs_narrow n2 t1 t2 t3)
      have HN := Lib.hid n2
      clear hm n1 n2 t1 t2 t3 hz
      go_enter Try.func13, Try.ntmps13
      go_wp2_with fail
      refine (isMilli_any _ _).mono ?_
      rw [HV.out]
      rintro e w1 ⟨rfl, rfl⟩
      go_wp2_with fail
      refine (implMilli_any _ _ _).mono ?_
      rw [HZ.out]
      rintro e w1 ⟨rfl, rfl⟩
      go_wp2_with fail
      refine (absolute_of HN.out HA.out _).mono ?_
      rintro e w1 ⟨rfl, rfl⟩
      go_wp2_with fail
      refine bodyPost_ret (results_cir_tmp rfl _ rfl (((Cir.new w 0 0 0).drewN 0).set2 _ _ _)) rfl ?_
      exact ⟨by unfold reaV; rw [HV.out, HD.out]; rfl, calm_set2 (grown_drewN (World.grownBy_alloc w _ none) 0) (Nat.le_refl _) _ _⟩

set_option maxHeartbeats 1000000 in
theorem implOff_any (z1 z2 m1 m2 r : Nat) (hr : fin .f32 r = true) (w : World) :
    Calls Try.prog 17 #[.complex .f32 z1 z2, cirV m1 m2 r] w fun x w' => x = .returned (offV z1 z2 m1 m2 r) ∧ Calm w w' := by
  obtain ⟨y1, y2, y3⟩ := yW_spec hr
  obtain ⟨g1, g2, g3⟩ := qW_spec hr
  have a1 : ∀ w, fconv .f32 r .f64 w = yW r := fun w => fconv_some w y1
  have a2 : fcask .f32 r .f64 = 0 := fcask_some y1
  have a3 : ∀ w, fres .mul .f64 (yW r) (yW r) w = qW r := fun w => fres_some w g1
  have a4 : fask .mul .f64 (yW r) (yW r) = 0 := fask_some g1
  have a5 : ∀ d1 d2 w, fres .sub .f64 (powV d1 d2) (qW r) w = offB d1 d2 r := fun d1 d2 w => fres_some w (sub_some (powV_num d1 d2) (fin_num.2 g2))
  have a6 : ∀ d1 d2, fask .sub .f64 (powV d1 d2) (qW r) = 0 := fun d1 d2 => fask_some (sub_some (powV_num d1 d2) (fin_num.2 g2))
  clear y1 y2 y3 g1 g2 g3 hr
  cases hf : ((fin .f32 z1 && fin .f32 z2) && (fin .f32 m1 && fin .f32 m2))
  · have HF := Lib.hid hf
    have HB := Lib.hid (pair_bad hf)
    clear hf
    go_enter Try.func17, Try.ntmps17
    go_wp2_with fail
    refine (ifFinite_any _ _ _).mono ?_
    have hb : ∀ w1 w2, (fin .f32 (fres .sub .f32 z1 m1 w1) && fin .f32 (fres .sub .f32 z2 m2 w2)) = false := by
      intro w1 w2
      rcases HB.out with h | h
      · rw [sub_bad h]; rfl
      · rw [sub_bad h, Bool.and_false]
    rw [hb]
    rintro x w1 ⟨rfl, n, rfl⟩
    clear hb
    go_wp2_with fail
    go_ret2
    exact ⟨by unfold offV; rw [HF.out]; rfl, grown_drewN (World.grownBy_alloc w _ none) _⟩
  · have hf2 := hf
    simp only [Bool.and_eq_true] at hf2
    obtain ⟨⟨f1, f2⟩, f3, f4⟩ := hf2
    have b1 : ∀ w, fres .sub .f32 z1 m1 w = subB z1 m1 := fun w => fres_some w (sub_some f1 f3)
    have b2 : fask .sub .f32 z1 m1 = 0 := fask_some (sub_some f1 f3)
    have b3 : ∀ w, fres .sub .f32 z2 m2 w = subB z2 m2 := fun w => fres_some w (sub_some f2 f4)
    have b4 : fask .sub .f32 z2 m2 = 0 := fask_some (sub_some f2 f4)
    have HF := Lib.hid hf
    clear hf f1 f2 f3 f4
    obtain ⟨β, hβ⟩ : ∃ β, (fin .f32 (subB z1 m1) && fin .f32 (subB z2 m2)) = β := ⟨_, rfl⟩
    have HB := Lib.hid hβ
    clear hβ
    cases β
    all_goals
      go_enter Try.func17, Try.ntmps17
      go_wp2_with fail
      refine (ifFinite_any _ _ _).mono ?_
      rw [HB.out]
      rintro x w1 ⟨rfl, n, rfl⟩
      go_wp2_with fail
    · go_ret2
      exact ⟨by unfold offV; rw [HF.out, HB.out]; rfl, grown_drewN (World.grownBy_alloc w _ none) _⟩
    · refine (implPower_any _ _ _).mono ?_
      rintro x w2 ⟨rfl, n4, rfl⟩
      go_wp2_with fail
      go_ret2
      exact ⟨by unfold offV; rw [HF.out, HB.out]; rfl, grown_drewN (World.grownBy_alloc w _ none) _⟩

end Go.Proofs.Ytdmacimafkiijaa
