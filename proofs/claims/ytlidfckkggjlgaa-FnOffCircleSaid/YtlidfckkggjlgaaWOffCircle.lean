/-
  The walk of FnOffCircle: it answers true.
-/
import Derived.Test.YtlidfckkggjlgaaDraw7
import Derived.Test.YtlidfckkggjlgaaImpl4
namespace Go.Proofs.Ytlidfckkggjlgaa
open Go.RowKit Fl
open Ieee

theorem f64_sub {x y : Nat} (hx : fin .f64 x = true) (hy : fin .f64 y = true) (bx : absR (V FloatKind.f64.format x) ≤ p2 300) (bY : absR (V FloatKind.f64.format y) ≤ p2 300) :
    fin .f64 ((floatBits .sub .f64 x y).getD 0) = true ∧ RndV FloatKind.f64.format (V FloatKind.f64.format x - V FloatKind.f64.format y) (V FloatKind.f64.format ((floatBits .sub .f64 x y).getD 0)) := by
  obtain ⟨x1, x2⟩ := absR_le.1 bx
  obtain ⟨y1, y2⟩ := absR_le.1 bY
  have l1 := lim64_big.1
  have l2 : p2 301 < p2 400 := p2_lt (by decide)
  have e : p2 301 = 2 * p2 300 := p2_succ 300
  obtain ⟨d, d1, d2, d3⟩ := sub_spec .f64 (fin_num.1 hx) (fin_num.1 hy) (by grind) (by grind)
  rw [d1]
  exact ⟨fin_num.2 d2, d3⟩

theorem qW_small {r : Nat} (hr : fin .f32 r = true) : fin .f64 (qW r) = true ∧ absR (V FloatKind.f64.format (qW r)) ≤ p2 300 := by
  obtain ⟨_, g2, g3⟩ := qW_spec hr
  obtain ⟨b0, b1⟩ := sq_bound r
  have : p2 256 ≤ p2 300 := p2_le (by decide)
  refine ⟨fin_num.2 g2, ?_⟩
  rw [g3]
  exact absR_le.2 ⟨by grind, by grind⟩

theorem powV_small (x y : Nat) : absR (V FloatKind.f64.format (powV x y)) ≤ p2 300 := by
  unfold powV
  split
  · rename_i h
    simp only [Bool.and_eq_true] at h
    obtain ⟨_, _, p3⟩ := pW_spec h.1 h.2
    obtain ⟨b0, b1⟩ := sq_bound x
    obtain ⟨c0, c1⟩ := sq_bound y
    have e : p2 257 = 2 * p2 256 := p2_succ 256
    have e2 : p2 257 ≤ p2 300 := p2_le (by decide)
    have hh : Has FloatKind.f64.format (p2 257) := ⟨1, 257, by decide, by decide, by simp⟩
    have := rndV_between p3 hh (by grind) (by grind)
    exact absR_le.2 ⟨by grind, by grind⟩
  · decide +kernel

theorem off_fin (d1 d2 : Nat) {r : Nat} (hr : fin .f32 r = true) : fin .f64 (offB d1 d2 r) = true := by
  obtain ⟨q1, q2⟩ := qW_small hr
  exact (f64_sub (powV_num d1 d2) q1 (powV_small d1 d2) q2).1

theorem off_form (z1 z2 m1 m2 : Nat) {r : Nat} (hr : fin .f32 r = true) : ∃ o β, offV z1 z2 m1 m2 r = .tuple #[.float .f64 o, .bool β] ∧ FloatKind.f64.format.order o o = some .eq ∧ ((fin .f32 m1 && fin .f32 m2) = false → β = false) := by
  unfold offV
  split
  · rename_i h
    simp only [Bool.and_eq_true] at h
    exact ⟨_, _, rfl, order_eq (off_fin _ _ hr), fun hf => by rw [h.1.2.1, h.1.2.2] at hf; cases hf⟩
  · exact ⟨_, _, rfl, by decide, fun _ => rfl⟩

/-- Of the middle. -/
theorem off_mid {m1 m2 r : Nat} (f1 : fin .f32 m1 = true) (f2 : fin .f32 m2 = true) (hr : fin .f32 r = true) : ∃ o, offV m1 m2 m1 m2 r = .tuple #[.float .f64 o, .bool true] ∧
    FloatKind.f64.format.order o ((floatBits .sub .f64 0 (qW r)).getD 0) = some .eq := by
  have z : ∀ m, fin .f32 m = true → fin .f32 (subB m m) = true ∧ V FloatKind.f32.format (subB m m) = 0 := by
    intro m hm
    have hl := lim_pos FloatKind.f32.format
    obtain ⟨d, d1, d2, d3⟩ := sub_spec .f32 (fin_num.1 hm) (fin_num.1 hm) (by rw [Rat.sub_self]; exact hl) (by rw [Rat.sub_self]; grind)
    have e : subB m m = d := by unfold subB; rw [d1]; rfl
    rw [e]
    rw [Rat.sub_self] at d3
    exact ⟨fin_num.2 d2, rndV_exact d3 (has_zero _)⟩
  obtain ⟨a1, a2⟩ := z m1 f1
  obtain ⟨b1, b2⟩ := z m2 f2
  obtain ⟨q1, q2⟩ := qW_small hr
  have hp : V FloatKind.f64.format (powV (subB m1 m1) (subB m2 m2)) = 0 := by
    have e : powV (subB m1 m1) (subB m2 m2) = pW (subB m1 m1) (subB m2 m2) := by unfold powV; rw [a1, b1]; rfl
    obtain ⟨_, _, p3⟩ := pW_spec a1 b1
    rw [a2, b2] at p3
    have e2 : (0 : Rat) * 0 + 0 * 0 = 0 := by decide +kernel
    rw [e2] at p3
    rw [e]
    exact rndV_exact p3 (has_zero _)
  obtain ⟨o1, o2⟩ := f64_sub (powV_num (subB m1 m1) (subB m2 m2)) q1 (powV_small _ _) q2
  obtain ⟨s1, s2⟩ := f64_sub (x := 0) (by decide) q1 (by decide +kernel) q2
  refine ⟨offB (subB m1 m1) (subB m2 m2) r, ?_, ?_⟩
  · unfold offV
    rw [f1, f2, a1, b1]
    rfl
  · refine (order_spec _ (fin_num.1 o1) (fin_num.1 s1)).2.1.2 ?_
    rw [hp] at o2
    rw [zero64.2] at s2
    have e : (0 : Rat) - V FloatKind.f64.format (qW r) = -V FloatKind.f64.format (qW r) := by grind
    rw [e] at o2 s2
    have v1 := rndV_exact o2 (has_neg (has_V _ _))
    have v2 := rndV_exact s2 (has_neg (has_V _ _))
    exact v1.trans v2.symm

set_option maxRecDepth 8000 in
set_option maxHeartbeats 4000000 in
theorem FnOffCircle_walk (a : Option Addr) (len cap : Nat) (zs : List Int) (w : World) (h : IsRow .u8 w a len cap zs) :
    Calls Try.prog 8 #[.slice a len cap] w fun e w' => e = .returned (.bool true) ∧ Below w.heap.size w w' := by
  by_cases hl : (1048576 : Int) < (len : Int)
  · go_enter Try.func8, Try.ntmps8
    go_wp2_with fail
    go_ret
    exact ⟨rfl, Below.refl _ _⟩
  · go_enter Try.func8, Try.ntmps8
    go_wp2_with fail
    refine (drawOffCircle_any h).mono ?_
    rintro e w1 ⟨v, ⟨z1, z2, m1, m2, r, rfl, fr⟩, rfl, B1⟩
    clear h
    obtain ⟨o, β, hV, ho, hβ⟩ := off_form z1 z2 m1 m2 fr
    have HV := Lib.hid hV
    have HO := Lib.hid ho
    have FR := Lib.hid fr
    obtain ⟨y1, y2, y3⟩ := yW_spec fr
    obtain ⟨g1, g2, _⟩ := qW_spec fr
    have a1 : ∀ w, fconv .f32 r .f64 w = yW r := fun w => fconv_some w y1
    have a2 : fcask .f32 r .f64 = 0 := fcask_some y1
    have a3 : ∀ w, fres .mul .f64 (yW r) (yW r) w = qW r := fun w => fres_some w g1
    have a4 : fask .mul .f64 (yW r) (yW r) = 0 := fask_some g1
    have a5 : ∀ w, fres .sub .f64 0 (qW r) w = (floatBits .sub .f64 0 (qW r)).getD 0 := fun w => fres_some w (sub_some (by decide) (fin_num.2 g2))
    have a6 : fask .sub .f64 0 (qW r) = 0 := fask_some (sub_some (by decide) (fin_num.2 g2))
    clear hV ho fr y1 y2 y3 g1 g2
    have M1 := Cir.new w1 m1 m2 r
    have B2 := Lib.hid (B1.alloc B1.size (.cells #[.complex .f32 m1 m2, .float .f32 r] 38))
    clear B1
    obtain ⟨γ, hγ⟩ : ∃ γ, (fin .f32 m1 && fin .f32 m2) = γ := ⟨_, rfl⟩
    go_wp2_with fail
    refine (implOff_any _ _ _ _ _ FR.out _).mono ?_
    rw [HV.out]
    rintro e w2 ⟨rfl, C⟩
    have M2 := M1.calm C
    have B3 := Lib.hid (below_calm B2.out B2.out.size C)
    have c0 := M2.c0
    have c1 := M2.c1
    clear C M1 B2
    go_wp2_with fail
    refine (specOff_any _ _ _ _ _ FR.out _).mono ?_
    rw [HV.out]
    rintro e w3 ⟨rfl, C⟩
    have M3 := M2.calm C
    have B4 := Lib.hid (below_calm B3.out B3.out.size C)
    clear C M2 B3 c0 c1
    have c0 := M3.c0
    have c1 := M3.c1
    go_wp2_with fail
    refine (samePart_eq _ _ _ HO.out).mono ?_
    rintro e w4 ⟨rfl, n4, rfl⟩
    have HG := Lib.hid hγ
    cases γ
    · have hb := hβ hγ
      subst hb
      clear hβ hγ
      go_wp2_with fail
      refine (implFinite_any _ _ _).mono ?_
      rw [HG.out]
      rintro e w5 ⟨rfl, n5, rfl⟩
      go_wp2_with fail
      refine (alive_any _).mono ?_
      rintro e w6 ⟨rfl, rfl⟩
      go_wp2_with fail
      go_ret
      exact ⟨rfl, below_drewN B4.out _⟩
    · have hf := hγ
      simp only [Bool.and_eq_true] at hf
      obtain ⟨o', hV', ho'⟩ := off_mid hf.1 hf.2 FR.out
      have HV' := Lib.hid hV'
      have HO' := Lib.hid ho'
      clear hβ hγ hf hV' ho'
      go_wp2_with fail
      refine (implFinite_any _ _ _).mono ?_
      rw [HG.out]
      rintro e w5 ⟨rfl, n5, rfl⟩
      go_wp2_with fail
      refine (implOff_any _ _ _ _ _ FR.out _).mono ?_
      rw [HV'.out]
      rintro e w6 ⟨rfl, C⟩
      have M6 := (M3.drewN (n4 + n5)).calm C
      have B6 := Lib.hid (below_calm (below_drewN B4.out _) B4.out.size C)
      clear C M3 B4 c0 c1
      have c0 := M6.c0
      have c1 := M6.c1
      go_wp2_with fail
      refine (samePart_eq _ _ _ HO'.out).mono ?_
      rintro e w7 ⟨rfl, n7, rfl⟩
      go_wp2_with fail
      go_ret
      exact ⟨rfl, below_drewN B6.out _⟩

end Go.Proofs.Ytlidfckkggjlgaa
