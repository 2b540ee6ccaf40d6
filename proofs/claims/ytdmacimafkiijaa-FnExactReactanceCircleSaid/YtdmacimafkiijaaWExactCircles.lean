/-
  The walks of FnExactResistanceCircle and FnExactReactanceCircle: they answer true.
-/
import Derived.Test.YtdmacimafkiijaaImpl4
namespace Go.Proofs.Ytdmacimafkiijaa
open Go.RowKit Fl
open Ieee

set_option maxHeartbeats 1000000 in
theorem eqCircle_same {a b r : Nat} (ha : fin .f32 a = true) (hb : fin .f32 b = true) (hr : fin .f32 r = true) (w : World) :
    Calls Try.prog 47 #[cirV a b r, cirV a b r] w fun x w' => x = .returned (.bool true) ∧ Calm w w' := by
  have hc := widen_walk ha hb
  obtain ⟨y1, _, _⟩ := yW_spec hr
  have a1 : ∀ w, fconv .f32 r .f64 w = yW r := fun w => fconv_some w y1
  have a2 : fcask .f32 r .f64 = 0 := fcask_some y1
  clear ha hb hr y1
  go_enter Try.func47, Try.ntmps47
  go_wp2_with fail
  refine (sameComplex_same _ _ _).mono ?_
  rintro e w1 ⟨rfl, n, rfl⟩
  go_wp2_with fail
  refine (sameFloat_same _ _).mono ?_
  rintro e w1 ⟨rfl, n2, rfl⟩
  go_wp2_with fail
  go_ret
  exact ⟨rfl, grown_drewN (Lib.grownBy_allocR (World.grownBy_alloc w _ none) _) _⟩

theorem res_form (m : Int) : ∃ a b r β, resV m = .tuple #[cirV a b r, .bool β] ∧ fin .f32 a = true ∧ fin .f32 b = true ∧ fin .f32 r = true := by
  unfold resV
  cases hm : (decide (0 ≤ m) && decide (m ≤ 9999999))
  · exact ⟨0, 0, 0, false, rfl, by decide, by decide, by decide⟩
  · simp only [Bool.and_eq_true, decide_eq_true_eq] at hm
    obtain ⟨_, _, _, _, _, f2, _, f3⟩ := cir_spec hm.1 hm.2
    exact ⟨_, _, _, true, rfl, f2, by decide, f3⟩

theorem rea_form (m : Int) : ∃ a b r β, reaV m = .tuple #[cirV a b r, .bool β] ∧ fin .f32 a = true ∧ fin .f32 b = true ∧ fin .f32 r = true := by
  unfold reaV
  cases hm : (okM m && decide (m ≠ 0))
  · exact ⟨0, 0, 0, false, rfl, by decide, by decide, by decide⟩
  · simp only [Bool.and_eq_true, decide_eq_true_eq] at hm
    obtain ⟨n1, n2⟩ := tN_spec hm.1 hm.2
    refine ⟨_, _, _, true, rfl, by decide, n2, ?_⟩
    unfold tA
    split
    · exact fin_num.2 (neg_spec .f32 (Format.div_lt _ n1) (fin_num.1 n2)).1
    · exact n2

set_option maxHeartbeats 1000000 in
theorem FnExactReactanceCircle_walk (m : Int) (_w0 : (Lit.int .i64 m).wf = true) (w : World) :
    Calls Try.prog 9 #[.int .i64 m] w fun e w' => e = .returned (.bool true) ∧ Below w.heap.size w w' := by
  obtain ⟨a, b, r, β, hv, fa, fb, fr⟩ := rea_form m
  have H := Lib.hid hv
  have F := Lib.hid (And.intro fa (And.intro fb fr))
  clear hv fa fb fr
  go_enter Try.func9, Try.ntmps9
  go_wp2_with fail
  refine (specReactance_any _ _).mono ?_
  rw [H.out]
  rintro e w1 ⟨rfl, C⟩
  have B1 := below_calm (Below.refl w.heap.size w) (Nat.le_refl _) C
  have M1 := Cir.new w1 a b r
  have B2 := B1.alloc B1.size (.cells #[.complex .f32 a b, .float .f32 r] 27)
  clear C B1
  go_wp2_with fail
  refine (implReactance_any _ _).mono ?_
  rw [H.out]
  rintro e w2 ⟨rfl, C⟩
  have M2 := (M1.calm C).alloc (.cells #[.complex .f32 a b, .float .f32 r] 27)
  have B3 := Lib.hid ((below_calm B2 B2.size C).alloc (below_calm B2 B2.size C).size (.cells #[.complex .f32 a b, .float .f32 r] 27))
  have c0 := M2.c0
  have c1 := M2.c1
  clear C B2 M1
  go_wp2_with fail
  refine (eqCircle_same F.out.1 F.out.2.1 F.out.2.2 _).mono ?_
  rintro e w3 ⟨rfl, C⟩
  have B4 := Lib.hid (below_calm B3.out B3.out.size C)
  clear C c0 c1 M2 B3
  go_wp2_with fail
  go_ret
  exact ⟨rfl, B4.out⟩

end Go.Proofs.Ytdmacimafkiijaa
