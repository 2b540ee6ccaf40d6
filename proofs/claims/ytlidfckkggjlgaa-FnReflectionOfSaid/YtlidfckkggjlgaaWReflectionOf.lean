/-
  The walk of FnReflectionOf: it answers true.
-/
import Derived.Test.YtlidfckkggjlgaaRefI
import Derived.Test.YtlidfckkggjlgaaImpl4
namespace Go.Proofs.Ytlidfckkggjlgaa
open Go.RowKit Fl
open Ieee

/-- What the statements' test of a load gives. -/
def LoadSaid (x y : Nat) (w : World) (e : Ending) (w' : World) : Prop := ∃ β n, e = .returned (.bool β) ∧ w' = w.drewN n ∧
  (β = true → mOf x y = .tuple #[.int .i64 (sK x), .int .i64 (sK y), .bool true] ∧ (0 ≤ V FloatKind.f32.format x ∧ V FloatKind.f32.format x ≤ 51 ∧ absR (V FloatKind.f32.format y) ≤ 51) ∧ 0 ≤ sK x ∧ sK x ≤ 50000)

theorem load_facts {x y : Nat} (h0 : 0 ≤ V FloatKind.f32.format x) (h1 : sK x ≤ 50000) (h2 : sK y ≤ 50000) (h3 : -50000 ≤ sK y) :
    (0 ≤ V FloatKind.f32.format x ∧ V FloatKind.f32.format x ≤ 51 ∧ absR (V FloatKind.f32.format y) ≤ 51) ∧ 0 ≤ sK x ∧ sK x ≤ 50000 := by
  have k : ∀ z, (sK z).natAbs ≤ 50000 → absR (V FloatKind.f32.format z) ≤ 51 := by
    intro z hz
    rw [sK_nat' z] at hz
    have hs := (kOf_spec z).2
    have hc : ((kOf z : Nat) : Rat) ≤ 50000 := by exact_mod_cast hz
    grind
  have sx : 0 ≤ sK x := by
    unfold sK
    rw [if_neg (by grind)]
    omega
  have a1 := k x (by omega)
  have a2 := k y (by omega)
  have := absR_cases (V FloatKind.f32.format x)
  exact ⟨⟨h0, by grind, a2⟩, sx, h1⟩

set_option maxHeartbeats 1000000 in
theorem load_test (x y : Nat) (w : World) :
    Calls Try.prog 16 #[.complex .f32 x y] w (LoadSaid x y w) := by
  by_cases hok : (fin .f32 x && fin .f32 y && okK x && okK y) = true
  · have hm : mOf x y = .tuple #[.int .i64 (sK x), .int .i64 (sK y), .bool true] := by unfold mOf; rw [hok]; rfl
    simp only [Bool.and_eq_true] at hok
    obtain ⟨⟨⟨f1, f2⟩, k1⟩, k2⟩ := hok
    have F1 := Lib.hid f1
    have M := Lib.hid hm
    clear f1 f2 k1 k2 hm
    cases hge : (FloatKind.f32.format.order x 0 == some .gt || FloatKind.f32.format.order x 0 == some .eq)
    · go_enter Try.func16, Try.ntmps16
      go_wp2_with fail
      refine (specMilliOf_any _ _ _).mono ?_
      rw [M.out]
      rintro e w1 ⟨rfl, n, rfl⟩
      go_wp2_with fail
      go_ret
      exact ⟨_, _, rfl, rfl, fun h => by cases h⟩
    · have h0 : 0 ≤ V FloatKind.f32.format x := by
        have := ge_walk' (fin_num.1 F1.out) zero32.1
        rw [hge, zero32.2] at this
        simpa using this.symm
      by_cases h1 : sK x ≤ 50000
      · by_cases h2 : sK y ≤ 50000
        · by_cases h3 : -50000 ≤ sK y
          · have HF := Lib.hid (load_facts h0 h1 h2 h3)
            clear h0
            go_enter Try.func16, Try.ntmps16
            go_wp2_with fail
            refine (specMilliOf_any _ _ _).mono ?_
            rw [M.out]
            rintro e w1 ⟨rfl, n, rfl⟩
            go_wp2_with fail
            go_ret
            exact ⟨_, _, rfl, rfl, fun _ => ⟨M.out, HF.out⟩⟩
          · clear h0
            go_enter Try.func16, Try.ntmps16
            go_wp2_with fail
            refine (specMilliOf_any _ _ _).mono ?_
            rw [M.out]
            rintro e w1 ⟨rfl, n, rfl⟩
            go_wp2_with fail
            go_ret
            exact ⟨_, _, rfl, rfl, fun h => by first | (simp_all; done) | (simp_all; omega)⟩
        · clear h0
          go_enter Try.func16, Try.ntmps16
          go_wp2_with fail
          refine (specMilliOf_any _ _ _).mono ?_
          rw [M.out]
          rintro e w1 ⟨rfl, n, rfl⟩
          go_wp2_with fail
          go_ret
          exact ⟨_, _, rfl, rfl, fun h => by first | (simp_all; done) | (simp_all; omega)⟩
      · clear h0
        go_enter Try.func16, Try.ntmps16
        go_wp2_with fail
        refine (specMilliOf_any _ _ _).mono ?_
        rw [M.out]
        rintro e w1 ⟨rfl, n, rfl⟩
        go_wp2_with fail
        go_ret
        exact ⟨_, _, rfl, rfl, fun h => by first | (simp_all; done) | (simp_all; omega)⟩
  · have hm : mOf x y = .tuple #[.int .i64 0, .int .i64 0, .bool false] := by unfold mOf; rw [if_neg hok]
    have M := Lib.hid hm
    clear hm hok
    go_enter Try.func16, Try.ntmps16
    go_wp2_with fail
    refine (specMilliOf_any _ _ _).mono ?_
    rw [M.out]
    rintro e w1 ⟨rfl, n, rfl⟩
    go_wp2_with fail
    go_ret
    exact ⟨_, _, rfl, rfl, fun h => by cases h⟩

theorem resV_told' {m : Int} (h0 : 0 ≤ m) (h1 : m ≤ 9999999) : resV m = .tuple #[cirV (cM m) 0 (cR m), .bool true] := by
  unfold resV
  rw [decide_eq_true h0, decide_eq_true h1]
  rfl

theorem load_form {v : Value} (h : LoadOk v) : ∃ x y : Nat, v = .complex .f32 x y := by
  rcases h with ⟨re, im, rfl, _⟩ | ⟨x, y, _, _, rfl, _⟩
  · exact ⟨_, _, rfl⟩
  · exact ⟨_, _, rfl⟩
theorem ref_form {v : Value} (h : RefOk v) : ∃ x y : Nat, v = .complex .f32 x y := by
  rcases h with (rfl | rfl | rfl | rfl | rfl) | ⟨x, y, _, _, rfl, _⟩
  all_goals exact ⟨_, _, rfl⟩
theorem refI_told {x y a b e f : Nat} (h : RefI x y a b e f true) : fin .f32 x = true ∧ fin .f32 y = true ∧ fin .f32 a = true ∧ fin .f32 b = true ∧ fin .f32 e = true ∧ fin .f32 f = true ∧
    (∀ (P : Program) (t : TypeId) (w : World), (binOp .quo t (.complex .f32 (subB x a) (subB y b)) (.complex .f32 (addB x a) (addB y b))).run P w = .ok (.complex .f32 e f) w) := by
  rcases h with ⟨h, _⟩ | ⟨h1, ⟨h, _⟩ | ⟨_, ⟨h, _⟩ | ⟨_, _, hq, he, hf⟩⟩⟩
  · cases h
  · cases h
  · cases h
  · simp only [Bool.and_eq_true] at h1
    exact ⟨h1.1.1, h1.1.2, h1.2.1, h1.2.2, he, hf, hq⟩

set_option maxRecDepth 8000 in
set_option maxHeartbeats 4000000 in
theorem FnReflectionOf_walk (a : Option Addr) (len cap : Nat) (zs : List Int) (w : World) (h : IsRow .u8 w a len cap zs) :
    Calls Try.prog 3 #[.slice a len cap] w fun e w' => e = .returned (.bool true) ∧ Below w.heap.size w w' := by
  by_cases hl : (1048576 : Int) < (len : Int)
  · go_enter Try.func3, Try.ntmps3
    go_wp2_with fail
    go_ret
    exact ⟨rfl, Below.refl _ _⟩
  · go_enter Try.func3, Try.ntmps3
    go_wp2_with fail
    refine (drawReflectionOf_any h).mono ?_
    rintro z w1 ⟨v, ⟨u, t, rfl, hu, ht⟩, rfl, B1⟩
    clear h
    obtain ⟨x, y, rfl⟩ := load_form hu
    obtain ⟨r, s, rfl⟩ := ref_form ht
    obtain ⟨e, f, β, hI⟩ := refI_of hu ht
    have HI := Lib.hid hI
    clear hI hu ht
    go_wp2_with fail
    refine (implReflection_of HI.out _).mono ?_
    rintro z w2 ⟨rfl, n2, rfl⟩
    cases β
    · rw [numV_false]
      go_wp2_with fail
      refine (specReflection_of HI.out _).mono ?_
      rw [numV_false]
      rintro z w3 ⟨rfl, C⟩
      have B3 := Lib.hid (below_calm (below_drewN B1 _) B1.size C)
      clear C B1
      go_wp2_with fail
      refine (sameBits_same _ _ _).mono ?_
      rintro z w4 ⟨rfl, n4, rfl⟩
      go_wp2_with fail
      refine (alive_any _).mono ?_
      rintro z w5 ⟨rfl, rfl⟩
      go_wp2_with fail
      go_ret
      exact ⟨rfl, below_drewN B3.out _⟩
    · obtain ⟨fx, fy, fr, fs, fe, ff, hq⟩ := refI_told HI.out
      have FE := Lib.hid (show (fin .f32 e && fin .f32 f) = true by rw [fe, ff]; rfl)
      have FS := Lib.hid (And.intro fx (And.intro fy (And.intro fr fs)))
      have HQ := Lib.hid hq
      clear fx fy fr fs fe ff hq
      rw [numV_true]
      go_wp2_with fail
      refine (specReflection_of HI.out _).mono ?_
      rw [numV_true]
      rintro z w3 ⟨rfl, C⟩
      have B3 := Lib.hid (below_calm (below_drewN B1 _) B1.size C)
      clear C B1
      go_wp2_with fail
      refine (sameBits_same _ _ _).mono ?_
      rintro z w4 ⟨rfl, n4, rfl⟩
      by_cases hone : FloatKind.f32.format.order r 1065353216 = some .eq ∧ FloatKind.f32.format.order s 0 = some .eq
      · obtain ⟨o1, o2⟩ := hone
        have vr : V FloatKind.f32.format r = 1 := by
          have := (order_spec _ (fin_num.1 FS.out.2.2.1) (fin_num.1 one32_spec.1)).2.1.1 o1
          rw [this, one32_spec.2]
        have vs : V FloatKind.f32.format s = 0 := by
          have := (order_spec _ (fin_num.1 FS.out.2.2.2) zero32.1).2.1.1 o2
          rw [this, zero32.2]
        have VR := Lib.hid (And.intro vr vs)
        clear vr vs
        go_wp2_with fail
        refine (load_test _ _ _).mono ?_
        rintro z w5 ⟨γ, n5, rfl, rfl, hγ⟩
        have HG := Lib.hid hγ
        clear hγ
        cases γ
        · go_wp2_with fail
          refine (implFinite_any _ _ _).mono ?_
          rw [FE.out]
          rintro z w6 ⟨rfl, n6, rfl⟩
          go_wp2_with fail
          go_ret
          exact ⟨rfl, below_drewN B3.out _⟩
        · obtain ⟨hm, ⟨x0, x1, y1⟩, k0, k1⟩ := HG.out (by trivial)
          have MO := Lib.hid hm
          have hP := refl_power_le w FS.out.1 FS.out.2.1 FS.out.2.2.1 FS.out.2.2.2 VR.out.1 VR.out.2 x0 x1 y1 HQ.out
          unfold leB at hP
          have hz : milliV (sK x) 0 = .complex .f32 (milliB (sK x)) 0 := by
            have e2 : milliB 0 = 0 := by decide +kernel
            unfold milliV
            rw [okM_iff.2 ⟨by omega, by omega⟩, e2]
            rfl
          have HZ := Lib.hid hz
          clear hm hz
          by_cases heq : FloatKind.f32.format.order (milliB (sK x)) x = some .eq
          · have hmx : V FloatKind.f32.format (milliB (sK x)) = V FloatKind.f32.format x := (order_spec _ (fin_num.1 (milli_pos k0 (by omega)).1) (fin_num.1 FS.out.1)).2.1.1 heq
            obtain ⟨g1, g2, g3⟩ := refl_off w FS.out.1 FS.out.2.1 FS.out.2.2.1 FS.out.2.2.2 VR.out.1 VR.out.2 x0 x1 y1 k0 k1 hmx HQ.out
            have G1 := Lib.hid g1
            have RV := Lib.hid (resV_told' k0 (show sK x ≤ 9999999 by omega))
            obtain ⟨_, _, _, _, _, _, _, fc⟩ := cir_spec k0 (show sK x ≤ 9999999 by omega)
            have FC := Lib.hid fc
            unfold leB at g2
            unfold geB at g3
            clear hmx g1 fc x0 x1 y1 k0 k1
            go_wp2_with fail
            refine (specMilliOf_any _ _ _).mono ?_
            rw [MO.out]
            rintro z w6 ⟨rfl, n6, rfl⟩
            go_wp2_with fail
            refine (specMilli_any _ _ _).mono ?_
            rw [HZ.out]
            rintro z w7 ⟨rfl, rfl⟩
            go_wp2_with fail
            refine (implResistance_any _ _).mono ?_
            rw [RV.out]
            rintro z w8 ⟨rfl, C⟩
            have B8 := Lib.hid (below_calm (below_drewN B3.out _) B3.out.size C)
            have M8 := Cir.new w8 (cM (sK x)) 0 (cR (sK x))
            have B9 := Lib.hid (B8.out.alloc B8.out.size (.cells #[.complex .f32 (cM (sK x)) 0, .float .f32 (cR (sK x))] 38))
            clear C B8
            go_wp2_with fail
            refine (implOff_any _ _ _ _ _ FC.out _).mono ?_
            rw [G1.out]
            rintro z w9 ⟨rfl, C⟩
            have B10 := Lib.hid (below_calm B9.out B9.out.size C)
            clear C B9 M8
            go_wp2_with fail
            refine (implPower_any _ _ _).mono ?_
            rintro z w10 ⟨rfl, n10, rfl⟩
            go_wp2_with fail
            go_ret
            exact ⟨rfl, below_drewN B10.out _⟩
          · have hne : (FloatKind.f32.format.order (milliB (sK x)) x != some .eq) = true := by simpa using heq
            clear x0 x1 y1 k0 k1 heq
            go_wp2_with fail
            refine (specMilliOf_any _ _ _).mono ?_
            rw [MO.out]
            rintro z w6 ⟨rfl, n6, rfl⟩
            go_wp2_with fail
            refine (specMilli_any _ _ _).mono ?_
            rw [HZ.out]
            rintro z w7 ⟨rfl, rfl⟩
            go_wp2_with fail
            refine (implPower_any _ _ _).mono ?_
            rintro z w8 ⟨rfl, n8, rfl⟩
            go_wp2_with fail
            go_ret
            exact ⟨rfl, below_drewN B3.out _⟩
      · have hone' : FloatKind.f32.format.order r 1065353216 = some .eq → ¬ FloatKind.f32.format.order s 0 = some .eq := fun h1 h2 => hone ⟨h1, h2⟩
        by_cases h1 : FloatKind.f32.format.order r 1065353216 = some .eq
        · have h2 := hone' h1
          clear hone hone'
          go_wp2_with fail
          refine (implFinite_any _ _ _).mono ?_
          rw [FE.out]
          rintro z w6 ⟨rfl, n6, rfl⟩
          go_wp2_with fail
          go_ret
          exact ⟨rfl, below_drewN B3.out _⟩
        · clear hone hone'
          go_wp2_with fail
          refine (implFinite_any _ _ _).mono ?_
          rw [FE.out]
          rintro z w6 ⟨rfl, n6, rfl⟩
          go_wp2_with fail
          go_ret
          exact ⟨rfl, below_drewN B3.out _⟩

end Go.Proofs.Ytlidfckkggjlgaa
