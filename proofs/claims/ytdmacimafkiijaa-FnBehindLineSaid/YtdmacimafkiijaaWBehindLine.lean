/-
  The walk of FnBehindLine: it answers true.
-/
import Derived.Test.YtdmacimafkiijaaNearOf
import Derived.Test.YtdmacimafkiijaaImpl5
namespace Go.Proofs.Ytdmacimafkiijaa
open Go.RowKit Fl
open Ieee

/-- A power that is not more than 1.1 is at most 1.15. -/
theorem power_low {x y : Nat} (fx : fin .f32 x = true) (fy : fin .f32 y = true) (hp : (FloatKind.f64.format.order (powV x y) 4607632778762754458 == some .gt) = false) :
    V FloatKind.f32.format x * V FloatKind.f32.format x + V FloatKind.f32.format y * V FloatKind.f32.format y ≤ 23 / 20 := by
  have hpw : powV x y = pW x y := by unfold powV; rw [fx, fy]; rfl
  obtain ⟨p1, p2', p3⟩ := pW_spec fx fy
  rw [hpw, gt_walk p2' (fin_num.1 (by decide : fin .f64 4607632778762754458 = true))] at hp
  rcases Rat.le_total (a := V FloatKind.f32.format x * V FloatKind.f32.format x + V FloatKind.f32.format y * V FloatKind.f32.format y) (b := 23 / 20) with g | g
  · exact g
  · exfalso
    have hb : V FloatKind.f64.format 4607857958744122000 ≤ 23 / 20 ∧ V FloatKind.f64.format 4607632778762754458 < V FloatKind.f64.format 4607857958744122000 := ⟨by decide +kernel, by decide +kernel⟩
    have := rndV_ge p3 (has_V _ 4607857958744122000) (by grind)
    simp only [decide_eq_false_iff_not] at hp
    grind

/-- What is seen behind a line is near what the turn makes of it. -/
theorem beh_near {e f t u x y p q : Nat} {P R A : Rat} (np : Cm e f P R (3 / 2 * p2 (-22))) (mP : Md P R 1) (tw : Twice e f t u) (b : Beh t u x y p q A) (hA : A ≤ 3)
    (mg : Md (V FloatKind.f32.format x) (V FloatKind.f32.format y) (108 / 100)) :
    Cm p q ((P * P - R * R) * V FloatKind.f32.format x - (P * R + R * P) * V FloatKind.f32.format y) ((P * P - R * R) * V FloatKind.f32.format y + (P * R + R * P) * V FloatKind.f32.format x) (40 / 10000000) := by
  have z := p2_pos (-22)
  have h1 := np.2.2
  have t1 := Md.of tw.nt tw.nu
  have s1 := (mP.mul h1).add (h1.mul mP)
  have s2 := h1.mul h1
  have tt := (t1.add (s1.add s2)).to (z := V FloatKind.f32.format t - (P * P - R * R)) (w := V FloatKind.f32.format u - (P * R + R * P)) (by grind) (by grind)
  have b1 := Md.of b.np b.nq
  have g1 := tt.mul mg
  refine ⟨b.fp, b.fq, (((b1.add g1).to (by grind) (by grind)).le ?_)⟩
  have k : (3 / 2 * (3 * p2 (-22)) : Rat) + (3 / 2 * (2 * p2 (-22)) + (1 * (3 / 2 * p2 (-22)) + 3 / 2 * p2 (-22) * 1 + 3 / 2 * p2 (-22) * (3 / 2 * p2 (-22)))) * (108 / 100) ≤ 40 / 10000000 := by decide +kernel
  have k2 := Rat.mul_le_mul_of_nonneg_right hA (Rat.le_of_lt z)
  grind

/-! Half a turn changes nothing. -/

theorem half_words : pMul (milliB (1000 - 0)) 0 (tR 8) (Op.negFloat .f32 (tI 8)) = some (3212836864, 2147483648) ∧ pMul 3212836864 2147483648 3212836864 2147483648 = some (1065353216, 0) := ⟨by decide +kernel, by decide +kernel⟩

theorem half_run : Runs 8 0 3212836864 2147483648 :=
  ⟨run_pMul (by decide +kernel) (by decide +kernel) (by decide +kernel) (by decide +kernel) half_words.1, by decide, by decide, by decide +kernel, by decide +kernel⟩
theorem half_twice : Twice 3212836864 2147483648 1065353216 0 :=
  ⟨run_pMul (by decide +kernel) (by decide +kernel) (by decide +kernel) (by decide +kernel) half_words.2, by decide, by decide, by decide +kernel, by decide +kernel, by decide +kernel, by decide +kernel⟩

/-- 1 times a number. -/
theorem one_times {x y : Nat} (fx : fin .f32 x = true) (fy : fin .f32 y = true) (hx : absR (V FloatKind.f32.format x) ≤ top32) (hy : absR (V FloatKind.f32.format y) ≤ top32) :
    ∃ p q, Beh 1065353216 0 x y p q 1 ∧ V FloatKind.f32.format p = V FloatKind.f32.format x ∧ V FloatKind.f32.format q = V FloatKind.f32.format y := by
  obtain ⟨o1, o2⟩ : V FloatKind.f32.format 1065353216 = 1 ∧ V FloatKind.f32.format 0 = 0 := ⟨by decide +kernel, by decide +kernel⟩
  obtain ⟨p, q, r, p1, q1, r1, r2, r3⟩ := dot64_sub (a := 1065353216) (b := 0) (c := x) (d := y) (by decide) (by decide) fx fy
  obtain ⟨p', q', u, p1', q1', u1, u2, u3⟩ := dot64_add (a := 1065353216) (b := 0) (c := y) (d := x) (by decide) (by decide) fy fx
  have e1 : V FloatKind.f32.format 1065353216 * V FloatKind.f32.format x - V FloatKind.f32.format 0 * V FloatKind.f32.format y = V FloatKind.f32.format x := by rw [o1, o2]; grind
  have e2 : V FloatKind.f32.format 1065353216 * V FloatKind.f32.format y + V FloatKind.f32.format 0 * V FloatKind.f32.format x = V FloatKind.f32.format y := by rw [o1, o2]; grind
  rw [e1] at r3
  rw [e2] at u3
  obtain ⟨e, k1, k2, k3⟩ := narrow_same r2 r3 hx
  obtain ⟨f, l1, l2, l3⟩ := narrow_same u2 u3 hy
  have z : ∀ a : Rat, absR (a - a) ≤ 1 * p2 (-22) := fun a => by
    have e : a - a = 0 := by grind
    rw [e]; decide +kernel
  refine ⟨e, f, ⟨fun P t w => run_mul64 P t (by decide) (by decide) fx fy ?_ k1 l1 w, k2, l2, by rw [e1, k3]; exact z _, by rw [e2, l3]; exact z _, narrow_lt l1, by rw [l3]; exact hy⟩, k3, l3⟩
  unfold cMulBits
  rw [p1, q1, p1', q1']
  simp [r1, u1]

theorem eq_of_V {a b : Nat} (ha : fin .f32 a = true) (hb : fin .f32 b = true) (h : V FloatKind.f32.format a = V FloatKind.f32.format b) : (FloatKind.f32.format.order a b == some .eq) = true := by
  rw [(order_spec _ (fin_num.1 ha) (fin_num.1 hb)).2.1.2 h]
  rfl

set_option maxHeartbeats 4000000 in
theorem FnBehindLine_walk (a : Option Addr) (len cap : Nat) (zs : List Int) (w : World) (h : IsRow .u8 w a len cap zs) :
    Calls Try.prog 7 #[.slice a len cap] w fun e w' => e = .returned (.bool true) ∧ Below w.heap.size w w' := by
  by_cases hl : (1048576 : Int) < (len : Int)
  · go_enter Try.func7, Try.ntmps7
    go_wp2_with fail
    go_ret
    exact ⟨rfl, Below.refl _ _⟩
  · go_enter Try.func7, Try.ntmps7
    go_wp2_with fail
    refine (drawBehindLine_any h).mono ?_
    rintro e w1 ⟨v, ⟨x, y, k, l, rfl, hg, hk, hl0, hl1⟩, rfl, B1⟩
    clear h
    cases hf : (okR k l && (fin .f32 x && fin .f32 y))
    · have HF := Lib.hid hf
      clear hf hg
      go_wp2_with fail
      refine (implBeh_no HF.out _).mono ?_
      rintro z w2 ⟨rfl, C⟩
      rw [numV_false]
      have B2 := below_calm B1 B1.size C
      clear C B1
      go_wp2_with fail
      refine (specBeh_no HF.out _).mono ?_
      rintro z w3 ⟨rfl, C⟩
      rw [numV_false]
      have B3 := below_calm B2 B2.size C
      clear C B2
      go_wp2_with fail
      refine (sameBits_same _ _ _).mono ?_
      rintro e w4 ⟨rfl, n, rfl⟩
      go_wp2_with fail
      refine (alive_any _).mono ?_
      rintro e w4 ⟨rfl, rfl⟩
      go_wp2_with fail
      go_ret
      exact ⟨rfl, below_drewN B3 _⟩
    · simp only [Bool.and_eq_true] at hf
      obtain ⟨ho, fx, fy⟩ := hf
      have hb := hg fx fy
      have x0 := absR_nonneg (V FloatKind.f32.format x)
      have y0 := absR_nonneg (V FloatKind.f32.format y)
      have ht : (319000000000000000000000000000000000000 : Rat) ≤ top32 := by decide +kernel
      obtain ⟨e, f, r⟩ := runs_at (ti_lt k) hl0 (by omega)
      obtain ⟨t, u, tw⟩ := twice_at (ti_lt k) hl0 (by omega) r
      obtain ⟨A, hA, hA0, hA1, hA2⟩ : ∃ A, absR (V FloatKind.f32.format x) + absR (V FloatKind.f32.format y) ≤ A ∧ 1 ≤ A ∧ A ≤ 319000000000000000000000000000000000000 ∧ (absR (V FloatKind.f32.format x) ≤ 11 / 10 → absR (V FloatKind.f32.format y) ≤ 11 / 10 → 1001 / 1000 * A ≤ 3) := by
        rcases Rat.le_total (a := absR (V FloatKind.f32.format x) + absR (V FloatKind.f32.format y)) (b := 22 / 10) with g | g
        · exact ⟨22 / 10, g, by decide +kernel, by decide +kernel, fun _ _ => by decide +kernel⟩
        · by_cases e : absR (V FloatKind.f32.format x) + absR (V FloatKind.f32.format y) = 22 / 10
          · exact ⟨22 / 10, by rw [e]; exact Rat.le_refl, by decide +kernel, by decide +kernel, fun _ _ => by decide +kernel⟩
          · exact ⟨_, hb, by decide +kernel, Rat.le_refl, fun h1 h2 => by exfalso; grind⟩
      obtain ⟨p, q, b⟩ := beh_at tw.ft tw.fu tw.bt tw.bu fx fy hA hA0 hA1
      obtain ⟨p', q', b', vp, vq⟩ := one_times fx fy (by grind) (by grind)
      have e1 := eq_of_V b'.fp fx vp
      have e2 := eq_of_V b'.fq fy vq
      have HO := Lib.hid ho
      have HX := Lib.hid (And.intro fx fy)
      have HR := Lib.hid r
      have HT := Lib.hid tw
      have HB := Lib.hid b
      have HB' := Lib.hid b'
      have HPQ := Lib.hid (show (fin .f32 p && fin .f32 q) = true by rw [b.fp, b.fq]; rfl)
      cases hp : (FloatKind.f64.format.order (powV x y) 4607632778762754458 == some .gt)
      · have hle := power_low fx fy hp
        have sx := sq_nonneg (V FloatKind.f32.format x)
        have sy := sq_nonneg (V FloatKind.f32.format y)
        have mg : Md (V FloatKind.f32.format x) (V FloatKind.f32.format y) (108 / 100) := ⟨by decide +kernel, by grind⟩
        have mg1 := mg.fst
        have mg2 := mg.snd
        obtain ⟨n, lt⟩ := lineT_at (ti_lt k) hl0 hl1
        obtain ⟨q1, q2, s1, s2, d1, d2, L⟩ := line_at lt r.cm
        obtain ⟨b1, b2, c1, c2, LZ, nb, nc⟩ := line_one lt L
        obtain ⟨p1, p2', r1, r2, u1, u2, v1, v2, A1, A2, B1', B2', C1, C2, D1, D2, SW, nA, nB, nC, nD⟩ := scat_at lt L.ns nb nc
        have mP : Md (V FloatKind.f32.format (milliB (1000 - l)) * V FloatKind.f32.format (tR (ti k))) (-(V FloatKind.f32.format (milliB (1000 - l)) * V FloatKind.f32.format (tI (ti k)))) 1 :=
          (md_scale lt.u.le (a := V FloatKind.f32.format (milliB (1000 - l))) (b := -V FloatKind.f32.format (milliB (1000 - l))) (A := 1) (absR_le.2 ⟨lt.m1, by have := lt.m0; grind⟩) (absR_le.2 ⟨by have := lt.m0; grind, by have := lt.m1; grind⟩)).to rfl (by grind)
        obtain ⟨o1, o2, o3, o4, o5, o6, o7, o8, TW, nT⟩ := thro_at mP nA nB nC nD (Cm.of fx fy rfl rfl) mg
        have nX := beh_near r.cm mP tw b (hA2 (by grind) (by grind)) mg
        have HN := Lib.hid (nT.near nX (by decide +kernel))
        have HL := Lib.hid L
        have HZ := Lib.hid LZ
        have HS := Lib.hid SW
        have HW := Lib.hid TW
        clear nT nX TW SW nA nB nC nD LZ L nb nc lt mg mg1 mg2 sx sy hle mP b b' tw r fx fy vp vq hA hA0 hA1 hA2 hb hg x0 y0 ht ho
        go_wp2_with fail
        refine (implBeh_of HO.out HX.out.1 HX.out.2 HR.out HT.out HB.out _).mono ?_
        rintro z w2 ⟨rfl, C⟩
        rw [numV_true]
        have B2 := below_calm B1 B1.size C
        clear C B1
        go_wp2_with fail
        refine (specBeh_of HO.out HX.out.1 HX.out.2 HR.out HT.out HB.out _).mono ?_
        rintro z w3 ⟨rfl, C⟩
        rw [numV_true]
        have B3 := below_calm B2 B2.size C
        clear C B2
        go_wp2_with fail
        refine (sameBits_same _ _ _).mono ?_
        rintro e w4 ⟨rfl, n4, rfl⟩
        go_wp2_with fail
        refine (implBeh_of (k := 8) (l := 0) (by decide) HX.out.1 HX.out.2 half_run half_twice HB'.out _).mono ?_
        rintro z w5 ⟨rfl, C⟩
        rw [numV_true]
        have B5 := below_calm (below_drewN B3 n4) (below_drewN B3 n4).size C
        clear C B3
        go_wp2_with fail
        refine (implPower_any _ _ _).mono ?_
        rintro e w6 ⟨rfl, n6, rfl⟩
        have B6 := below_drewN B5 n6
        clear B5
        go_wp2_with fail
        refine (implLine_of HO.out HR.out HL.out HZ.out _).mono ?_
        rintro z w7 ⟨rfl, C⟩
        have B7 := below_calm B6 B6.size C
        clear C B6
        go_wp2_with fail
        have B7' := B7.alloc B7.size (.cells #[.complex .f32 s1 s2, .complex .f32 b1 b2, .complex .f32 c1 c2, .complex .f32 s1 s2] 47)
        clear B7
        refine (implScattering_w HS.out _).mono ?_
        rintro z w8 ⟨rfl, C⟩
        have B8 := below_calm B7' B7'.size C
        clear C B7'
        go_wp2_with fail
        have B8' := B8.alloc B8.size (.cells #[.complex .f32 A1 A2, .complex .f32 B1' B2', .complex .f32 C1 C2, .complex .f32 D1 D2] 47)
        clear B8
        refine (implThrough_w HW.out _).mono ?_
        rintro z w9 ⟨rfl, C⟩
        have B9 := below_calm B8' B8'.size C
        clear C B8'
        go_wp2_with fail
        refine (implNear_any _ _ _ _ _ _ (by decide)).mono ?_
        rw [HN.out]
        rintro e w10 ⟨rfl, n10, rfl⟩
        go_wp2_with fail
        go_ret
        exact ⟨rfl, below_drewN B9 _⟩
      · clear b b' tw r fx fy vp vq hA hA0 hA1 hA2 hb hg x0 y0 ht ho
        go_wp2_with fail
        refine (implBeh_of HO.out HX.out.1 HX.out.2 HR.out HT.out HB.out _).mono ?_
        rintro z w2 ⟨rfl, C⟩
        rw [numV_true]
        have B2 := below_calm B1 B1.size C
        clear C B1
        go_wp2_with fail
        refine (specBeh_of HO.out HX.out.1 HX.out.2 HR.out HT.out HB.out _).mono ?_
        rintro z w3 ⟨rfl, C⟩
        rw [numV_true]
        have B3 := below_calm B2 B2.size C
        clear C B2
        go_wp2_with fail
        refine (sameBits_same _ _ _).mono ?_
        rintro e w4 ⟨rfl, n4, rfl⟩
        go_wp2_with fail
        refine (implBeh_of (k := 8) (l := 0) (by decide) HX.out.1 HX.out.2 half_run half_twice HB'.out _).mono ?_
        rintro z w5 ⟨rfl, C⟩
        rw [numV_true]
        have B5 := below_calm (below_drewN B3 n4) (below_drewN B3 n4).size C
        clear C B3
        go_wp2_with fail
        refine (implPower_any _ _ _).mono ?_
        rintro e w6 ⟨rfl, n6, rfl⟩
        go_wp2_with fail
        refine (implFinite_any _ _ _).mono ?_
        rw [HPQ.out]
        rintro e w7 ⟨rfl, n7, rfl⟩
        go_wp2_with fail
        go_ret
        exact ⟨rfl, below_drewN B5 _⟩

end Go.Proofs.Ytdmacimafkiijaa
