/-
  The walk of FnLineChain: it answers true.
-/
import Derived.Test.YtdmacimafkiijaaLineY
namespace Go.Proofs.Ytdmacimafkiijaa
open Go.RowKit Fl

theorem one_m0 : V FloatKind.f32.format (milliB (1000 - 0)) = 1 := by decide +kernel

theorem m_low {l : Int} (h0 : 0 ≤ l) (h1 : l ≤ 249) : 7505 / 10000 ≤ V FloatKind.f32.format (milliB (1000 - l)) := by
  obtain ⟨_, _, _, _, m4⟩ := milli_spec (n := 1000 - l) (by omega) (by omega)
  have hl : (751 : Rat) ≤ ((1000 - l : Int) : Rat) := by simpa using rat_of_int (show 751 ≤ 1000 - l by omega)
  grind

/-- A line without loss, with a whole impedance: its words. -/
structure Plain (k : Int) (x y e f q1 q2 s1 s2 d1 d2 b1 b2 c1 c2 : Nat) (C S m n N v : Rat) : Prop where
  ok : okR k 0 = true
  r : Runs (ti k) 0 e f
  L : Line e f q1 q2 s1 s2 d1 d2 C S m n
  Z : LineZ x y s1 s2 d1 d2 b1 b2 c1 c2
  ns : Cm s1 s2 (V FloatKind.f32.format (tR (ti k))) 0 (25 / 10000000)
  nb : Cm b1 b2 0 (N * V FloatKind.f32.format (tI (ti k))) (N * (30 / 10000000))
  nc : Cm c1 c2 0 (v * V FloatKind.f32.format (tI (ti k))) (v * (34 / 10000000))

theorem plain_at {x y : Nat} (fx : fin .f32 x = true) (fy : fin .f32 y = true) {N v : Rat} (vx : V FloatKind.f32.format x = N) (vy : V FloatKind.f32.format y = 0) (N0 : 1 ≤ N) (N1 : N ≤ 100) (hv : N * v = 1) (v0 : 0 ≤ v)
    {k : Int} (hk : okR k 0 = true) : ∃ e f q1 q2 s1 s2 d1 d2 b1 b2 c1 c2 C S m n, Plain k x y e f q1 q2 s1 s2 d1 d2 b1 b2 c1 c2 C S m n N v := by
  obtain ⟨e, f, r⟩ := runs_at (ti_lt k) (l := 0) (by decide) (by decide)
  obtain ⟨n, t⟩ := lineT_at (ti_lt k) (l := 0) (by decide) (by decide)
  obtain ⟨q1, q2, s1, s2, d1, d2, L⟩ := line_at t r.cm
  obtain ⟨b1, b2, c1, c2, Z, nb, nc⟩ := line_whole fx fy vx vy N0 N1 hv t L
  have ns := L.ns
  have t' := t
  rw [one_m0] at t' ns nb nc
  obtain ⟨g1, g2, g3⟩ := no_loss N0 v0 t' ns nb nc
  exact ⟨e, f, q1, q2, s1, s2, d1, d2, b1, b2, c1, c2, _, _, _, n, hk, r, L, Z, g1, g2, g3⟩

theorem implLine_plain {k : Int} {x y e f q1 q2 s1 s2 d1 d2 b1 b2 c1 c2 : Nat} {C S m n N v : Rat} (P : Plain k x y e f q1 q2 s1 s2 d1 d2 b1 b2 c1 c2 C S m n N v) (w : World) :
    Calls Try.prog 28 #[.complex .f32 x y, .int .i64 k, .int .i64 0] w fun z w' => z = .returned (.tuple #[twoV s1 s2 b1 b2 c1 c2 s1 s2, .bool true]) ∧ Calm w w' := implLine_of P.ok P.r P.L P.Z w

/-- Both, one behind the other, are near the long one. -/
theorem both_near {k j : Int} {N v : Rat} (N0 : 1 ≤ N) (N1 : N ≤ 100) (v0 : 0 ≤ v) (v1 : v ≤ 1) {o1 o2 o3 o4 o5 o6 o7 o8 s1 s2 b1 b2 c1 c2 : Nat}
    (h1 : Cm o1 o2 (V FloatKind.f32.format (tR (ti k)) * V FloatKind.f32.format (tR (ti j)) - V FloatKind.f32.format (tI (ti k)) * V FloatKind.f32.format (tI (ti j))) 0 (135 / 10000000))
    (h2 : Cm o3 o4 0 (N * (V FloatKind.f32.format (tR (ti k)) * V FloatKind.f32.format (tI (ti j)) + V FloatKind.f32.format (tI (ti k)) * V FloatKind.f32.format (tR (ti j)))) (N * (135 / 10000000)))
    (h3 : Cm o5 o6 0 (v * (V FloatKind.f32.format (tR (ti k)) * V FloatKind.f32.format (tI (ti j)) + V FloatKind.f32.format (tI (ti k)) * V FloatKind.f32.format (tR (ti j)))) (v * (135 / 10000000)))
    (h4 : Cm o7 o8 (V FloatKind.f32.format (tR (ti k)) * V FloatKind.f32.format (tR (ti j)) - V FloatKind.f32.format (tI (ti k)) * V FloatKind.f32.format (tI (ti j))) 0 (135 / 10000000))
    (ns : Cm s1 s2 (V FloatKind.f32.format (tR (ti (k + j)))) 0 (25 / 10000000)) (nb : Cm b1 b2 0 (N * V FloatKind.f32.format (tI (ti (k + j)))) (N * (30 / 10000000))) (nc : Cm c1 c2 0 (v * V FloatKind.f32.format (tI (ti (k + j)))) (v * (34 / 10000000))) :
    nearTwoB o1 o2 o3 o4 o5 o6 o7 o8 s1 s2 b1 b2 c1 c2 s1 s2 4576918229304087675 = true := by
  have ht := add_table ⟨ti k, ti_lt k⟩ ⟨ti j, ti_lt j⟩
  have e : ti (k + j) = (ti k + ti j) % 16 := by unfold ti; omega
  simp only [← e, Bool.and_eq_true, decide_eq_true_eq] at ht
  obtain ⟨t1, t2⟩ := ht
  have z1 : absR (0 - 0 : Rat) ≤ 1 / 1000000 := by decide +kernel
  have m1 := (Md.of t1 z1).le (B := 15 / 10000000) (by decide +kernel)
  have m2 := (Md.of z1 t2).le (B := 15 / 10000000) (by decide +kernel)
  have hN : 0 ≤ N := by grind
  have sc : ∀ k z : Rat, 0 ≤ k → Md (0 - 0) z (15 / 10000000) → Md (0 - 0) (k * z) (k * (15 / 10000000)) := fun k z hk h => (((show Md k 0 k from ⟨hk, by grind⟩).mul h).to (by grind) (by grind))
  have mN := (sc N _ hN m2).to (z := 0 - 0) (w := N * (V FloatKind.f32.format (tR (ti k)) * V FloatKind.f32.format (tI (ti j)) + V FloatKind.f32.format (tI (ti k)) * V FloatKind.f32.format (tR (ti j))) - N * V FloatKind.f32.format (tI (ti (k + j)))) rfl (by grind)
  have mv := (sc v _ v0 m2).to (z := 0 - 0) (w := v * (V FloatKind.f32.format (tR (ti k)) * V FloatKind.f32.format (tI (ti j)) + V FloatKind.f32.format (tI (ti k)) * V FloatKind.f32.format (tR (ti j))) - v * V FloatKind.f32.format (tI (ti (k + j)))) rfl (by grind)
  have k7 : p2 (-7) = 1 / 128 := by decide +kernel
  unfold nearTwoB
  rw [h1.near2 ns m1 (by decide +kernel), h2.near2 nb mN (by rw [k7]; grind), h3.near2 nc mv (by rw [k7]; grind), h4.near2 ns m1 (by decide +kernel)]
  rfl

theorem inv_at {N : Rat} (h1 : 1 ≤ N) (h2 : N ≤ 100) : ∃ v, N * v = 1 ∧ 1 / 100 ≤ v ∧ v ≤ 1 := by
  have hv : 1 / N * N = 1 := Rat.div_mul_cancel (by grind)
  generalize 1 / N = v at hv
  refine ⟨v, by rw [Rat.mul_comm]; exact hv, ?_, ?_⟩
  · rcases Rat.le_total (a := 1 / 100) (b := v) with g | g
    · exact g
    · by_cases e : v = 1 / 100
      · rw [e]; exact Rat.le_refl
      · exfalso
        have := Rat.mul_nonneg (show 0 ≤ 100 - N by grind) (show 0 ≤ 1 / 100 - v by grind)
        have := Rat.mul_pos (show 0 < N by grind) (show 0 < 1 / 100 - v by grind)
        grind
  · rcases Rat.le_total (a := v) (b := 1) with g | g
    · exact g
    · by_cases e : v = 1
      · rw [e]; exact Rat.le_refl
      · exfalso
        have := Rat.mul_pos (show 0 < N by grind) (show 0 < v - 1 by grind)
        grind

/-- All the words that the law comes to, with a whole impedance. -/
structure AllW (k j : Int) (x y s1 s2 d1 d2 b1 b2 c1 c2 p1 p2 r1 r2 hb1 hb2 hc1 hc2 ae af aq1 aq2 as1 as2 ad1 ad2 ab1 ab2 ac1 ac2 be bf bq1 bq2 bs1 bs2 bd1 bd2 bb1 bb2 bc1 bc2 ge gf gq1 gq2 gs1 gs2 gd1 gd2 gb1 gb2 gc1 gc2 x1 y1 x2 y2 x3 y3 x4 y4 x5 y5 x6 y6 x7 y7 x8 y8 : Nat) (aC aS am an bC bS bm bn gC gS gm gn N v : Rat) : Prop where
  Z : LineZ x y s1 s2 d1 d2 b1 b2 c1 c2
  D : DetW s1 s2 b1 b2 c1 c2 s1 s2 p1 p2 r1 r2
  nd : nearB (subB p1 r1) (subB p2 r2) 1065353216 0 4562254508917369340 = true
  H : LineZ x y 3212836864 0 0 0 hb1 hb2 hc1 hc2
  z1 : (FloatKind.f32.format.order hb1 0 == some .eq) = true
  z2 : (FloatKind.f32.format.order hb2 0 == some .eq) = true
  z3 : (FloatKind.f32.format.order hc1 0 == some .eq) = true
  z4 : (FloatKind.f32.format.order hc2 0 == some .eq) = true
  A : Plain k x y ae af aq1 aq2 as1 as2 ad1 ad2 ab1 ab2 ac1 ac2 aC aS am an N v
  B : Plain j x y be bf bq1 bq2 bs1 bs2 bd1 bd2 bb1 bb2 bc1 bc2 bC bS bm bn N v
  G : Plain (k + j) x y ge gf gq1 gq2 gs1 gs2 gd1 gd2 gb1 gb2 gc1 gc2 gC gS gm gn N v
  C : CasW as1 as2 ab1 ab2 ac1 ac2 as1 as2 bs1 bs2 bb1 bb2 bc1 bc2 bs1 bs2 x1 y1 x2 y2 x3 y3 x4 y4 x5 y5 x6 y6 x7 y7 x8 y8
  nt : nearTwoB (addB x1 x2) (addB y1 y2) (addB x3 x4) (addB y3 y4) (addB x5 x6) (addB y5 y6) (addB x7 x8) (addB y7 y8) gs1 gs2 gb1 gb2 gc1 gc2 gs1 gs2 4576918229304087675 = true
  ey : (FloatKind.f32.format.order y 0 == some .eq) = true
  ex : (FloatKind.f32.format.order x 1065353216 == some .lt) = false

theorem all_at {x y e f q1 q2 s1 s2 d1 d2 : Nat} {k l j : Int} {n : Rat} (fx : fin .f32 x = true) (fy : fin .f32 y = true) (vy : V FloatKind.f32.format y = 0) (vx1 : 1 ≤ V FloatKind.f32.format x) (vx2 : V FloatKind.f32.format x ≤ 100)
    (ho : okR k l = true) (hk : k < 33) (hj0 : 0 ≤ j) (hj1 : j < 16) (lt : LineT (V FloatKind.f32.format (tR (ti k))) (V FloatKind.f32.format (tI (ti k))) (V FloatKind.f32.format (milliB (1000 - l))) n)
    (L : Line e f q1 q2 s1 s2 d1 d2 (V FloatKind.f32.format (tR (ti k))) (V FloatKind.f32.format (tI (ti k))) (V FloatKind.f32.format (milliB (1000 - l))) n) :
    ∃ b1 b2 c1 c2 p1 p2 r1 r2 hb1 hb2 hc1 hc2 ae af aq1 aq2 as1 as2 ad1 ad2 ab1 ab2 ac1 ac2 be bf bq1 bq2 bs1 bs2 bd1 bd2 bb1 bb2 bc1 bc2 ge gf gq1 gq2 gs1 gs2 gd1 gd2 gb1 gb2 gc1 gc2 x1 y1 x2 y2 x3 y3 x4 y4 x5 y5 x6 y6 x7 y7 x8 y8 aC aS am an bC bS bm bn gC gS gm gn N v, AllW k j x y s1 s2 d1 d2 b1 b2 c1 c2 p1 p2 r1 r2 hb1 hb2 hc1 hc2 ae af aq1 aq2 as1 as2 ad1 ad2 ab1 ab2 ac1 ac2 be bf bq1 bq2 bs1 bs2 bd1 bd2 bb1 bb2 bc1 bc2 ge gf gq1 gq2 gs1 gs2 gd1 gd2 gb1 gb2 gc1 gc2 x1 y1 x2 y2 x3 y3 x4 y4 x5 y5 x6 y6 x7 y7 x8 y8 aC aS am an bC bS bm bn gC gS gm gn N v := by
  obtain ⟨v, hv, hv1, hv2⟩ := inv_at vx1 vx2
  have v0 : 0 ≤ v := by grind
  obtain ⟨⟨k0, k1⟩, _⟩ := okR_iff.1 ho
  obtain ⟨b1, b2, c1, c2, LZ, nb, nc⟩ := line_whole fx fy rfl vy vx1 vx2 hv lt L
  obtain ⟨p1, p2, r1, r2, DW, nd⟩ := det_at vx1 hv lt L.ns nb nc
  obtain ⟨hb1, hb2, hc1, hc2, HLZ, e1, e2, e3, e4⟩ := half_at fx fy (show V FloatKind.f32.format x ≠ 0 by grind)
  obtain ⟨ae, af, aq1, aq2, as1, as2, ad1, ad2, ab1, ab2, ac1, ac2, aC, aS, am, an, PA⟩ := plain_at fx fy rfl vy vx1 vx2 hv v0 (show okR k 0 = true from okR_iff.2 ⟨⟨k0, k1⟩, by omega, by omega⟩)
  obtain ⟨be, bf, bq1, bq2, bs1, bs2, bd1, bd2, bb1, bb2, bc1, bc2, bC, bS, bm, bn, PB⟩ := plain_at fx fy rfl vy vx1 vx2 hv v0 (show okR j 0 = true from okR_iff.2 ⟨⟨hj0, by omega⟩, by omega, by omega⟩)
  obtain ⟨ge, gf, gq1, gq2, gs1, gs2, gd1, gd2, gb1, gb2, gc1, gc2, gC, gS, gm, gn, PG⟩ := plain_at fx fy rfl vy vx1 vx2 hv v0 (show okR (k + j) 0 = true from okR_iff.2 ⟨⟨by omega, by omega⟩, by omega, by omega⟩)
  obtain ⟨_, _, _, ua⟩ := unit_of (ti_lt k)
  obtain ⟨_, _, _, ub⟩ := unit_of (ti_lt j)
  obtain ⟨x1, y1, x2, y2, x3, y3, x4, y4, x5, y5, x6, y6, x7, y7, x8, y8, CW, n1, n2, n3, n4⟩ := cas_at vx1 vx2 hv hv1 hv2 ua.c1 ua.s1 ub.c1 ub.s1 PA.ns PA.nb PA.nc PB.ns PB.nb PB.nc
  have ey' : (FloatKind.f32.format.order y 0 == some .eq) = true := by rw [eq_walk (fin_num.1 fy) zero32.1, zero32.2]; simpa using vy
  have ex' : (FloatKind.f32.format.order x 1065353216 == some .lt) = false := by
    have v1 : V FloatKind.f32.format 1065353216 = 1 := by decide +kernel
    rw [lt_walk (fin_num.1 fx) (fin_num.1 (by decide : fin .f32 1065353216 = true)), v1]
    simpa using Rat.not_lt.2 vx1
  exact ⟨b1, b2, c1, c2, p1, p2, r1, r2, hb1, hb2, hc1, hc2, ae, af, aq1, aq2, as1, as2, ad1, ad2, ab1, ab2, ac1, ac2, be, bf, bq1, bq2, bs1, bs2, bd1, bd2, bb1, bb2, bc1, bc2, ge, gf, gq1, gq2, gs1, gs2, gd1, gd2, gb1, gb2, gc1, gc2, x1, y1, x2, y2, x3, y3, x4, y4, x5, y5, x6, y6, x7, y7, x8, y8, aC, aS, am, an, bC, bS, bm, bn, gC, gS, gm, gn, _, v,
    LZ, DW, nd.near one_cm (by decide +kernel), HLZ, e1, e2, e3, e4, PA, PB, PG, CW, both_near vx1 vx2 v0 hv2 n1 n2 n3 n4 PG.ns PG.nb PG.nc, ey', ex'⟩

set_option maxRecDepth 8000 in
set_option maxHeartbeats 4000000 in
theorem FnLineChain_walk (a : Option Addr) (len cap : Nat) (zs : List Int) (a' : Option Addr) (len' cap' : Nat) (zs' : List Int) (w : World) (h : IsRow .u8 w a len cap zs) (_h' : IsRow .u8 w a' len' cap' zs') :
    Calls Try.prog 6 #[.slice a len cap, .slice a' len' cap'] w fun e w' => e = .returned (.bool true) ∧ Below w.heap.size w w' := by
  by_cases hl : (1048576 : Int) < (len : Int)
  · go_enter Try.func6, Try.ntmps6
    go_wp2_with fail
    go_ret
    exact ⟨rfl, Below.refl _ _⟩
  by_cases hl' : (1048576 : Int) < (len' : Int)
  · go_enter Try.func6, Try.ntmps6
    go_wp2_with fail
    go_ret
    exact ⟨rfl, Below.refl _ _⟩
  · go_enter Try.func6, Try.ntmps6
    go_wp2_with fail
    refine (drawLineChain_any h).mono ?_
    rintro e w1 ⟨v, ⟨x, y, k, l, rfl, hg, hk, hl0, hl1⟩, rfl, B1⟩
    clear h _h'
    cases hf : (okR k l && (fin .f32 x && fin .f32 y) && !(FloatKind.f32.format.order x 0 == some .eq && FloatKind.f32.format.order y 0 == some .eq))
    · have HF := Lib.hid hf
      clear hf hg
      go_wp2_with fail
      refine (implLine_no (by omega) HF.out _).mono ?_
      rintro z w2 ⟨rfl, C⟩
      have B2 := below_calm B1 B1.size C
      clear C B1
      go_wp2_with fail
      have B2' := B2.alloc B2.size (.cells #[.complex .f32 0 0, .complex .f32 0 0, .complex .f32 0 0, .complex .f32 0 0] 47)
      have M2 := Blk.new w2 0 0 0 0 0 0 0 0
      clear B2
      refine (specLine_no HF.out _).mono ?_
      rintro z w3 ⟨rfl, C⟩
      have B3 := below_calm B2' B2'.size C
      have M3 := M2.calm C
      have m0 := M3.c0
      have m1 := M3.c1
      have m2 := M3.c2
      have m3 := M3.c3
      have ml := M3.lt
      have HM3 := Lib.hid M3
      clear C B2' M2 M3
      go_wp2_with fail
      have B3' := B3.alloc B3.size (.cells #[.complex .f32 0 0, .complex .f32 0 0, .complex .f32 0 0, .complex .f32 0 0] 47)
      refine (sameTwo_same _ _ _ _ _ _ _ _ _).mono ?_
      rintro z w4 ⟨rfl, C⟩
      have B4 := below_calm B3' B3'.size C
      have M4 := (HM3.out.alloc (.cells #[.complex .f32 0 0, .complex .f32 0 0, .complex .f32 0 0, .complex .f32 0 0] 47)).calm C
      clear m0 m1 m2 m3 ml
      have m0 := M4.c0
      have m1 := M4.c1
      have m2 := M4.c2
      have m3 := M4.c3
      have ml := M4.lt
      clear C B3 B3' HM3 M4
      go_wp2_with fail
      refine (noTwo_zero _).mono ?_
      rintro z w5 ⟨rfl, C⟩
      have B5 := below_calm B4 B4.size C
      clear C B4 m0 m1 m2 m3 ml
      go_wp2_with fail
      refine (alive_any _).mono ?_
      rintro e w6 ⟨rfl, rfl⟩
      go_wp2_with fail
      go_ret
      exact ⟨rfl, B5⟩
    · simp only [Bool.and_eq_true, Bool.not_eq_true'] at hf
      obtain ⟨⟨ho, fx, fy⟩, hz⟩ := hf
      obtain ⟨e, f, r⟩ := runs_at (ti_lt k) hl0 (by omega)
      obtain ⟨n, lt⟩ := lineT_at (ti_lt k) hl0 hl1
      obtain ⟨q1, q2, s1, s2, d1, d2, L⟩ := line_at lt r.cm
      have HO := Lib.hid ho
      have HR := Lib.hid r
      by_cases hw : V FloatKind.f32.format y = 0 ∧ 1 ≤ V FloatKind.f32.format x ∧ V FloatKind.f32.format x ≤ 100
      · obtain ⟨vy, vx1, vx2⟩ := hw
        obtain ⟨j, hj, hj0, hj1⟩ : ∃ j : Int, j = ((len' : Nat) : Int) % 16 ∧ 0 ≤ j ∧ j < 16 := ⟨_, rfl, by omega, by omega⟩
        obtain ⟨b1, b2, c1, c2, p1, p2, r1, r2, hb1, hb2, hc1, hc2, ae, af, aq1, aq2, as1, as2, ad1, ad2, ab1, ab2, ac1, ac2, be, bf, bq1, bq2, bs1, bs2, bd1, bd2, bb1, bb2, bc1, bc2, ge, gf, gq1, gq2, gs1, gs2, gd1, gd2, gb1, gb2, gc1, gc2, x1, y1, x2, y2, x3, y3, x4, y4, x5, y5, x6, y6, x7, y7, x8, y8, aC, aS, am, an, bC, bS, bm, bn, gC, gS, gm, gn, N, v, W⟩ := all_at fx fy vy vx1 vx2 ho hk.2 hj0 hj1 lt L
        subst hj
        have HL := Lib.hid L
        have HW := Lib.hid W
        have HZ := Lib.hid W.Z
        have HT := Lib.hid W.Z.f
        have HD := Lib.hid W.nd
        have HNT := Lib.hid W.nt
        have ey' : FloatKind.f32.format.order y 0 = some .eq := by simpa using W.ey
        have ex' := W.ex
        have e1 := W.z1
        have e2 := W.z2
        have e3 := W.z3
        have e4 := W.z4
        have k0 : 0 ≤ k := (okR_iff.1 ho).1.1
        have em : (FloatKind.f32.format.order 3212836864 3212836864 == some .eq) = true := by decide
        have ez : (FloatKind.f32.format.order 0 0 == some .eq) = true := by decide
        clear W L lt r hz hg fx fy vx1 vx2 vy ho
        go_wp2_with fail
        refine (implLine_of HO.out HR.out HL.out HZ.out _).mono ?_
        rintro z w2 ⟨rfl, C⟩
        have B2 := below_calm B1 B1.size C
        clear C B1
        go_wp2_with fail
        have B2' := B2.alloc B2.size (.cells #[.complex .f32 s1 s2, .complex .f32 b1 b2, .complex .f32 c1 c2, .complex .f32 s1 s2] 47)
        have M2 := Blk.new w2 s1 s2 b1 b2 c1 c2 s1 s2
        clear B2
        refine (specLine_of HO.out HR.out HL.out HZ.out _).mono ?_
        rintro z w3 ⟨rfl, C⟩
        have B3 := below_calm B2' B2'.size C
        have M3 := M2.calm C
        have m0 := M3.c0
        have m1 := M3.c1
        have m2 := M3.c2
        have m3 := M3.c3
        have ml := M3.lt
        have HM3 := Lib.hid M3
        clear C B2' M2 M3
        go_wp2_with fail
        have B3' := B3.alloc B3.size (.cells #[.complex .f32 s1 s2, .complex .f32 b1 b2, .complex .f32 c1 c2, .complex .f32 s1 s2] 47)
        refine (sameTwo_same _ _ _ _ _ _ _ _ _).mono ?_
        rintro z w4 ⟨rfl, C⟩
        have B4 := below_calm B3' B3'.size C
        have M4 := (HM3.out.alloc (.cells #[.complex .f32 s1 s2, .complex .f32 b1 b2, .complex .f32 c1 c2, .complex .f32 s1 s2] 47)).calm C
        clear m0 m1 m2 m3 ml
        have m0 := M4.c0
        have m1 := M4.c1
        have m2 := M4.c2
        have m3 := M4.c3
        have ml := M4.lt
        have HM4 := Lib.hid M4
        clear C B3 B3' HM3 M4
        go_wp2_with fail
        refine (whole_any _ _ _ _ (by omega) (by omega)).mono ?_
        rintro e w5 ⟨γ, n5, rfl, hw5, hγ⟩
        have B5 : Below w.heap.size w w5 := by rw [hw5]; exact below_drewN B4 n5
        have M5 : Blk w5 w2.heap.size s1 s2 b1 b2 c1 c2 s1 s2 := by rw [hw5]; exact HM4.out.drewN n5
        clear m0 m1 m2 m3 ml hγ
        have m0 := M5.c0
        have m1 := M5.c1
        have m2 := M5.c2
        have m3 := M5.c3
        have ml := M5.lt
        clear hw5 B4 HM4 M5
        cases γ
        · go_wp2_with fail
          refine (implTwoOk_any _ _ _ _ _ _ _ _ _).mono ?_
          rw [HT.out]
          rintro z w6 ⟨rfl, C⟩
          have B6 := below_calm B5 B5.size C
          clear C B5
          go_wp2_with fail
          go_ret
          exact ⟨rfl, B6⟩
        · go_wp2_with fail
          refine (implDet_w HW.out.D _).mono ?_
          rintro z w6 ⟨rfl, C⟩
          have B6 := below_calm B5 B5.size C
          clear C B5 m0 m1 m2 m3 ml
          go_wp2_with fail
          refine (implLine_of (k := 8) (l := 0) (by decide) half_run0 half_line HW.out.H _).mono ?_
          rintro z w7 ⟨rfl, C⟩
          have B7 := below_calm B6 B6.size C
          clear C B6
          go_wp2_with fail
          have B7' := B7.alloc B7.size (.cells #[.complex .f32 3212836864 0, .complex .f32 hb1 hb2, .complex .f32 hc1 hc2, .complex .f32 3212836864 0] 47)
          have H7 := Blk.new w7 3212836864 0 hb1 hb2 hc1 hc2 3212836864 0
          clear B7
          refine (implLine_plain HW.out.A _).mono ?_
          rintro z w8 ⟨rfl, C⟩
          have B8 := below_calm B7' B7'.size C
          have H8 := Lib.hid (H7.calm C)
          clear C B7' H7
          go_wp2_with fail
          have B8' := B8.alloc B8.size (.cells #[.complex .f32 as1 as2, .complex .f32 ab1 ab2, .complex .f32 ac1 ac2, .complex .f32 as1 as2] 47)
          have A8 := Blk.new w8 as1 as2 ab1 ab2 ac1 ac2 as1 as2
          clear B8
          refine (implLine_plain HW.out.B _).mono ?_
          rintro z w9 ⟨rfl, C⟩
          have B9 := below_calm B8' B8'.size C
          have H9 := Lib.hid ((H8.out.alloc (.cells #[.complex .f32 as1 as2, .complex .f32 ab1 ab2, .complex .f32 ac1 ac2, .complex .f32 as1 as2] 47)).calm C)
          have A9 := A8.calm C
          have a0 := A9.c0
          have a1 := A9.c1
          have a2 := A9.c2
          have a3 := A9.c3
          have al := A9.lt
          clear C B8' A8 H8 A9
          go_wp2_with fail
          have B9' := B9.alloc B9.size (.cells #[.complex .f32 bs1 bs2, .complex .f32 bb1 bb2, .complex .f32 bc1 bc2, .complex .f32 bs1 bs2] 47)
          clear B9
          refine (cascade_w HW.out.C _).mono ?_
          rintro z w10 ⟨rfl, C⟩
          have B10 := below_calm B9' B9'.size C
          have H10 := Lib.hid ((H9.out.alloc (.cells #[.complex .f32 bs1 bs2, .complex .f32 bb1 bb2, .complex .f32 bc1 bc2, .complex .f32 bs1 bs2] 47)).calm C)
          clear C B9' H9 a0 a1 a2 a3 al
          go_wp2_with fail
          have B10' := B10.alloc B10.size (.cells #[.complex .f32 (addB x1 x2) (addB y1 y2), .complex .f32 (addB x3 x4) (addB y3 y4), .complex .f32 (addB x5 x6) (addB y5 y6), .complex .f32 (addB x7 x8) (addB y7 y8)] 47)
          have O10 := Blk.new w10 (addB x1 x2) (addB y1 y2) (addB x3 x4) (addB y3 y4) (addB x5 x6) (addB y5 y6) (addB x7 x8) (addB y7 y8)
          clear B10
          refine (implLine_plain HW.out.G _).mono ?_
          rintro z w11 ⟨rfl, C⟩
          have B11 := below_calm B10' B10'.size C
          have H11 := (H10.out.alloc (.cells #[.complex .f32 (addB x1 x2) (addB y1 y2), .complex .f32 (addB x3 x4) (addB y3 y4), .complex .f32 (addB x5 x6) (addB y5 y6), .complex .f32 (addB x7 x8) (addB y7 y8)] 47)).calm C
          have O11 := O10.calm C
          have HH := Lib.hid H11
          have HO11 := Lib.hid O11
          have f0 := H11.c0
          have f1 := H11.c1
          have f2 := H11.c2
          have f3 := H11.c3
          have fl := H11.lt
          have g0 := O11.c0
          have g1 := O11.c1
          have g2 := O11.c2
          have g3 := O11.c3
          have gl := O11.lt
          clear C B10' O10 H10 H11 O11
          go_wp2_with fail
          refine (implNear_any _ _ _ _ _ _ (by decide)).mono ?_
          rw [HD.out]
          rintro z w12 ⟨rfl, n12, hw12⟩
          have B12 : Below w.heap.size w w12 := by rw [hw12]; exact below_drewN (B11.alloc B11.size (.cells #[.complex .f32 gs1 gs2, .complex .f32 gb1 gb2, .complex .f32 gc1 gc2, .complex .f32 gs1 gs2] 47)) n12
          have H12 : Blk w12 w7.heap.size 3212836864 0 hb1 hb2 hc1 hc2 3212836864 0 := by rw [hw12]; exact (HH.out.alloc (.cells #[.complex .f32 gs1 gs2, .complex .f32 gb1 gb2, .complex .f32 gc1 gc2, .complex .f32 gs1 gs2] 47)).drewN n12
          have O12 : Blk w12 w10.heap.size (addB x1 x2) (addB y1 y2) (addB x3 x4) (addB y3 y4) (addB x5 x6) (addB y5 y6) (addB x7 x8) (addB y7 y8) := by rw [hw12]; exact (HO11.out.alloc (.cells #[.complex .f32 gs1 gs2, .complex .f32 gb1 gb2, .complex .f32 gc1 gc2, .complex .f32 gs1 gs2] 47)).drewN n12
          have L12 : Blk w12 w11.heap.size gs1 gs2 gb1 gb2 gc1 gc2 gs1 gs2 := by rw [hw12]; exact (Blk.new w11 gs1 gs2 gb1 gb2 gc1 gc2 gs1 gs2).drewN n12
          clear f0 f1 f2 f3 fl g0 g1 g2 g3 gl hw12 B11 HH HO11
          have f0 := H12.c0
          have f1 := H12.c1
          have f2 := H12.c2
          have f3 := H12.c3
          have fl := H12.lt
          have g0 := O12.c0
          have g1 := O12.c1
          have g2 := O12.c2
          have g3 := O12.c3
          have gl := O12.lt
          have l0 := L12.c0
          have l1 := L12.c1
          have l2 := L12.c2
          have l3 := L12.c3
          have ll := L12.lt
          clear H12 O12 L12
          go_wp2_with fail
          refine (implNearTwo_any _ _ _ _ _ _ _ _ _ _ _ _ _ _ _ _ _ _ (by decide)).mono ?_
          rw [HNT.out]
          rintro z w13 ⟨rfl, C⟩
          have B13 := below_calm B12 B12.size C
          clear C B12
          go_wp2_with fail
          go_ret
          exact ⟨rfl, B13⟩
      · obtain ⟨b1, b2, c1, c2, LZ⟩ := lineZ_at hg fx fy hz lt (m_low hl0 hl1) L
        have HL := Lib.hid L
        have HZ := Lib.hid LZ
        have HT := Lib.hid LZ.f
        have HX := Lib.hid (And.intro fx fy)
        have HW := Lib.hid hw
        clear LZ L lt r hz hg ho fx fy hw
        go_wp2_with fail
        refine (implLine_of HO.out HR.out HL.out HZ.out _).mono ?_
        rintro z w2 ⟨rfl, C⟩
        have B2 := below_calm B1 B1.size C
        clear C B1
        go_wp2_with fail
        have B2' := B2.alloc B2.size (.cells #[.complex .f32 s1 s2, .complex .f32 b1 b2, .complex .f32 c1 c2, .complex .f32 s1 s2] 47)
        have M2 := Blk.new w2 s1 s2 b1 b2 c1 c2 s1 s2
        clear B2
        refine (specLine_of HO.out HR.out HL.out HZ.out _).mono ?_
        rintro z w3 ⟨rfl, C⟩
        have B3 := below_calm B2' B2'.size C
        have M3 := M2.calm C
        have m0 := M3.c0
        have m1 := M3.c1
        have m2 := M3.c2
        have m3 := M3.c3
        have ml := M3.lt
        have HM3 := Lib.hid M3
        clear C B2' M2 M3
        go_wp2_with fail
        have B3' := B3.alloc B3.size (.cells #[.complex .f32 s1 s2, .complex .f32 b1 b2, .complex .f32 c1 c2, .complex .f32 s1 s2] 47)
        refine (sameTwo_same _ _ _ _ _ _ _ _ _).mono ?_
        rintro z w4 ⟨rfl, C⟩
        have B4 := below_calm B3' B3'.size C
        have M4 := (HM3.out.alloc (.cells #[.complex .f32 s1 s2, .complex .f32 b1 b2, .complex .f32 c1 c2, .complex .f32 s1 s2] 47)).calm C
        clear m0 m1 m2 m3 ml
        have m0 := M4.c0
        have m1 := M4.c1
        have m2 := M4.c2
        have m3 := M4.c3
        have ml := M4.lt
        have HM4 := Lib.hid M4
        clear C B3 B3' HM3 M4
        go_wp2_with fail
        refine (whole_any _ _ _ _ (by omega) (by omega)).mono ?_
        rintro e w5 ⟨γ, n5, rfl, hw5, hγ⟩
        have B5 : Below w.heap.size w w5 := by rw [hw5]; exact below_drewN B4 n5
        have M5 : Blk w5 w2.heap.size s1 s2 b1 b2 c1 c2 s1 s2 := by rw [hw5]; exact HM4.out.drewN n5
        clear m0 m1 m2 m3 ml
        have m0 := M5.c0
        have m1 := M5.c1
        have m2 := M5.c2
        have m3 := M5.c3
        have ml := M5.lt
        have HG := Lib.hid hγ
        clear hγ hw5 B4 HM4 M5
        cases γ
        · go_wp2_with fail
          refine (implTwoOk_any _ _ _ _ _ _ _ _ _).mono ?_
          rw [HT.out]
          rintro z w6 ⟨rfl, C⟩
          have B6 := below_calm B5 B5.size C
          clear C B5
          go_wp2_with fail
          go_ret
          exact ⟨rfl, B6⟩
        · obtain ⟨_, _, i, j, vi, vj, i0, i1, _, _⟩ := HG.out rfl
          have hi : V FloatKind.f32.format x ≤ 100 := by rw [vi]; simpa using rat_of_int (show i ≤ 100 by omega)
          have ey := eq_walk (fin_num.1 HX.out.2) zero32.1
          rw [zero32.2] at ey
          have ex := lt_walk (fin_num.1 HX.out.1) (fin_num.1 (by decide : fin .f32 1065353216 = true))
          have v1 : V FloatKind.f32.format 1065353216 = 1 := by decide +kernel
          rw [v1] at ex
          by_cases hy : V FloatKind.f32.format y = 0
          · have hx : V FloatKind.f32.format x < 1 := by
              rcases Rat.le_total (a := 1) (b := V FloatKind.f32.format x) with g | g
              · exact absurd ⟨hy, g, hi⟩ HW.out
              · by_cases e : V FloatKind.f32.format x = 1
                · exact absurd ⟨hy, by rw [e]; exact Rat.le_refl, hi⟩ HW.out
                · grind
            have ey' : FloatKind.f32.format.order y 0 = some .eq := by
              have : (FloatKind.f32.format.order y 0 == some .eq) = true := by rw [ey]; simpa using hy
              simpa using this
            have ex' : (FloatKind.f32.format.order x 1065353216 == some .lt) = true := by rw [ex]; simpa using hx
            clear ey ex v1 hy hx hi vi vj
            go_wp2_with fail
            refine (implTwoOk_any _ _ _ _ _ _ _ _ _).mono ?_
            rw [HT.out]
            rintro z w6 ⟨rfl, C⟩
            have B6 := below_calm B5 B5.size C
            clear C B5
            go_wp2_with fail
            go_ret
            exact ⟨rfl, B6⟩
          · have ey' : ¬ FloatKind.f32.format.order y 0 = some .eq := by
              have : (FloatKind.f32.format.order y 0 == some .eq) = false := by rw [ey]; simpa using hy
              simpa using this
            clear ey ex v1 hy hi vi vj
            go_wp2_with fail
            refine (implTwoOk_any _ _ _ _ _ _ _ _ _).mono ?_
            rw [HT.out]
            rintro z w6 ⟨rfl, C⟩
            have B6 := below_calm B5 B5.size C
            clear C B5
            go_wp2_with fail
            go_ret
            exact ⟨rfl, B6⟩

end Go.Proofs.Ytdmacimafkiijaa
