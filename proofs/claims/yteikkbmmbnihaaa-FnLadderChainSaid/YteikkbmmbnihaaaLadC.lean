/-
  Contracts of Cascade where every word on the way is known, in the program and in the model.
-/
import Derived.Test.YteikkbmmbnihaaaLadX
import Derived.Test.YteikkbmmbnihaaaC3b
namespace Go.Proofs.Yteikkbmmbnihaaa
open Go.RowKit Fl

set_option maxHeartbeats 1000000 in
theorem specSum_f {a b c d a' b' c' d' x y x' y' : Nat} (F : SumF a b c d a' b' c' d' x y x' y') (w : World) :
    Calls Try.prog 93 #[.complex .f32 a b, .complex .f32 c d, .complex .f32 a' b', .complex .f32 c' d'] w fun z w' => z = .returned (.tuple #[.complex .f32 (addB x x') (addB y y'), .bool true]) ∧ Calm w w' := by
  have m1 := F.m1
  have m2 := F.m2
  obtain ⟨s1, s1'⟩ := F.s1
  obtain ⟨s2, s2'⟩ := F.s2
  have HA := Lib.hid (show ([(x, y), (x', y'), (addB x x', addB y y')].all fun z => fin .f32 z.1 && fin .f32 z.2) = true by
    have a := fin2 F.k1
    have b := fin2 F.k2
    have c := fin2 F.k3
    simp [a.1, a.2, b.1, b.2, c.1, c.2])
  clear F
  go_enter Try.func93, Try.ntmps93
  go_wp2_with fail
  refine (l2All_any _ [(x, y), (x', y'), (addB x x', addB y y')] _ _ (by simp) ?_).mono ?_
  · intro i hi
    refine built_cell _ (by simp) ?_
    have h3 : i = 0 ∨ i = 1 ∨ i = 2 := by simp at hi; omega
    rcases h3 with rfl | rfl | rfl <;> rfl
  rw [HA.out]
  rintro e w1 ⟨rfl, n, rfl⟩
  go_wp2_with fail
  go_ret2
  exact ⟨rfl, grown_drewN (World.grownBy_alloc w _ none) _⟩

/-- Two matrices and the place of a third one, in blocks one behind the other. -/
structure Tri (w0 w : World) (S a b c d e f g h a' b' c' d' e' f' g' h' : Nat) : Prop where
  hM : Blk w S a b c d e f g h
  hN : Blk w (S + 1) a' b' c' d' e' f' g' h'
  hR : Blk w (S + 1 + 1) 0 0 0 0 0 0 0 0
  hC : Calm w0 w
theorem Tri.calm {w0 w w' : World} {S a b c d e f g h a' b' c' d' e' f' g' h' : Nat} (T : Tri w0 w S a b c d e f g h a' b' c' d' e' f' g' h') (C : Calm w w') : Tri w0 w' S a b c d e f g h a' b' c' d' e' f' g' h' :=
  ⟨T.hM.calm C, T.hN.calm C, T.hR.calm C, calm_trans T.hC C⟩
theorem Tri.new (w : World) (a b c d e f g h a' b' c' d' e' f' g' h' : Nat) : Tri w (((w.alloc (.cells #[.complex .f32 a b, .complex .f32 c d, .complex .f32 e f, .complex .f32 g h] 39)).alloc (.cells #[.complex .f32 a' b', .complex .f32 c' d', .complex .f32 e' f', .complex .f32 g' h'] 39)).alloc (.cells #[.complex .f32 0 0, .complex .f32 0 0, .complex .f32 0 0, .complex .f32 0 0] 39)) w.heap.size a b c d e f g h a' b' c' d' e' f' g' h' := by
  have R := Blk.new ((w.alloc (.cells #[.complex .f32 a b, .complex .f32 c d, .complex .f32 e f, .complex .f32 g h] 39)).alloc (.cells #[.complex .f32 a' b', .complex .f32 c' d', .complex .f32 e' f', .complex .f32 g' h'] 39)) 0 0 0 0 0 0 0 0
  have N := Blk.new (w.alloc (.cells #[.complex .f32 a b, .complex .f32 c d, .complex .f32 e f, .complex .f32 g h] 39)) a' b' c' d' e' f' g' h'
  have hs : ((w.alloc (.cells #[.complex .f32 a b, .complex .f32 c d, .complex .f32 e f, .complex .f32 g h] 39)).alloc (.cells #[.complex .f32 a' b', .complex .f32 c' d', .complex .f32 e' f', .complex .f32 g' h'] 39)).heap.size = w.heap.size + 1 + 1 := by simp
  have hs1 : (w.alloc (.cells #[.complex .f32 a b, .complex .f32 c d, .complex .f32 e f, .complex .f32 g h] 39)).heap.size = w.heap.size + 1 := by simp
  rw [hs] at R
  rw [hs1] at N
  exact ⟨((Blk.new w a b c d e f g h).alloc _).alloc _, N.alloc _, R, calm_allocR (calm_allocR (calm_new w _) _) _⟩

set_option maxRecDepth 8000 in
set_option maxHeartbeats 4000000 in
theorem specCas_f {m n o : Words} (hm : finTwo m.a m.b m.c m.d m.e m.f m.g m.h = true) (hn : finTwo n.a n.b n.c n.d n.e n.f n.g n.h = true) (F : CasF m n o) (w : World) :
    Calls Try.prog 84 #[m.v, n.v] w fun z w' => z = .returned (.tuple #[o.v, .bool true]) ∧ Calm w w' := by
  obtain ⟨a, b, c, d, e, f, g, h⟩ := m
  obtain ⟨a', b', c', d', e', f', g', h'⟩ := n
  obtain ⟨x1, y1, x2, y2, x3, y3, x4, y4, x5, y5, x6, y6, x7, y7, x8, y8, f1, f2, f3, f4, rfl⟩ := F
  dsimp only at hm hn f1 f2 f3 f4
  have HM := Lib.hid hm
  have HN := Lib.hid hn
  have F1 := Lib.hid (specSum_f f1)
  have F2 := Lib.hid (specSum_f f2)
  have F3 := Lib.hid (specSum_f f3)
  have F4 := Lib.hid (specSum_f f4)
  clear hm hn f1 f2 f3 f4
  unfold Words.v
  dsimp only
  generalize addB x1 x2 = p1 at *
  generalize addB y1 y2 = q1 at *
  generalize addB x3 x4 = p2 at *
  generalize addB y3 y4 = q2 at *
  generalize addB x5 x6 = p3 at *
  generalize addB y5 y6 = q3 at *
  generalize addB x7 x8 = p4 at *
  generalize addB y7 y8 = q4 at *
  have HT := Lib.hid (Tri.new w a b c d e f g h a' b' c' d' e' f' g' h')
  go_enter Try.func84, Try.ntmps84
  go_wp2_with fail
  refine (specTwoOk_any _ _ _ _ _ _ _ _ _).mono ?_
  rw [HM.out]
  rintro z w1 ⟨rfl, C⟩
  have T := HT.out.calm C
  have mm0 := T.hM.c0
  have mm1 := T.hM.c1
  have mm2 := T.hM.c2
  have mm3 := T.hM.c3
  have nn0 := T.hN.c0
  have nn1 := T.hN.c1
  have nn2 := T.hN.c2
  have nn3 := T.hN.c3
  have HT1 := Lib.hid T
  clear C T HT
  go_wp2_with fail
  refine (specTwoOk_any _ _ _ _ _ _ _ _ _).mono ?_
  rw [HN.out]
  rintro z w2 ⟨rfl, C⟩
  have T := HT1.out.calm C
  clear mm0 mm1 mm2 mm3 nn0 nn1 nn2 nn3
  have mm0 := T.hM.c0
  have mm1 := T.hM.c1
  have mm2 := T.hM.c2
  have mm3 := T.hM.c3
  have nn0 := T.hN.c0
  have nn1 := T.hN.c1
  have nn2 := T.hN.c2
  have nn3 := T.hN.c3
  have HT2 := Lib.hid T
  clear C T HT1
  go_wp2_with fail
  refine (F1.out _).mono ?_
  rintro z w3 ⟨rfl, C⟩
  have T := HT2.out.calm C
  clear mm0 mm1 mm2 mm3 nn0 nn1 nn2 nn3
  have mm0 := T.hM.c0
  have mm1 := T.hM.c1
  have mm2 := T.hM.c2
  have mm3 := T.hM.c3
  have nn0 := T.hN.c0
  have nn1 := T.hN.c1
  have nn2 := T.hN.c2
  have nn3 := T.hN.c3
  have HT3 := Lib.hid T
  clear C T HT2
  go_wp2_with fail
  refine (F2.out _).mono ?_
  rintro z w4 ⟨rfl, C⟩
  have T := HT3.out.calm C
  clear mm0 mm1 mm2 mm3 nn0 nn1 nn2 nn3
  have mm0 := T.hM.c0
  have mm1 := T.hM.c1
  have mm2 := T.hM.c2
  have mm3 := T.hM.c3
  have nn0 := T.hN.c0
  have nn1 := T.hN.c1
  have nn2 := T.hN.c2
  have nn3 := T.hN.c3
  have HT4 := Lib.hid T
  clear C T HT3
  go_wp2_with fail
  refine (F3.out _).mono ?_
  rintro z w5 ⟨rfl, C⟩
  have T := HT4.out.calm C
  clear mm0 mm1 mm2 mm3 nn0 nn1 nn2 nn3
  have mm0 := T.hM.c0
  have mm1 := T.hM.c1
  have mm2 := T.hM.c2
  have mm3 := T.hM.c3
  have nn0 := T.hN.c0
  have nn1 := T.hN.c1
  have nn2 := T.hN.c2
  have nn3 := T.hN.c3
  have HT5 := Lib.hid T
  clear C T HT4
  go_wp2_with fail
  refine (F4.out _).mono ?_
  rintro z w6 ⟨rfl, C⟩
  have T := HT5.out.calm C
  clear mm0 mm1 mm2 mm3 nn0 nn1 nn2 nn3
  have r0 := T.hR.c0
  have r1 := T.hR.c1
  have r2 := T.hR.c2
  have r3 := T.hR.c3
  have k0 := T.hR.fr 0
  have k1 := T.hR.fr 1
  have k2 := T.hR.fr 2
  have k3 := T.hR.fr 3
  have kl := T.hR.lt
  have HT6 := Lib.hid T
  clear C T HT5
  go_wp2_with fail
  refine bodyPost_ret (results_two_tmp rfl _ rfl ((((HT6.out.hR.s0 _ _).s1 _ _).s2 _ _).s3 _ _)) rfl ?_
  exact ⟨rfl, calm_set4 HT6.out.hC (by omega) _ _ _ _⟩

set_option maxRecDepth 8000 in
set_option maxHeartbeats 4000000 in
theorem implCas_f {m n o : Words} (F : CasF m n o) (w : World) :
    Calls Try.prog 91 #[m.v, n.v] w fun x w' => x = .returned (.tuple #[o.v, .bool true]) ∧ Calm w w' := by
  have HO := Lib.hid F.fin
  obtain ⟨a, b, c, d, e, f, g, h⟩ := m
  obtain ⟨a', b', c', d', e', f', g', h'⟩ := n
  obtain ⟨x1, y1, x2, y2, x3, y3, x4, y4, x5, y5, x6, y6, x7, y7, x8, y8, f1, f2, f3, f4, rfl⟩ := F
  dsimp only at f1 f2 f3 f4 HO
  have e1 := f1.m1
  have e2 := f1.m2
  have e3 := f2.m1
  have e4 := f2.m2
  have e5 := f3.m1
  have e6 := f3.m2
  have e7 := f4.m1
  have e8 := f4.m2
  obtain ⟨g1, g2⟩ := f1.s1
  obtain ⟨g3, g4⟩ := f1.s2
  obtain ⟨g5, g6⟩ := f2.s1
  obtain ⟨g7, g8⟩ := f2.s2
  obtain ⟨g9, g10⟩ := f3.s1
  obtain ⟨g11, g12⟩ := f3.s2
  obtain ⟨g13, g14⟩ := f4.s1
  obtain ⟨g15, g16⟩ := f4.s2
  clear f1 f2 f3 f4
  unfold Words.v
  dsimp only
  go_enter Try.func91, Try.ntmps91
  go_wp2_with fail
  refine (ifTwoOk_any _ _ _ _ _ _ _ _ _).mono ?_
  have hok : okTwo (addB x1 x2) (addB y1 y2) (addB x3 x4) (addB y3 y4) (addB x5 x6) (addB y5 y6) (addB x7 x8) (addB y7 y8) = .tuple #[twoV (addB x1 x2) (addB y1 y2) (addB x3 x4) (addB y3 y4) (addB x5 x6) (addB y5 y6) (addB x7 x8) (addB y7 y8), .bool true] := by unfold okTwo; rw [HO.out]; rfl
  rw [hok]
  rintro z w1 ⟨rfl, C⟩
  clear e1 e2 e3 e4 e5 e6 e7 e8 g1 g2 g3 g4 g5 g6 g7 g8 g9 g10 g11 g12 g13 g14 g15 g16 hok
  have T := (Tri.new w a b c d e f g h a' b' c' d' e' f' g' h').calm C
  have r0 := T.hR.c0
  have r1 := T.hR.c1
  have r2 := T.hR.c2
  have r3 := T.hR.c3
  have k0 := T.hR.fr 0
  have k1 := T.hR.fr 1
  have k2 := T.hR.fr 2
  have k3 := T.hR.fr 3
  have kl := T.hR.lt
  have HT6 := Lib.hid T
  clear C T
  go_wp2_with fail
  refine bodyPost_ret (results_two_tmp rfl _ rfl ((((HT6.out.hR.s0 _ _).s1 _ _).s2 _ _).s3 _ _)) rfl ?_
  exact ⟨rfl, calm_set4 HT6.out.hC (by omega) _ _ _ _⟩

end Go.Proofs.Yteikkbmmbnihaaa
