/-
  Three chain matrices put together, in the program.
-/
import Derived.Test.YteikkbmmbnihaaaInvC
import Derived.LoopN
import Derived.Test.YteikkbmmbnihaaaAt
namespace Go.Proofs.Yteikkbmmbnihaaa
open Go.RowKit Fl

theorem At.not4 {w : World} {S B : Nat} {o : Obj} (H : At w S o) (hn : S ≠ B) (v0 v1 v2 v3 : Value) :
    At ((((w.setCell ⟨B, 0, none⟩ v0).setCell ⟨B, 1, none⟩ v1).setCell ⟨B, 2, none⟩ v2).setCell ⟨B, 3, none⟩ v3) S o :=
  (((H.other (r := ⟨B, 0, none⟩) hn v0).other (r := ⟨B, 1, none⟩) hn v1).other (r := ⟨B, 2, none⟩) hn v2).other (r := ⟨B, 3, none⟩) hn v3
theorem Blk.set4' {w : World} {B a b c d e f g h : Nat} (H : Blk w B a b c d e f g h) (x1 y1 x2 y2 x3 y3 x4 y4 : Nat) :
    Blk ((((w.setCell ⟨B, 0, none⟩ (.complex .f32 x1 y1)).setCell ⟨B, 1, none⟩ (.complex .f32 x2 y2)).setCell ⟨B, 2, none⟩ (.complex .f32 x3 y3)).setCell ⟨B, 3, none⟩ (.complex .f32 x4 y4)) B x1 y1 x2 y2 x3 y3 x4 y4 :=
  (((H.s0 x1 y1).s1 x2 y2).s2 x3 y3).s3 x4 y4
theorem Blk.not4' {w : World} {A B a b c d e f g h : Nat} (H : Blk w A a b c d e f g h) (hn : A ≠ B) (v0 v1 v2 v3 : Value) :
    Blk ((((w.setCell ⟨B, 0, none⟩ v0).setCell ⟨B, 1, none⟩ v1).setCell ⟨B, 2, none⟩ v2).setCell ⟨B, 3, none⟩ v3) A a b c d e f g h :=
  (((H.other (r := ⟨B, 0, none⟩) hn v0).other (r := ⟨B, 1, none⟩) hn v1).other (r := ⟨B, 2, none⟩) hn v2).other (r := ⟨B, 3, none⟩) hn v3

def wire : Ints := ⟨1, 0, 0, 0, 0, 0, 1, 0⟩
theorem wire_is : (⟨1065353216, 0, 0, 0, 0, 0, 1065353216, 0⟩ : Words).Is wire := ⟨one_int, zero_int, zero_int, one_int⟩
theorem wire_small : wire.small := by unfold wire; exact ⟨by simp, by simp, by simp, by simp, by simp, by simp, by simp, by simp⟩

set_option maxRecDepth 8000 in
set_option maxHeartbeats 4000000 in
theorem chained_three {S a1 a2 a3 a4 a5 a6 a7 a8 b1 b2 b3 b4 b5 b6 b7 b8 u1 u2 u3 u4 u5 u6 u7 u8 : Nat} {i j k : Ints} {w : World} (H : At w S (.cells #[.complex .f32 a1 a2, .complex .f32 a3 a4, .complex .f32 a5 a6, .complex .f32 a7 a8, .complex .f32 b1 b2, .complex .f32 b3 b4, .complex .f32 b5 b6, .complex .f32 b7 b8, .complex .f32 u1 u2, .complex .f32 u3 u4, .complex .f32 u5 u6, .complex .f32 u7 u8] 39))
    (ha : (⟨a1, a2, a3, a4, a5, a6, a7, a8⟩ : Words).Is i) (hb : (⟨b1, b2, b3, b4, b5, b6, b7, b8⟩ : Words).Is j) (hc : (⟨u1, u2, u3, u4, u5, u6, u7, u8⟩ : Words).Is k) (si : i.small) (sj : j.small) (sk : k.small)
    (s1 : (wire.mul i).small) (s2 : ((wire.mul i).mul j).small) :
    Calls Try.prog 83 #[.slice (some ⟨S, 0, none⟩) 3 3] w fun x w' => (∃ o : Words, x = .returned (.tuple #[o.v, .bool true]) ∧ o.Is (((wire.mul i).mul j).mul k)) ∧ Calm w w' := by
  have HA := Lib.hid ha
  have HB := Lib.hid hb
  have HC := Lib.hid hc
  have SI := Lib.hid si
  have SJ := Lib.hid sj
  have SK := Lib.hid sk
  have S1 := Lib.hid s1
  have S2 := Lib.hid s2
  clear ha hb hc si sj sk s1 s2
  have hS := H.lt
  have HS := Lib.hid H
  clear H
  go_enter Try.func83, Try.ntmps83
  go_wp2_with fail
  have hs : (w.alloc (.cells #[.complex .f32 0 0, .complex .f32 0 0, .complex .f32 0 0, .complex .f32 0 0] 39)).heap.size = w.heap.size + 1 := by simp
  have R := (Blk.new w 0 0 0 0 0 0 0 0).alloc (.cells #[.complex .f32 1065353216 0, .complex .f32 0 0, .complex .f32 0 0, .complex .f32 1065353216 0] 39)
  have K := Blk.new (w.alloc (.cells #[.complex .f32 0 0, .complex .f32 0 0, .complex .f32 0 0, .complex .f32 0 0] 39)) 1065353216 0 0 0 0 0 1065353216 0
  have T := (HS.out.alloc (.cells #[.complex .f32 0 0, .complex .f32 0 0, .complex .f32 0 0, .complex .f32 0 0] 39)).alloc (.cells #[.complex .f32 1065353216 0, .complex .f32 0 0, .complex .f32 0 0, .complex .f32 1065353216 0] 39)
  have G := calm_allocR (calm_new w (.cells #[.complex .f32 0 0, .complex .f32 0 0, .complex .f32 0 0, .complex .f32 0 0] 39)) (.cells #[.complex .f32 1065353216 0, .complex .f32 0 0, .complex .f32 0 0, .complex .f32 1065353216 0] 39)
  rw [hs] at K
  clear HS hs
  have n1 : w.heap.size ≠ w.heap.size + 1 := by omega
  have n2 : S ≠ w.heap.size + 1 := by omega
  have n3 : w.heap.size ≤ w.heap.size + 1 := by omega
  have N1 := Lib.hid n1
  have N2 := Lib.hid n2
  have N3 := Lib.hid n3
  clear n1 n2 n3
  refine wp_loop_rounds 4 ?_
  generalize ((w.alloc (.cells #[.complex .f32 0 0, .complex .f32 0 0, .complex .f32 0 0, .complex .f32 0 0] 39)).alloc (.cells #[.complex .f32 1065353216 0, .complex .f32 0 0, .complex .f32 0 0, .complex .f32 1065353216 0] 39)) = W0 at R K T G ⊢
  -- round 1
  have t0 := T.cell (i := 0) rfl
  have t1 := T.cell (i := 1) rfl
  have t2 := T.cell (i := 2) rfl
  have t3 := T.cell (i := 3) rfl
  have K' := K.alloc (.cells #[.complex .f32 a1 a2, .complex .f32 a3 a4, .complex .f32 a5 a6, .complex .f32 a7 a8] 39)
  have c0 := K'.c0
  have c1 := K'.c1
  have c2 := K'.c2
  have c3 := K'.c3
  have HK := Lib.hid K'
  have HT := Lib.hid (T.alloc (.cells #[.complex .f32 a1 a2, .complex .f32 a3 a4, .complex .f32 a5 a6, .complex .f32 a7 a8] 39))
  have HR := Lib.hid (R.alloc (.cells #[.complex .f32 a1 a2, .complex .f32 a3 a4, .complex .f32 a5 a6, .complex .f32 a7 a8] 39))
  have HG := Lib.hid (calm_allocR G (.cells #[.complex .f32 a1 a2, .complex .f32 a3 a4, .complex .f32 a5 a6, .complex .f32 a7 a8] 39))
  clear K K' T R G
  rw [rounds_succ]
  go_wp2_with fail
  refine (cascade_int (m := ⟨1065353216, 0, 0, 0, 0, 0, 1065353216, 0⟩) (n := ⟨a1, a2, a3, a4, a5, a6, a7, a8⟩) wire_is HA.out wire_small SI.out _).mono ?_
  rintro x V0 ⟨⟨⟨o01, o02, o03, o04, o05, o06, o07, o08⟩, rfl, hO0⟩, C⟩
  have H0 := Lib.hid hO0
  have K1 := (HK.out.calm C).alloc (.cells #[.complex .f32 o01 o02, .complex .f32 o03 o04, .complex .f32 o05 o06, .complex .f32 o07 o08] 39)
  have T1 := Lib.hid ((HT.out.calm C).alloc (.cells #[.complex .f32 o01 o02, .complex .f32 o03 o04, .complex .f32 o05 o06, .complex .f32 o07 o08] 39))
  have R1 := Lib.hid ((HR.out.calm C).alloc (.cells #[.complex .f32 o01 o02, .complex .f32 o03 o04, .complex .f32 o05 o06, .complex .f32 o07 o08] 39))
  have G1 := Lib.hid (calm_allocR (calm_trans HG.out C) (.cells #[.complex .f32 o01 o02, .complex .f32 o03 o04, .complex .f32 o05 o06, .complex .f32 o07 o08] 39))
  clear HK HT HR HG C hO0 t0 t1 t2 t3 c0 c1 c2 c3
  have c0 := K1.c0
  have q0 := K1.fr 0
  have c1 := K1.c1
  have q1 := K1.fr 1
  have c2 := K1.c2
  have q2 := K1.fr 2
  have c3 := K1.c3
  have q3 := K1.fr 3
  have HK := Lib.hid K1
  clear K1
  unfold Words.v
  go_wp2_with fail
  have K := HK.out.set4' o01 o02 o03 o04 o05 o06 o07 o08
  have T := T1.out.not4 N2.out (.complex .f32 o01 o02) (.complex .f32 o03 o04) (.complex .f32 o05 o06) (.complex .f32 o07 o08)
  have R := R1.out.not4' N1.out (.complex .f32 o01 o02) (.complex .f32 o03 o04) (.complex .f32 o05 o06) (.complex .f32 o07 o08)
  have G := calm_set4 G1.out N3.out (.complex .f32 o01 o02) (.complex .f32 o03 o04) (.complex .f32 o05 o06) (.complex .f32 o07 o08)
  clear HK T1 R1 G1 c0 c1 c2 c3 q0 q1 q2 q3
  generalize (((((V0.alloc (.cells #[.complex .f32 o01 o02, .complex .f32 o03 o04, .complex .f32 o05 o06, .complex .f32 o07 o08] 39)).setCell ⟨w.heap.size + 1, 0, none⟩ (.complex .f32 o01 o02)).setCell ⟨w.heap.size + 1, 1, none⟩ (.complex .f32 o03 o04)).setCell ⟨w.heap.size + 1, 2, none⟩ (.complex .f32 o05 o06)).setCell ⟨w.heap.size + 1, 3, none⟩ (.complex .f32 o07 o08)) = W1 at K T R G ⊢
  -- round 2
  have t0 := T.cell (i := 4) rfl
  have t1 := T.cell (i := 5) rfl
  have t2 := T.cell (i := 6) rfl
  have t3 := T.cell (i := 7) rfl
  have K' := K.alloc (.cells #[.complex .f32 b1 b2, .complex .f32 b3 b4, .complex .f32 b5 b6, .complex .f32 b7 b8] 39)
  have c0 := K'.c0
  have c1 := K'.c1
  have c2 := K'.c2
  have c3 := K'.c3
  have HK := Lib.hid K'
  have HT := Lib.hid (T.alloc (.cells #[.complex .f32 b1 b2, .complex .f32 b3 b4, .complex .f32 b5 b6, .complex .f32 b7 b8] 39))
  have HR := Lib.hid (R.alloc (.cells #[.complex .f32 b1 b2, .complex .f32 b3 b4, .complex .f32 b5 b6, .complex .f32 b7 b8] 39))
  have HG := Lib.hid (calm_allocR G (.cells #[.complex .f32 b1 b2, .complex .f32 b3 b4, .complex .f32 b5 b6, .complex .f32 b7 b8] 39))
  clear K K' T R G
  rw [rounds_succ]
  go_wp2_with fail
  refine (cascade_int (m := ⟨o01, o02, o03, o04, o05, o06, o07, o08⟩) (n := ⟨b1, b2, b3, b4, b5, b6, b7, b8⟩) H0.out HB.out S1.out SJ.out _).mono ?_
  rintro x V1 ⟨⟨⟨o11, o12, o13, o14, o15, o16, o17, o18⟩, rfl, hO1⟩, C⟩
  have H1 := Lib.hid hO1
  have K1 := (HK.out.calm C).alloc (.cells #[.complex .f32 o11 o12, .complex .f32 o13 o14, .complex .f32 o15 o16, .complex .f32 o17 o18] 39)
  have T1 := Lib.hid ((HT.out.calm C).alloc (.cells #[.complex .f32 o11 o12, .complex .f32 o13 o14, .complex .f32 o15 o16, .complex .f32 o17 o18] 39))
  have R1 := Lib.hid ((HR.out.calm C).alloc (.cells #[.complex .f32 o11 o12, .complex .f32 o13 o14, .complex .f32 o15 o16, .complex .f32 o17 o18] 39))
  have G1 := Lib.hid (calm_allocR (calm_trans HG.out C) (.cells #[.complex .f32 o11 o12, .complex .f32 o13 o14, .complex .f32 o15 o16, .complex .f32 o17 o18] 39))
  clear HK HT HR HG C hO1 t0 t1 t2 t3 c0 c1 c2 c3
  have c0 := K1.c0
  have q0 := K1.fr 0
  have c1 := K1.c1
  have q1 := K1.fr 1
  have c2 := K1.c2
  have q2 := K1.fr 2
  have c3 := K1.c3
  have q3 := K1.fr 3
  have HK := Lib.hid K1
  clear K1
  unfold Words.v
  go_wp2_with fail
  have K := HK.out.set4' o11 o12 o13 o14 o15 o16 o17 o18
  have T := T1.out.not4 N2.out (.complex .f32 o11 o12) (.complex .f32 o13 o14) (.complex .f32 o15 o16) (.complex .f32 o17 o18)
  have R := R1.out.not4' N1.out (.complex .f32 o11 o12) (.complex .f32 o13 o14) (.complex .f32 o15 o16) (.complex .f32 o17 o18)
  have G := calm_set4 G1.out N3.out (.complex .f32 o11 o12) (.complex .f32 o13 o14) (.complex .f32 o15 o16) (.complex .f32 o17 o18)
  clear HK T1 R1 G1 c0 c1 c2 c3 q0 q1 q2 q3
  generalize (((((V1.alloc (.cells #[.complex .f32 o11 o12, .complex .f32 o13 o14, .complex .f32 o15 o16, .complex .f32 o17 o18] 39)).setCell ⟨w.heap.size + 1, 0, none⟩ (.complex .f32 o11 o12)).setCell ⟨w.heap.size + 1, 1, none⟩ (.complex .f32 o13 o14)).setCell ⟨w.heap.size + 1, 2, none⟩ (.complex .f32 o15 o16)).setCell ⟨w.heap.size + 1, 3, none⟩ (.complex .f32 o17 o18)) = W2 at K T R G ⊢
  -- round 3
  have t0 := T.cell (i := 8) rfl
  have t1 := T.cell (i := 9) rfl
  have t2 := T.cell (i := 10) rfl
  have t3 := T.cell (i := 11) rfl
  have K' := K.alloc (.cells #[.complex .f32 u1 u2, .complex .f32 u3 u4, .complex .f32 u5 u6, .complex .f32 u7 u8] 39)
  have c0 := K'.c0
  have c1 := K'.c1
  have c2 := K'.c2
  have c3 := K'.c3
  have HK := Lib.hid K'
  have HT := Lib.hid (T.alloc (.cells #[.complex .f32 u1 u2, .complex .f32 u3 u4, .complex .f32 u5 u6, .complex .f32 u7 u8] 39))
  have HR := Lib.hid (R.alloc (.cells #[.complex .f32 u1 u2, .complex .f32 u3 u4, .complex .f32 u5 u6, .complex .f32 u7 u8] 39))
  have HG := Lib.hid (calm_allocR G (.cells #[.complex .f32 u1 u2, .complex .f32 u3 u4, .complex .f32 u5 u6, .complex .f32 u7 u8] 39))
  clear K K' T R G
  rw [rounds_succ]
  go_wp2_with fail
  refine (cascade_int (m := ⟨o11, o12, o13, o14, o15, o16, o17, o18⟩) (n := ⟨u1, u2, u3, u4, u5, u6, u7, u8⟩) H1.out HC.out S2.out SK.out _).mono ?_
  rintro x V2 ⟨⟨⟨o21, o22, o23, o24, o25, o26, o27, o28⟩, rfl, hO2⟩, C⟩
  have H2 := Lib.hid hO2
  have K1 := (HK.out.calm C).alloc (.cells #[.complex .f32 o21 o22, .complex .f32 o23 o24, .complex .f32 o25 o26, .complex .f32 o27 o28] 39)
  have T1 := Lib.hid ((HT.out.calm C).alloc (.cells #[.complex .f32 o21 o22, .complex .f32 o23 o24, .complex .f32 o25 o26, .complex .f32 o27 o28] 39))
  have R1 := Lib.hid ((HR.out.calm C).alloc (.cells #[.complex .f32 o21 o22, .complex .f32 o23 o24, .complex .f32 o25 o26, .complex .f32 o27 o28] 39))
  have G1 := Lib.hid (calm_allocR (calm_trans HG.out C) (.cells #[.complex .f32 o21 o22, .complex .f32 o23 o24, .complex .f32 o25 o26, .complex .f32 o27 o28] 39))
  clear HK HT HR HG C hO2 t0 t1 t2 t3 c0 c1 c2 c3
  have c0 := K1.c0
  have q0 := K1.fr 0
  have c1 := K1.c1
  have q1 := K1.fr 1
  have c2 := K1.c2
  have q2 := K1.fr 2
  have c3 := K1.c3
  have q3 := K1.fr 3
  have HK := Lib.hid K1
  clear K1
  unfold Words.v
  go_wp2_with fail
  have K := HK.out.set4' o21 o22 o23 o24 o25 o26 o27 o28
  have T := T1.out.not4 N2.out (.complex .f32 o21 o22) (.complex .f32 o23 o24) (.complex .f32 o25 o26) (.complex .f32 o27 o28)
  have R := R1.out.not4' N1.out (.complex .f32 o21 o22) (.complex .f32 o23 o24) (.complex .f32 o25 o26) (.complex .f32 o27 o28)
  have G := calm_set4 G1.out N3.out (.complex .f32 o21 o22) (.complex .f32 o23 o24) (.complex .f32 o25 o26) (.complex .f32 o27 o28)
  clear HK T1 R1 G1 c0 c1 c2 c3 q0 q1 q2 q3
  generalize (((((V2.alloc (.cells #[.complex .f32 o21 o22, .complex .f32 o23 o24, .complex .f32 o25 o26, .complex .f32 o27 o28] 39)).setCell ⟨w.heap.size + 1, 0, none⟩ (.complex .f32 o21 o22)).setCell ⟨w.heap.size + 1, 1, none⟩ (.complex .f32 o23 o24)).setCell ⟨w.heap.size + 1, 2, none⟩ (.complex .f32 o25 o26)).setCell ⟨w.heap.size + 1, 3, none⟩ (.complex .f32 o27 o28)) = W3 at K T R G ⊢
  -- the end
  have c0 := K.c0
  have r0 := R.c0
  have q0 := R.fr 0
  have c1 := K.c1
  have r1 := R.c1
  have q1 := R.fr 1
  have c2 := K.c2
  have r2 := R.c2
  have q2 := R.fr 2
  have c3 := K.c3
  have r3 := R.c3
  have q3 := R.fr 3
  have HR := Lib.hid R
  have HG := Lib.hid G
  clear K T R G
  rw [rounds_succ]
  go_wp2_with fail
  refine bodyPost_ret (results_two_tmp rfl _ rfl (HR.out.set4' _ _ _ _ _ _ _ _)) rfl ?_
  exact ⟨⟨_, rfl, H2.out⟩, calm_set4 HG.out (Nat.le_refl _) _ _ _ _⟩

set_option maxHeartbeats 1000000 in
theorem chainAll_three {S a1 a2 a3 a4 a5 a6 a7 a8 b1 b2 b3 b4 b5 b6 b7 b8 u1 u2 u3 u4 u5 u6 u7 u8 : Nat} {i j k : Ints} {w : World} (H : At w S (.cells #[.complex .f32 a1 a2, .complex .f32 a3 a4, .complex .f32 a5 a6, .complex .f32 a7 a8, .complex .f32 b1 b2, .complex .f32 b3 b4, .complex .f32 b5 b6, .complex .f32 b7 b8, .complex .f32 u1 u2, .complex .f32 u3 u4, .complex .f32 u5 u6, .complex .f32 u7 u8] 39))
    (ha : (⟨a1, a2, a3, a4, a5, a6, a7, a8⟩ : Words).Is i) (hb : (⟨b1, b2, b3, b4, b5, b6, b7, b8⟩ : Words).Is j) (hc : (⟨u1, u2, u3, u4, u5, u6, u7, u8⟩ : Words).Is k) (si : i.small) (sj : j.small) (sk : k.small)
    (s1 : (wire.mul i).small) (s2 : ((wire.mul i).mul j).small) :
    Calls Try.prog 59 #[.slice (some ⟨S, 0, none⟩) 3 3] w fun x w' => (∃ o : Words, x = .returned (.tuple #[o.v, .bool true]) ∧ o.Is (((wire.mul i).mul j).mul k)) ∧ Calm w w' := by
  have HA := Lib.hid ha
  have HB := Lib.hid hb
  have HC := Lib.hid hc
  have SI := Lib.hid si
  have SJ := Lib.hid sj
  have SK := Lib.hid sk
  have S1 := Lib.hid s1
  have S2 := Lib.hid s2
  have HS := Lib.hid H
  clear ha hb hc si sj sk s1 s2 H
  go_enter Try.func59, Try.ntmps59
  go_wp2_with fail
  refine (chained_three (HS.out.alloc _) HA.out HB.out HC.out SI.out SJ.out SK.out S1.out S2.out).mono ?_
  rintro x w1 ⟨⟨⟨p1, q1, p2, q2, p3, q3, p4, q4⟩, rfl, hO⟩, C⟩
  have HO := Lib.hid hO
  have HK := Lib.hid (calm_trans (calm_new w _) C)
  have R := (Blk.new w 0 0 0 0 0 0 0 0).calm C
  have r0 := R.c0
  have r1 := R.c1
  have r2 := R.c2
  have r3 := R.c3
  have m0 := R.fr 0
  have m1 := R.fr 1
  have m2 := R.fr 2
  have m3 := R.fr 3
  have HR := Lib.hid R
  clear C hO R
  unfold Words.v
  go_wp2_with fail
  refine bodyPost_ret (results_two_tmp rfl _ rfl (HR.out.set4' _ _ _ _ _ _ _ _)) rfl ?_
  exact ⟨⟨_, rfl, HO.out⟩, calm_set4 HK.out (Nat.le_refl _) _ _ _ _⟩

end Go.Proofs.Yteikkbmmbnihaaa
