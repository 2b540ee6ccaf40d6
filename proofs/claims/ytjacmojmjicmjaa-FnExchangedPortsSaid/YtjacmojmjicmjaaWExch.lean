/-
  The walk of FnExchangedPorts: it answers true.
-/
import Derived.Test.YtjacmojmjicmjaaScatE
import Derived.Test.YtjacmojmjicmjaaWTwoOk
namespace Go.Proofs.Ytjacmojmjicmjaa
open Go.RowKit Fl

set_option maxHeartbeats 1000000 in
theorem specExch_any (a b c d e f g h : Nat) (w : World) :
    Calls Try.prog 14 #[twoV a b c d e f g h] w fun x w' => x = .returned (okTwo g h e f c d a b) ∧ Calm w w' := by
  have hsw : finTwo g h e f c d a b = finTwo a b c d e f g h := by
    unfold finTwo
    cases (fin .f32 a && fin .f32 b) <;> cases (fin .f32 c && fin .f32 d) <;> cases (fin .f32 e && fin .f32 f) <;> cases (fin .f32 g && fin .f32 h) <;> rfl
  unfold okTwo
  rw [hsw]
  clear hsw
  obtain ⟨β, hβ⟩ : ∃ β, finTwo a b c d e f g h = β := ⟨_, rfl⟩
  rw [hβ]
  have HB := Lib.hid hβ
  have HD := Lib.hid (Duo.new w a b c d e f g h)
  clear hβ
  go_enter Try.func14, Try.ntmps14
  go_wp2_with fail
  refine (specTwoOk_any _ _ _ _ _ _ _ _ _).mono ?_
  rw [HB.out]
  rintro z w1 ⟨rfl, C⟩
  have H1 := Lib.hid (HD.out.calm C)
  have m0 := H1.out.m.c0
  have m1 := H1.out.m.c1
  have m2 := H1.out.m.c2
  have m3 := H1.out.m.c3
  have z0 := H1.out.z.c0
  have z1 := H1.out.z.c1
  have z2 := H1.out.z.c2
  have z3 := H1.out.z.c3
  have f0 := H1.out.z.fr 0
  have f1 := H1.out.z.fr 1
  have f2 := H1.out.z.fr 2
  have f3 := H1.out.z.fr 3
  have ml := H1.out.m.lt
  have zl := H1.out.z.lt
  clear C HD
  cases β
  all_goals
    go_wp2_with fail
    refine bodyPost_ret (results_two_tmp rfl _ rfl ((((H1.out.z.s0 _ _).s1 _ _).s2 _ _).s3 _ _)) rfl ?_
    exact ⟨rfl, calm_set4 H1.out.c (by omega) _ _ _ _⟩

set_option maxHeartbeats 1000000 in
theorem implExch_any (a b c d e f g h : Nat) (w : World) :
    Calls Try.prog 13 #[twoV a b c d e f g h] w fun x w' => x = .returned (okTwo g h e f c d a b) ∧ Calm w w' := by
  have HD := Lib.hid (Duo.new w a b c d e f g h)
  obtain ⟨β, hβ⟩ : ∃ β, finTwo g h e f c d a b = β := ⟨_, rfl⟩
  have HB := Lib.hid hβ
  clear hβ
  go_enter Try.func13, Try.ntmps13
  go_wp2_with fail
  refine (ifTwoOk_any _ _ _ _ _ _ _ _ _).mono ?_
  unfold okTwo
  rw [HB.out]
  rintro z w1 ⟨rfl, C⟩
  have H1 := Lib.hid (HD.out.calm C)
  have z0 := H1.out.z.c0
  have z1 := H1.out.z.c1
  have z2 := H1.out.z.c2
  have z3 := H1.out.z.c3
  have f0 := H1.out.z.fr 0
  have f1 := H1.out.z.fr 1
  have f2 := H1.out.z.fr 2
  have f3 := H1.out.z.fr 3
  have zl := H1.out.z.lt
  clear C HD
  cases β
  all_goals
    go_wp2_with fail
    refine bodyPost_ret (results_two_tmp rfl _ rfl ((((H1.out.z.s0 _ _).s1 _ _).s2 _ _).s3 _ _)) rfl ?_
    exact ⟨by unfold okTwo; rw [HB.out]; rfl, calm_set4 H1.out.c (by omega) _ _ _ _⟩

set_option maxHeartbeats 1000000 in
theorem drawExch_any {a : Option Addr} {len cap : Nat} {zs : List Int} {w : World} (h : IsRow .u8 w a len cap zs) :
    Calls Try.prog 12 #[.slice a len cap] w (Got IsTwo w) := by
  go_enter Try.func12, Try.ntmps12
  go_wp2_with fail
  refine (open_any (h.alloc _)).mono ?_
  rintro e w1 ⟨b, a1, len1, cap1, rfl, R1, hb, B1⟩
  have hs : (w.alloc (.cells #[.complex .f32 0 0, .complex .f32 0 0, .complex .f32 0 0, .complex .f32 0 0] 25)).heap.size = w.heap.size + 1 := by simp
  have A1 := (Blk.new w 0 0 0 0 0 0 0 0).below B1 (by omega)
  have B2 := (((Below.refl w.heap.size w).alloc (Nat.le_refl _) (.cells #[.complex .f32 0 0, .complex .f32 0 0, .complex .f32 0 0, .complex .f32 0 0] 25))).trans (B1.mono (B' := w.heap.size) (by omega))
  clear B1
  go_wp2_with fail
  refine (scattering_any R1 (by omega) (by omega) (by omega)).mono ?_
  rintro e w2 ⟨v, k2, ⟨x1, y1, x2, y2, x3, y3, x4, y4, rfl⟩, rfl, _, R2, G2⟩
  have A2 := A1.grown G2 (by omega)
  have B3 := Lib.hid (below_drawn B2 (show w.heap.size ≤ b by omega) B2.size G2)
  have r0 := A2.c0
  have r1 := A2.c1
  have r2 := A2.c2
  have r3 := A2.c3
  have q0 := A2.fr 0
  have q1 := A2.fr 1
  have q2 := A2.fr 2
  have q3 := A2.fr 3
  have HA := Lib.hid A2
  clear R1 R2 G2 B2 A1 A2 hs
  go_wp2_with fail
  refine bodyPost_ret (results_two rfl _ rfl ((((HA.out.s0 _ _).s1 _ _).s2 _ _).s3 _ _)) rfl ?_
  exact ⟨_, ⟨_, _, _, _, _, _, _, _, rfl⟩, rfl, below_set4 B3.out (Nat.le_refl _) _ _ _ _⟩

set_option maxRecDepth 8000 in
set_option maxHeartbeats 2000000 in
theorem FnExchangedPorts_walk (a : Option Addr) (len cap : Nat) (zs : List Int) (w : World) (h : IsRow .u8 w a len cap zs) :
    Calls Try.prog 3 #[.slice a len cap] w fun e w' => e = .returned (.bool true) ∧ Below w.heap.size w w' := by
  by_cases hl : (1048576 : Int) < (len : Int)
  · go_enter Try.func3, Try.ntmps3
    go_wp2_with fail
    go_ret
    exact ⟨rfl, Below.refl _ _⟩
  · go_enter Try.func3, Try.ntmps3
    go_wp2_with fail
    refine (drawExch_any h).mono ?_
    rintro z w1 ⟨v, ⟨x1, y1, x2, y2, x3, y3, x4, y4, rfl⟩, rfl, B1⟩
    clear h
    have B2 := Lib.hid (B1.alloc B1.size (.cells #[.complex .f32 x1 y1, .complex .f32 x2 y2, .complex .f32 x3 y3, .complex .f32 x4 y4] 25))
    have S2 := Lib.hid (Blk.new w1 x1 y1 x2 y2 x3 y3 x4 y4)
    obtain ⟨β, hβ⟩ : ∃ β, finTwo x4 y4 x3 y3 x2 y2 x1 y1 = β := ⟨_, rfl⟩
    have HB := Lib.hid hβ
    have HB' := Lib.hid (show finTwo x1 y1 x2 y2 x3 y3 x4 y4 = β by
      rw [← hβ]
      unfold finTwo
      cases (fin .f32 x1 && fin .f32 y1) <;> cases (fin .f32 x2 && fin .f32 y2) <;> cases (fin .f32 x3 && fin .f32 y3) <;> cases (fin .f32 x4 && fin .f32 y4) <;> rfl)
    clear B1 hβ
    cases β
    · skip
      go_wp2_with fail
      refine (implExch_any _ _ _ _ _ _ _ _ _).mono ?_
      unfold okTwo
      rw [HB.out]
      rintro z w2 ⟨rfl, C⟩
      have S3 := Lib.hid ((S2.out.calm C).alloc (.cells #[.complex .f32 0 0, .complex .f32 0 0, .complex .f32 0 0, .complex .f32 0 0] 25))
      have X3 := Lib.hid (Blk.new w2 0 0 0 0 0 0 0 0)
      have B3 := Lib.hid ((below_calm B2.out B2.out.size C).alloc (below_calm B2.out B2.out.size C).size (.cells #[.complex .f32 0 0, .complex .f32 0 0, .complex .f32 0 0, .complex .f32 0 0] 25))
      clear C B2 S2
      have s0 := S3.out.c0
      have s1 := S3.out.c1
      have s2 := S3.out.c2
      have s3 := S3.out.c3
      have sl := S3.out.lt
      go_wp2_with fail
      refine (specExch_any _ _ _ _ _ _ _ _ _).mono ?_
      unfold okTwo
      rw [HB.out]
      rintro z w4 ⟨rfl, C⟩
      have S4 := Lib.hid ((S3.out.calm C).alloc (.cells #[.complex .f32 0 0, .complex .f32 0 0, .complex .f32 0 0, .complex .f32 0 0] 25))
      have X4 := Lib.hid ((X3.out.calm C).alloc (.cells #[.complex .f32 0 0, .complex .f32 0 0, .complex .f32 0 0, .complex .f32 0 0] 25))
      have B4 := Lib.hid ((below_calm B3.out B3.out.size C).alloc (below_calm B3.out B3.out.size C).size (.cells #[.complex .f32 0 0, .complex .f32 0 0, .complex .f32 0 0, .complex .f32 0 0] 25))
      clear C B3 S3 X3
      clear s0 s1 s2 s3 sl
      have s0 := S4.out.c0
      have s1 := S4.out.c1
      have s2 := S4.out.c2
      have s3 := S4.out.c3
      have sl := S4.out.lt
      have qx0 := X4.out.c0
      have qx1 := X4.out.c1
      have qx2 := X4.out.c2
      have qx3 := X4.out.c3
      have qxl := X4.out.lt
      go_wp2_with fail
      refine (sameTwo_same _ _ _ _ _ _ _ _ _).mono ?_
      rintro z w5 ⟨rfl, C⟩
      have S5 := Lib.hid (S4.out.calm C)
      have X5 := Lib.hid (X4.out.calm C)
      have B5 := Lib.hid (below_calm B4.out B4.out.size C)
      clear C B4 S4 X4
      clear s0 s1 s2 s3 sl
      clear qx0 qx1 qx2 qx3 qxl
      have s0 := S5.out.c0
      have s1 := S5.out.c1
      have s2 := S5.out.c2
      have s3 := S5.out.c3
      have sl := S5.out.lt
      have qx0 := X5.out.c0
      have qx1 := X5.out.c1
      have qx2 := X5.out.c2
      have qx3 := X5.out.c3
      have qxl := X5.out.lt
      go_wp2_with fail
      refine (noTwo_zero _).mono ?_
      rintro z w6 ⟨rfl, C⟩
      have B6 := Lib.hid (below_calm B5.out B5.out.size C)
      clear C B5 s0 s1 s2 s3 sl qx0 qx1 qx2 qx3 qxl
      go_wp2_with fail
      refine (alive_any _).mono ?_
      rintro e w7 ⟨rfl, rfl⟩
      go_wp2_with fail
      go_ret
      exact ⟨rfl, B6.out⟩
    · skip
      go_wp2_with fail
      refine (implExch_any _ _ _ _ _ _ _ _ _).mono ?_
      unfold okTwo
      rw [HB.out]
      rintro z w2 ⟨rfl, C⟩
      have S3 := Lib.hid ((S2.out.calm C).alloc (.cells #[.complex .f32 x4 y4, .complex .f32 x3 y3, .complex .f32 x2 y2, .complex .f32 x1 y1] 25))
      have X3 := Lib.hid (Blk.new w2 x4 y4 x3 y3 x2 y2 x1 y1)
      have B3 := Lib.hid ((below_calm B2.out B2.out.size C).alloc (below_calm B2.out B2.out.size C).size (.cells #[.complex .f32 x4 y4, .complex .f32 x3 y3, .complex .f32 x2 y2, .complex .f32 x1 y1] 25))
      clear C B2 S2
      have s0 := S3.out.c0
      have s1 := S3.out.c1
      have s2 := S3.out.c2
      have s3 := S3.out.c3
      have sl := S3.out.lt
      go_wp2_with fail
      refine (specExch_any _ _ _ _ _ _ _ _ _).mono ?_
      unfold okTwo
      rw [HB.out]
      rintro z w4 ⟨rfl, C⟩
      have S4 := Lib.hid ((S3.out.calm C).alloc (.cells #[.complex .f32 x4 y4, .complex .f32 x3 y3, .complex .f32 x2 y2, .complex .f32 x1 y1] 25))
      have X4 := Lib.hid ((X3.out.calm C).alloc (.cells #[.complex .f32 x4 y4, .complex .f32 x3 y3, .complex .f32 x2 y2, .complex .f32 x1 y1] 25))
      have B4 := Lib.hid ((below_calm B3.out B3.out.size C).alloc (below_calm B3.out B3.out.size C).size (.cells #[.complex .f32 x4 y4, .complex .f32 x3 y3, .complex .f32 x2 y2, .complex .f32 x1 y1] 25))
      clear C B3 S3 X3
      clear s0 s1 s2 s3 sl
      have s0 := S4.out.c0
      have s1 := S4.out.c1
      have s2 := S4.out.c2
      have s3 := S4.out.c3
      have sl := S4.out.lt
      have qx0 := X4.out.c0
      have qx1 := X4.out.c1
      have qx2 := X4.out.c2
      have qx3 := X4.out.c3
      have qxl := X4.out.lt
      go_wp2_with fail
      refine (sameTwo_same _ _ _ _ _ _ _ _ _).mono ?_
      rintro z w5 ⟨rfl, C⟩
      have S5 := Lib.hid (S4.out.calm C)
      have X5 := Lib.hid (X4.out.calm C)
      have B5 := Lib.hid (below_calm B4.out B4.out.size C)
      clear C B4 S4 X4
      clear s0 s1 s2 s3 sl
      clear qx0 qx1 qx2 qx3 qxl
      have s0 := S5.out.c0
      have s1 := S5.out.c1
      have s2 := S5.out.c2
      have s3 := S5.out.c3
      have sl := S5.out.lt
      have qx0 := X5.out.c0
      have qx1 := X5.out.c1
      have qx2 := X5.out.c2
      have qx3 := X5.out.c3
      have qxl := X5.out.lt
      go_wp2_with fail
      refine (implExch_any _ _ _ _ _ _ _ _ _).mono ?_
      unfold okTwo
      rw [HB'.out]
      rintro z w6 ⟨rfl, C⟩
      have S6 := Lib.hid ((S5.out.calm C).alloc (.cells #[.complex .f32 x1 y1, .complex .f32 x2 y2, .complex .f32 x3 y3, .complex .f32 x4 y4] 25))
      have X6 := Lib.hid ((X5.out.calm C).alloc (.cells #[.complex .f32 x1 y1, .complex .f32 x2 y2, .complex .f32 x3 y3, .complex .f32 x4 y4] 25))
      have B6 := Lib.hid ((below_calm B5.out B5.out.size C).alloc (below_calm B5.out B5.out.size C).size (.cells #[.complex .f32 x1 y1, .complex .f32 x2 y2, .complex .f32 x3 y3, .complex .f32 x4 y4] 25))
      clear C B5 S5 X5
      clear s0 s1 s2 s3 sl
      clear qx0 qx1 qx2 qx3 qxl
      have s0 := S6.out.c0
      have s1 := S6.out.c1
      have s2 := S6.out.c2
      have s3 := S6.out.c3
      have sl := S6.out.lt
      have qx0 := X6.out.c0
      have qx1 := X6.out.c1
      have qx2 := X6.out.c2
      have qx3 := X6.out.c3
      have qxl := X6.out.lt
      go_wp2_with fail
      refine (sameTwo_same _ _ _ _ _ _ _ _ _).mono ?_
      rintro z w7 ⟨rfl, C⟩
      have S7 := Lib.hid (S6.out.calm C)
      have X7 := Lib.hid (X6.out.calm C)
      have B7 := Lib.hid (below_calm B6.out B6.out.size C)
      clear C B6 S6 X6
      clear s0 s1 s2 s3 sl
      clear qx0 qx1 qx2 qx3 qxl
      have s0 := S7.out.c0
      have s1 := S7.out.c1
      have s2 := S7.out.c2
      have s3 := S7.out.c3
      have sl := S7.out.lt
      have qx0 := X7.out.c0
      have qx1 := X7.out.c1
      have qx2 := X7.out.c2
      have qx3 := X7.out.c3
      have qxl := X7.out.lt
      go_wp2_with fail
      refine (sameBits_same _ _ _).mono ?_
      rintro e w8 ⟨rfl, n, rfl⟩
      go_wp2_with fail
      go_ret
      exact ⟨rfl, below_drewN B7.out _⟩

end Go.Proofs.Ytjacmojmjicmjaa
