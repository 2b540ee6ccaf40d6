/-
  The scattering of a chain matrix at the reference 1, and what is seen through it: contracts of the program's Determinant, dividedBy, ScatteringOf and ThroughOf where every operation on the way is known.
-/
import Derived.Test.YtdmacimafkiijaaImplLine
import Derived.Test.YtdmacimafkiijaaBeh
import Derived.Test.YtdmacimafkiijaaRefI
namespace Go.Proofs.Ytdmacimafkiijaa
open Go.RowKit Fl

abbrev MulW (a b c d e f : Nat) : Prop := ∀ (P : Program) (t : TypeId) (w : World), (binOp .mul t (.complex .f32 a b) (.complex .f32 c d)).run P w = .ok (.complex .f32 e f) w
abbrev QuoW (a b c d e f : Nat) : Prop := ∀ (P : Program) (t : TypeId) (w : World), (binOp .quo t (.complex .f32 a b) (.complex .f32 c d)).run P w = .ok (.complex .f32 e f) w
abbrev Fin2 (a b : Nat) : Prop := (fin .f32 a && fin .f32 b) = true
/-- Not 0. -/
abbrev Nz (a b : Nat) : Prop := ¬(FloatKind.f32.format.order a 0 = some .eq ∧ FloatKind.f32.format.order b 0 = some .eq)

theorem fin2 {a b : Nat} (h : Fin2 a b) : fin .f32 a = true ∧ fin .f32 b = true := by simpa using h

theorem implProduct_w {a b c d e f : Nat} (h1 : Fin2 a b) (h2 : Fin2 c d) (h3 : Fin2 e f) (hm : MulW a b c d e f) (w : World) :
    Calls Try.prog 58 #[.complex .f32 a b, .complex .f32 c d] w fun z w' => z = .returned (.tuple #[.complex .f32 e f, .bool true]) ∧ ∃ n, w' = w.drewN n :=
  implProduct_of (fin2 h1).1 (fin2 h1).2 (fin2 h2).1 (fin2 h2).2 (fin2 h3).1 (fin2 h3).2 hm w

theorem implQuotient_w {a b c d e f : Nat} (h1 : Fin2 a b) (h2 : Fin2 c d) (h3 : Fin2 e f) (hz : Nz c d) (hm : QuoW a b c d e f) (w : World) :
    Calls Try.prog 63 #[.complex .f32 a b, .complex .f32 c d] w fun z w' => z = .returned (.tuple #[.complex .f32 e f, .bool true]) ∧ ∃ n, w' = w.drewN n :=
  implQuotient_of h1 h2 hz hm (fin2 h3).1 (fin2 h3).2 w

theorem ifFinite_w {a b : Nat} (h : Fin2 a b) (w : World) :
    Calls Try.prog 56 #[.complex .f32 a b] w fun x w' => x = .returned (.tuple #[.complex .f32 a b, .bool true]) ∧ ∃ n, w' = w.drewN n := ifFinite_of (fin2 h).1 (fin2 h).2 w

/-- The determinant's words. -/
structure DetW (a b c d e f g h p1 p2 r1 r2 : Nat) : Prop where
  f1 : Fin2 a b
  f2 : Fin2 c d
  f3 : Fin2 e f
  f4 : Fin2 g h
  m1 : MulW a b g h p1 p2
  m2 : MulW c d e f r1 r2
  k1 : Fin2 p1 p2
  k2 : Fin2 r1 r2
  s1 : SubOk p1 r1
  s2 : SubOk p2 r2
  k3 : Fin2 (subB p1 r1) (subB p2 r2)

set_option maxHeartbeats 1000000 in
theorem implDet_w {a b c d e f g h p1 p2 r1 r2 : Nat} (D : DetW a b c d e f g h p1 p2 r1 r2) (w : World) :
    Calls Try.prog 34 #[twoV a b c d e f g h] w fun z w' => z = .returned (.tuple #[.complex .f32 (subB p1 r1) (subB p2 r2), .bool true]) ∧ Calm w w' := by
  have HD := Lib.hid D
  obtain ⟨s1, s1'⟩ := D.s1
  obtain ⟨s2, s2'⟩ := D.s2
  clear D
  go_enter Try.func34, Try.ntmps34
  go_wp2_with fail
  refine (implProduct_w HD.out.f1 HD.out.f4 HD.out.k1 HD.out.m1 _).mono ?_
  rintro z w1 ⟨rfl, n1, rfl⟩
  go_wp2_with fail
  refine (implProduct_w HD.out.f2 HD.out.f3 HD.out.k2 HD.out.m2 _).mono ?_
  rintro z w1 ⟨rfl, n2, rfl⟩
  go_wp2_with fail
  refine (ifFinite_w HD.out.k3 _).mono ?_
  rintro z w1 ⟨rfl, n3, rfl⟩
  go_wp2_with fail
  go_ret2
  exact ⟨rfl, grown_drewN (World.grownBy_alloc w _ none) _⟩

/-- Four quotients by the same number. -/
structure DivW (a b c d e f g h x y A1 A2 B1 B2 C1 C2 D1 D2 : Nat) : Prop where
  f1 : Fin2 a b
  f2 : Fin2 c d
  f3 : Fin2 e f
  f4 : Fin2 g h
  fx : Fin2 x y
  nz : Nz x y
  q1 : QuoW a b x y A1 A2
  q2 : QuoW c d x y B1 B2
  q3 : QuoW e f x y C1 C2
  q4 : QuoW g h x y D1 D2
  k1 : Fin2 A1 A2
  k2 : Fin2 B1 B2
  k3 : Fin2 C1 C2
  k4 : Fin2 D1 D2

set_option maxHeartbeats 1000000 in
theorem divided_w {a b c d e f g h x y A1 A2 B1 B2 C1 C2 D1 D2 : Nat} (D : DivW a b c d e f g h x y A1 A2 B1 B2 C1 C2 D1 D2) (w : World) :
    Calls Try.prog 80 #[twoV a b c d e f g h, .complex .f32 x y] w fun z w' => z = .returned (.tuple #[twoV A1 A2 B1 B2 C1 C2 D1 D2, .bool true]) ∧ Calm w w' := by
  have HD := Lib.hid D
  clear D
  go_enter Try.func80, Try.ntmps80
  go_wp2_with fail
  refine (implQuotient_w HD.out.f1 HD.out.fx HD.out.k1 HD.out.nz HD.out.q1 _).mono ?_
  rintro z w1 ⟨rfl, n1, rfl⟩
  go_wp2_with fail
  refine (implQuotient_w HD.out.f2 HD.out.fx HD.out.k2 HD.out.nz HD.out.q2 _).mono ?_
  rintro z w1 ⟨rfl, n2, rfl⟩
  go_wp2_with fail
  refine (implQuotient_w HD.out.f3 HD.out.fx HD.out.k3 HD.out.nz HD.out.q3 _).mono ?_
  rintro z w1 ⟨rfl, n3, rfl⟩
  go_wp2_with fail
  refine (implQuotient_w HD.out.f4 HD.out.fx HD.out.k4 HD.out.nz HD.out.q4 _).mono ?_
  rintro z w1 ⟨rfl, n4, rfl⟩
  go_wp2_with fail
  have R := Blk.new (w.alloc (.cells #[.complex .f32 a b, .complex .f32 c d, .complex .f32 e f, .complex .f32 g h] 47)) 0 0 0 0 0 0 0 0
  have hs : (w.alloc (.cells #[.complex .f32 a b, .complex .f32 c d, .complex .f32 e f, .complex .f32 g h] 47)).heap.size = w.heap.size + 1 := by simp
  rw [hs] at R
  refine bodyPost_ret (results_two_tmp rfl _ rfl (((((R.drewN _).s0 _ _).s1 _ _).s2 _ _).s3 _ _)) rfl ?_
  exact ⟨rfl, calm_set4 (grown_drewN (calm_allocR (calm_new w _) _) _) (by omega) _ _ _ _⟩

/-- The words of a scattering at the reference 1. -/
structure ScatW (a b c d e f g h p1 p2 r1 r2 u1 u2 v1 v2 A1 A2 B1 B2 C1 C2 D1 D2 : Nat) : Prop where
  det : DetW a b c d e f g h p1 p2 r1 r2
  hu : QuoW c d 1065353216 0 u1 u2
  fu : Fin2 u1 u2
  hv : MulW e f 1065353216 0 v1 v2
  fv : Fin2 v1 v2
  x1 : AddOk a u1
  x2 : AddOk b u2
  y1 : AddOk v1 g
  y2 : AddOk v2 h
  n1 : AddOk (addB a u1) (addB v1 g)
  n2 : AddOk (addB b u2) (addB v2 h)
  z1 : SubOk (addB a u1) (addB v1 g)
  z2 : SubOk (addB b u2) (addB v2 h)
  t1 : AddOk (subB p1 r1) (subB p1 r1)
  t2 : AddOk (subB p2 r2) (subB p2 r2)
  b1 : SubOk u1 a
  b2 : SubOk u2 b
  d1 : SubOk g v1
  d2 : SubOk h v2
  l1 : AddOk (subB u1 a) (subB g v1)
  l2 : AddOk (subB u2 b) (subB h v2)
  div : DivW (subB (addB a u1) (addB v1 g)) (subB (addB b u2) (addB v2 h)) (addB (subB p1 r1) (subB p1 r1)) (addB (subB p2 r2) (subB p2 r2)) 1073741824 0 (addB (subB u1 a) (subB g v1)) (addB (subB u2 b) (subB h v2))
    (addB (addB a u1) (addB v1 g)) (addB (addB b u2) (addB v2 h)) A1 A2 B1 B2 C1 C2 D1 D2

theorem one_fin : Fin2 1065353216 0 ∧ Nz 1065353216 0 := ⟨by decide, by decide⟩

set_option maxHeartbeats 1000000 in
theorem scattering_w {a b c d e f g h p1 p2 r1 r2 u1 u2 v1 v2 A1 A2 B1 B2 C1 C2 D1 D2 : Nat} (D : ScatW a b c d e f g h p1 p2 r1 r2 u1 u2 v1 v2 A1 A2 B1 B2 C1 C2 D1 D2) (w : World) :
    Calls Try.prog 72 #[twoV a b c d e f g h, .complex .f32 1065353216 0] w fun z w' => z = .returned (.tuple #[twoV A1 A2 B1 B2 C1 C2 D1 D2, .bool true]) ∧ Calm w w' := by
  have HD := Lib.hid D
  obtain ⟨x1, x1'⟩ := D.x1
  obtain ⟨x2, x2'⟩ := D.x2
  obtain ⟨y1, y1'⟩ := D.y1
  obtain ⟨y2, y2'⟩ := D.y2
  obtain ⟨n1, n1'⟩ := D.n1
  obtain ⟨n2, n2'⟩ := D.n2
  obtain ⟨z1, z1'⟩ := D.z1
  obtain ⟨z2, z2'⟩ := D.z2
  obtain ⟨t1, t1'⟩ := D.t1
  obtain ⟨t2, t2'⟩ := D.t2
  obtain ⟨b1, b1'⟩ := D.b1
  obtain ⟨b2, b2'⟩ := D.b2
  obtain ⟨d1, d1'⟩ := D.d1
  obtain ⟨d2, d2'⟩ := D.d2
  obtain ⟨l1, l1'⟩ := D.l1
  obtain ⟨l2, l2'⟩ := D.l2
  clear D
  go_enter Try.func72, Try.ntmps72
  go_wp2_with fail
  refine (implDet_w HD.out.det _).mono ?_
  rintro z w1 ⟨rfl, C⟩
  have K := calm_trans (calm_allocR (calm_new w _) _) C
  have M := ((Blk.new w a b c d e f g h).alloc (.cells #[.complex .f32 0 0, .complex .f32 0 0, .complex .f32 0 0, .complex .f32 0 0] 47)).calm C
  have R := (Blk.new (w.alloc (.cells #[.complex .f32 a b, .complex .f32 c d, .complex .f32 e f, .complex .f32 g h] 47)) 0 0 0 0 0 0 0 0).calm C
  have hs : (w.alloc (.cells #[.complex .f32 a b, .complex .f32 c d, .complex .f32 e f, .complex .f32 g h] 47)).heap.size = w.heap.size + 1 := by simp
  rw [hs] at R
  have m0 := M.c0
  have m1 := M.c1
  have m2 := M.c2
  have m3 := M.c3
  have HR := Lib.hid R
  have HK := Lib.hid K
  clear C M R K hs
  go_wp2_with fail
  refine (implQuotient_w HD.out.det.f2 one_fin.1 HD.out.fu one_fin.2 HD.out.hu _).mono ?_
  rintro z w2 ⟨rfl, k1, rfl⟩
  go_wp2_with fail
  refine (implProduct_w HD.out.det.f3 one_fin.1 HD.out.fv HD.out.hv _).mono ?_
  rintro z w2 ⟨rfl, k2, rfl⟩
  go_wp2_with fail
  refine (divided_w HD.out.div _).mono ?_
  rintro z w3 ⟨rfl, C⟩
  have R := (HR.out.drewN (k1 + k2)).calm C
  have HK3 := Lib.hid (calm_trans (grown_drewN HK.out (k1 + k2)) C)
  have r0 := R.c0
  have r1 := R.c1
  have r2 := R.c2
  have r3 := R.c3
  have q0 := R.fr 0
  have q1 := R.fr 1
  have q2 := R.fr 2
  have q3 := R.fr 3
  have HR3 := Lib.hid R
  clear C R HR HK m0 m1 m2 m3
  go_wp2_with fail
  refine bodyPost_ret (results_two_tmp rfl _ rfl ((((HR3.out.s0 _ _).s1 _ _).s2 _ _).s3 _ _)) rfl ?_
  exact ⟨rfl, calm_set4 HK3.out (by omega) _ _ _ _⟩

set_option maxHeartbeats 1000000 in
theorem implScattering_w {a b c d e f g h p1 p2 r1 r2 u1 u2 v1 v2 A1 A2 B1 B2 C1 C2 D1 D2 : Nat} (D : ScatW a b c d e f g h p1 p2 r1 r2 u1 u2 v1 v2 A1 A2 B1 B2 C1 C2 D1 D2) (w : World) :
    Calls Try.prog 42 #[twoV a b c d e f g h, .complex .f32 1065353216 0] w fun z w' => z = .returned (.tuple #[twoV A1 A2 B1 B2 C1 C2 D1 D2, .bool true]) ∧ Calm w w' := by
  have HD := Lib.hid D
  clear D
  go_enter Try.func42, Try.ntmps42
  go_wp2_with fail
  refine (scattering_w HD.out _).mono ?_
  rintro z w3 ⟨rfl, C⟩
  have K := calm_trans (calm_allocR (calm_new w _) _) C
  have R := (Blk.new (w.alloc (.cells #[.complex .f32 a b, .complex .f32 c d, .complex .f32 e f, .complex .f32 g h] 47)) 0 0 0 0 0 0 0 0).calm C
  have hs : (w.alloc (.cells #[.complex .f32 a b, .complex .f32 c d, .complex .f32 e f, .complex .f32 g h] 47)).heap.size = w.heap.size + 1 := by simp
  rw [hs] at R
  have r0 := R.c0
  have r1 := R.c1
  have r2 := R.c2
  have r3 := R.c3
  have q0 := R.fr 0
  have q1 := R.fr 1
  have q2 := R.fr 2
  have q3 := R.fr 3
  have HR := Lib.hid R
  have HK := Lib.hid K
  clear C R K hs HD
  go_wp2_with fail
  refine bodyPost_ret (results_two_tmp rfl _ rfl ((((HR.out.s0 _ _).s1 _ _).s2 _ _).s3 _ _)) rfl ?_
  exact ⟨rfl, calm_set4 HK.out (by omega) _ _ _ _⟩

/-- The words of what is seen through a scattering. -/
structure ThroW (a b c d e f g h x y p1 p2 r1 r2 s1 s2 q1 q2 : Nat) : Prop where
  m1 : MulW c d e f p1 p2
  m2 : MulW p1 p2 x y r1 r2
  m3 : MulW g h x y s1 s2
  b1 : SubOk 1065353216 s1
  b2 : SubOk 0 s2
  fr : Fin2 r1 r2
  fs : Fin2 (subB 1065353216 s1) (subB 0 s2)
  nz : Nz (subB 1065353216 s1) (subB 0 s2)
  hq : QuoW r1 r2 (subB 1065353216 s1) (subB 0 s2) q1 q2
  fq : Fin2 q1 q2
  a1 : AddOk a q1
  a2 : AddOk b q2
  fa : Fin2 (addB a q1) (addB b q2)

set_option maxHeartbeats 1000000 in
theorem implThrough_w {a b c d e f g h x y p1 p2 r1 r2 s1 s2 q1 q2 : Nat} (D : ThroW a b c d e f g h x y p1 p2 r1 r2 s1 s2 q1 q2) (w : World) :
    Calls Try.prog 43 #[twoV a b c d e f g h, .complex .f32 x y] w fun z w' => z = .returned (.tuple #[.complex .f32 (addB a q1) (addB b q2), .bool true]) ∧ Calm w w' := by
  have HD := Lib.hid D
  have m1 := D.m1
  have m2 := D.m2
  have m3 := D.m3
  obtain ⟨b1, b1'⟩ := D.b1
  obtain ⟨b2, b2'⟩ := D.b2
  obtain ⟨a1, a1'⟩ := D.a1
  obtain ⟨a2, a2'⟩ := D.a2
  clear D
  go_enter Try.func43, Try.ntmps43
  go_wp2_with fail
  refine (implQuotient_w HD.out.fr HD.out.fs HD.out.fq HD.out.nz HD.out.hq _).mono ?_
  rintro z w1 ⟨rfl, n1, rfl⟩
  go_wp2_with fail
  refine (ifFinite_w HD.out.fa _).mono ?_
  rintro z w1 ⟨rfl, n2, rfl⟩
  go_wp2_with fail
  go_ret2
  exact ⟨rfl, grown_drewN (World.grownBy_alloc w _ none) _⟩

end Go.Proofs.Ytdmacimafkiijaa
