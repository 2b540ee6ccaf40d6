/-
  The chain matrix of a line with a whole impedance is near the known one; its determinant; a chain of two such lines.
-/
import Derived.Test.YtdmacimafkiijaaLineW
namespace Go.Proofs.Ytdmacimafkiijaa
open Go.RowKit Fl
open Ieee

theorem line_whole {x y : Nat} (fx : fin .f32 x = true) (fy : fin .f32 y = true) {N v : Rat} (vx : V FloatKind.f32.format x = N) (vy : V FloatKind.f32.format y = 0) (N0 : 1 ≤ N) (N1 : N ≤ 100) (hv : N * v = 1)
    {e f q1 q2 s1 s2 d1 d2 : Nat} {C S m n : Rat} (t : LineT C S m n) (L : Line e f q1 q2 s1 s2 d1 d2 C S m n) : ∃ b1 b2 c1 c2, LineZ x y s1 s2 d1 d2 b1 b2 c1 c2 ∧
    Cm b1 b2 (N * ((n - m) / 2 * C)) (N * ((n + m) / 2 * S)) (N * (27 / 10000000)) ∧ Cm c1 c2 (v * ((n - m) / 2 * C)) (v * ((n + m) / 2 * S)) (v * (31 / 10000000)) := by
  obtain ⟨k22, k23, k60⟩ := p22_num
  have m0 := t.m0
  have m1 := t.m1
  have n0 := t.n0
  have n1 := t.n1
  have mD : Md ((n - m) / 2 * C) ((n + m) / 2 * S) (7 / 6) := md_scale t.u.le (absR_le.2 ⟨by grind, by grind⟩) (absR_le.2 ⟨by grind, by grind⟩)
  have v0 : 0 ≤ v := by
    rcases Rat.le_total (a := 0) (b := v) with g | g
    · exact g
    · exfalso
      have := Rat.mul_nonneg (show 0 ≤ N by grind) (show 0 ≤ -v by grind)
      grind
  have v1 : v ≤ 1 := by
    have := Rat.mul_nonneg (show 0 ≤ N - 1 by grind) v0
    grind
  have mN : Md N 0 N := ⟨by grind, by grind⟩
  have zc : Cm x y N 0 0 := Cm.of fx fy vx vy
  have mvD : Md (v * ((n - m) / 2 * C)) (v * ((n + m) / 2 * S)) (7 / 6) := by
    have mv : Md v 0 1 := ⟨by decide +kernel, by
      have := Rat.mul_nonneg v0 (show 0 ≤ 1 - v by grind)
      grind⟩
    exact ((mv.mul mD).to (by grind) (by grind)).le (by decide +kernel)
  obtain ⟨b1, b2, hb, nb⟩ := Cm.mul zc L.nd N (7 / 6) (N * (27 / 10000000)) mN mD (by grind) (by grind) (by rw [k22]; grind)
  obtain ⟨c1, c2, hc, nc⟩ := Cm.quo L.nd zc (U := v * ((n - m) / 2 * C)) (T := v * ((n + m) / 2 * S)) (7 / 6) 100 (7 / 6) N (v * (31 / 10000000)) mD (mN.le N1) mvD (by
      have : N * (v * ((n - m) / 2 * C)) = (N * v) * ((n - m) / 2 * C) := by grind
      rw [this, hv]; grind) (by
      have : N * (v * ((n + m) / 2 * S)) = (N * v) * ((n + m) / 2 * S) := by grind
      rw [this, hv]; grind) (by grind) (by decide +kernel) (by decide +kernel) (by decide +kernel) (by grind) (by
      have : v * (31 / 10000000) * (N - 0) = (N * v) * (31 / 10000000) := by grind
      rw [this, hv]; decide +kernel) (by grind)
  have nb' := nb.to (Z := N * ((n - m) / 2 * C)) (W := N * ((n + m) / 2 * S)) (by grind) (by grind)
  refine ⟨b1, b2, c1, c2, ⟨hb, hc, ?_, by rw [fx, fy]; rfl, ?_⟩, nb', nc⟩
  · unfold finTwo
    rw [L.ns.f2, nb.f2, nc.f2]
    rfl
  · have h1 : FloatKind.f32.format.order x 0 ≠ some .eq := by
      intro h
      have := (order_spec _ (fin_num.1 fx) zero32.1).2.1.1 h
      rw [vx, zero32.2] at this
      grind
    have : (FloatKind.f32.format.order x 0 == some .eq) = false := by simpa using h1
    rw [this]; rfl

/-- The determinant of such a matrix is near 1. -/
theorem det_at {N v : Rat} (N0 : 1 ≤ N) (hv : N * v = 1) {s1 s2 b1 b2 c1 c2 : Nat} {C S m n : Rat} (t : LineT C S m n) (ns : Cm s1 s2 ((n + m) / 2 * C) ((n - m) / 2 * S) (22 / 10000000))
    (nb : Cm b1 b2 (N * ((n - m) / 2 * C)) (N * ((n + m) / 2 * S)) (N * (27 / 10000000))) (nc : Cm c1 c2 (v * ((n - m) / 2 * C)) (v * ((n + m) / 2 * S)) (v * (31 / 10000000))) :
    ∃ p1 p2 r1 r2, DetW s1 s2 b1 b2 c1 c2 s1 s2 p1 p2 r1 r2 ∧ Cm (subB p1 r1) (subB p2 r2) 1 0 (133 / 10000000) := by
  obtain ⟨k22, k23, k60⟩ := p22_num
  have m0 := t.m0
  have m1 := t.m1
  have n0 := t.n0
  have n1 := t.n1
  have inv := t.inv
  have mS : Md ((n + m) / 2 * C) ((n - m) / 2 * S) (7 / 6) := md_scale t.u.le (absR_le.2 ⟨by grind, by grind⟩) (absR_le.2 ⟨by grind, by grind⟩)
  have mD : Md ((n - m) / 2 * C) ((n + m) / 2 * S) (7 / 6) := md_scale t.u.le (absR_le.2 ⟨by grind, by grind⟩) (absR_le.2 ⟨by grind, by grind⟩)
  have v0 : 0 ≤ v := by
    rcases Rat.le_total (a := 0) (b := v) with g | g
    · exact g
    · exfalso
      have := Rat.mul_nonneg (show 0 ≤ N by grind) (show 0 ≤ -v by grind)
      grind
  have mND : Md (N * ((n - m) / 2 * C)) (N * ((n + m) / 2 * S)) (N * (7 / 6)) := (((show Md N 0 N from ⟨by grind, by grind⟩).mul mD).to (by grind) (by grind))
  have mvD : Md (v * ((n - m) / 2 * C)) (v * ((n + m) / 2 * S)) (v * (7 / 6)) := (((show Md v 0 v from ⟨by grind, by grind⟩).mul mD).to (by grind) (by grind))
  have m10 : Md 1 0 1 := ⟨by decide +kernel, by decide +kernel⟩
  obtain ⟨p1, p2, hp, np⟩ := Cm.mul ns ns (7 / 6) (7 / 6) (57 / 10000000) mS mS (by decide +kernel) (by decide +kernel) (by rw [k22]; decide +kernel)
  have sc : ∀ x y : Rat, N * x * (v * y) = x * y := by
    intro x y
    have : N * x * (v * y) = (N * v) * (x * y) := by grind
    rw [this, hv]; grind
  have e0 : (N * (7 / 6) + N * (27 / 10000000)) * (v * (7 / 6) + v * (31 / 10000000)) = (7 / 6 + 27 / 10000000) * (7 / 6 + 31 / 10000000) := by
    have : (N * (7 / 6) + N * (27 / 10000000)) * (v * (7 / 6) + v * (31 / 10000000)) = (N * (7 / 6 + 27 / 10000000)) * (v * (7 / 6 + 31 / 10000000)) := by grind
    rw [this, sc]
  obtain ⟨r1, r2, hr, nr⟩ := Cm.mul nb nc (N * (7 / 6)) (v * (7 / 6)) (73 / 10000000) mND mvD (by rw [e0]; decide +kernel) (by rw [e0]; decide +kernel) (by
    rw [e0, sc, sc]
    have : v * (7 / 6) * (N * (27 / 10000000)) = 7 / 6 * (27 / 10000000) := by
      have : v * (7 / 6) * (N * (27 / 10000000)) = N * (27 / 10000000) * (v * (7 / 6)) := by grind
      rw [this, sc]; decide +kernel
    rw [this, k22]; decide +kernel)
  rw [sc, sc, sc, sc] at nr
  have e1 : (n + m) / 2 * C * ((n + m) / 2 * C) - (n - m) / 2 * S * ((n - m) / 2 * S) - ((n - m) / 2 * C * ((n - m) / 2 * C) - (n + m) / 2 * S * ((n + m) / 2 * S)) = 1 := by grind
  have e2 : (n + m) / 2 * C * ((n - m) / 2 * S) + (n - m) / 2 * S * ((n + m) / 2 * C) - ((n - m) / 2 * C * ((n + m) / 2 * S) + (n + m) / 2 * S * ((n - m) / 2 * C)) = 0 := by grind
  obtain ⟨st1, st2, nt⟩ := Cm.sub np nr (11 / 10) (133 / 10000000) ((m10.to e1.symm e2.symm).le (by decide +kernel)) (by grind) (by decide +kernel) (by rw [k23]; decide +kernel)
  exact ⟨p1, p2, r1, r2, ⟨ns.f2, nb.f2, nc.f2, ns.f2, hp, hr, np.f2, nr.f2, st1, st2, nt.f2⟩, nt.to e1 e2⟩

/-- Without loss. -/
theorem no_loss {N v : Rat} (N0 : 1 ≤ N) (hv0 : 0 ≤ v) {s1 s2 b1 b2 c1 c2 : Nat} {C S n : Rat} (t : LineT C S 1 n) (ns : Cm s1 s2 ((n + 1) / 2 * C) ((n - 1) / 2 * S) (22 / 10000000))
    (nb : Cm b1 b2 (N * ((n - 1) / 2 * C)) (N * ((n + 1) / 2 * S)) (N * (27 / 10000000))) (nc : Cm c1 c2 (v * ((n - 1) / 2 * C)) (v * ((n + 1) / 2 * S)) (v * (31 / 10000000))) :
    Cm s1 s2 C 0 (25 / 10000000) ∧ Cm b1 b2 0 (N * S) (N * (30 / 10000000)) ∧ Cm c1 c2 0 (v * S) (v * (34 / 10000000)) := by
  have n0 := t.n0
  have inv := t.inv
  have uge := t.u.ge
  have hn : n ≤ 1 + 2 / 10000000 := by
    rcases Rat.le_total (a := n) (b := 1 + 2 / 10000000) with g | g
    · exact g
    · exfalso
      have := Rat.mul_nonneg (show 0 ≤ n - (1 + 2 / 10000000) by grind) (show 0 ≤ (C * C + S * S) by grind)
      grind
  have md : Md ((n - 1) / 2 * C) ((n - 1) / 2 * S) (1 / 10000000) := md_scale t.u.le (absR_le.2 ⟨by grind, by grind⟩) (absR_le.2 ⟨by grind, by grind⟩)
  have sc : ∀ k : Rat, 0 ≤ k → Md (k * ((n - 1) / 2 * C)) (k * ((n - 1) / 2 * S)) (k * (1 / 10000000)) := fun k hk => ((show Md k 0 k from ⟨hk, by grind⟩).mul md).to (by grind) (by grind)
  refine ⟨(ns.move (Z := C) (W := 0) (md.to (by grind) (by grind))).le (by decide +kernel), (nb.move (Z := 0) (W := N * S) ((sc N (by grind)).to (by grind) (by grind))).le (by grind), (nc.move (Z := 0) (W := v * S) ((sc v hv0).to (by grind) (by grind))).le (by grind)⟩

/-- The words of two chain matrices put together. -/
structure CasW (a b c d e f g h a' b' c' d' e' f' g' h' x1 y1 x2 y2 x3 y3 x4 y4 x5 y5 x6 y6 x7 y7 x8 y8 : Nat) : Prop where
  m1 : MulW a b a' b' x1 y1
  m2 : MulW c d e' f' x2 y2
  m3 : MulW a b c' d' x3 y3
  m4 : MulW c d g' h' x4 y4
  m5 : MulW e f a' b' x5 y5
  m6 : MulW g h e' f' x6 y6
  m7 : MulW e f c' d' x7 y7
  m8 : MulW g h g' h' x8 y8
  s1 : AddOk x1 x2
  t1 : AddOk y1 y2
  s2 : AddOk x3 x4
  t2 : AddOk y3 y4
  s3 : AddOk x5 x6
  t3 : AddOk y5 y6
  s4 : AddOk x7 x8
  t4 : AddOk y7 y8
  f : finTwo (addB x1 x2) (addB y1 y2) (addB x3 x4) (addB y3 y4) (addB x5 x6) (addB y5 y6) (addB x7 x8) (addB y7 y8) = true

set_option maxHeartbeats 1000000 in
theorem cascade_w {a b c d e f g h a' b' c' d' e' f' g' h' x1 y1 x2 y2 x3 y3 x4 y4 x5 y5 x6 y6 x7 y7 x8 y8 : Nat} (K : CasW a b c d e f g h a' b' c' d' e' f' g' h' x1 y1 x2 y2 x3 y3 x4 y4 x5 y5 x6 y6 x7 y7 x8 y8) (w : World) :
    Calls Try.prog 35 #[twoV a b c d e f g h, twoV a' b' c' d' e' f' g' h'] w fun z w' =>
      z = .returned (.tuple #[twoV (addB x1 x2) (addB y1 y2) (addB x3 x4) (addB y3 y4) (addB x5 x6) (addB y5 y6) (addB x7 x8) (addB y7 y8), .bool true]) ∧ Calm w w' := by
  have HF := Lib.hid K.f
  have e1 := K.m1
  have e2 := K.m2
  have e3 := K.m3
  have e4 := K.m4
  have e5 := K.m5
  have e6 := K.m6
  have e7 := K.m7
  have e8 := K.m8
  obtain ⟨g1, g2⟩ := K.s1
  obtain ⟨g3, g4⟩ := K.t1
  obtain ⟨g5, g6⟩ := K.s2
  obtain ⟨g7, g8⟩ := K.t2
  obtain ⟨g9, g10⟩ := K.s3
  obtain ⟨g11, g12⟩ := K.t3
  obtain ⟨g13, g14⟩ := K.s4
  obtain ⟨g15, g16⟩ := K.t4
  clear K
  generalize addB x1 x2 = p1 at *
  generalize addB y1 y2 = q1 at *
  generalize addB x3 x4 = p2 at *
  generalize addB y3 y4 = q2 at *
  generalize addB x5 x6 = p3 at *
  generalize addB y5 y6 = q3 at *
  generalize addB x7 x8 = p4 at *
  generalize addB y7 y8 = q4 at *
  go_enter Try.func35, Try.ntmps35
  go_wp2_with fail
  refine (ifTwoOk_any _ _ _ _ _ _ _ _ _).mono ?_
  rintro z w1 ⟨rfl, C⟩
  have hok : okTwo p1 q1 p2 q2 p3 q3 p4 q4 = .tuple #[twoV p1 q1 p2 q2 p3 q3 p4 q4, .bool true] := by unfold okTwo; rw [HF.out]; rfl
  rw [hok]
  clear hok e1 e2 e3 e4 e5 e6 e7 e8 g1 g2 g3 g4 g5 g6 g7 g8 g9 g10 g11 g12 g13 g14 g15 g16
  have K := calm_trans (calm_allocR (calm_allocR (calm_new w _) _) _) C
  have R := (Blk.new ((w.alloc (.cells #[.complex .f32 a b, .complex .f32 c d, .complex .f32 e f, .complex .f32 g h] 47)).alloc (.cells #[.complex .f32 a' b', .complex .f32 c' d', .complex .f32 e' f', .complex .f32 g' h'] 47)) 0 0 0 0 0 0 0 0).calm C
  have hs : ((w.alloc (.cells #[.complex .f32 a b, .complex .f32 c d, .complex .f32 e f, .complex .f32 g h] 47)).alloc (.cells #[.complex .f32 a' b', .complex .f32 c' d', .complex .f32 e' f', .complex .f32 g' h'] 47)).heap.size = w.heap.size + 1 + 1 := by simp
  rw [hs] at R
  have r0 := R.c0
  have r1 := R.c1
  have r2 := R.c2
  have r3 := R.c3
  have q0' := R.fr 0
  have q1' := R.fr 1
  have q2' := R.fr 2
  have q3' := R.fr 3
  have HR := Lib.hid R
  have HK := Lib.hid K
  clear C R K hs
  go_wp2_with fail
  refine bodyPost_ret (results_two_tmp rfl _ rfl ((((HR.out.s0 _ _).s1 _ _).s2 _ _).s3 _ _)) rfl ?_
  exact ⟨rfl, calm_set4 HK.out (by omega) _ _ _ _⟩

end Go.Proofs.Ytdmacimafkiijaa
