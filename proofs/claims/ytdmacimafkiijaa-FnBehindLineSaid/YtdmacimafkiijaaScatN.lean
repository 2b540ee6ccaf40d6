/-
  What is seen through the scattering of a line with the impedance 1, at the reference 1: its words, and how near it comes to what is seen behind the line.
-/
import Derived.Test.YtdmacimafkiijaaScat
namespace Go.Proofs.Ytdmacimafkiijaa
open Go.RowKit Fl

theorem Cm.f2 {a b : Nat} {X Y ε : Rat} (h : Cm a b X Y ε) : Fin2 a b := by
  show (fin .f32 a && fin .f32 b) = true
  rw [h.1, h.2.1]
  rfl

theorem Cm.nz {a b : Nat} {X Y ε m : Rat} (h : Cm a b X Y ε) (hm : m * m ≤ X * X + Y * Y) (hε : ε < m) : Nz a b := by
  intro ⟨h1, h2⟩
  have v1 := (order_spec _ (fin_num.1 h.1) zero32.1).2.1.1 h1
  have v2 := (order_spec _ (fin_num.1 h.2.1) zero32.1).2.1.1 h2
  rw [zero32.2] at v1 v2
  obtain ⟨h0, h3⟩ := h.2.2
  rw [v1, v2] at h3
  have := Rat.mul_pos (show 0 < m - ε by grind) (show 0 < m + ε by grind)
  grind

/-- The chain matrix of a line with the impedance 1. -/
theorem line_one {e f q1 q2 s1 s2 d1 d2 : Nat} {C S m n : Rat} (t : LineT C S m n) (L : Line e f q1 q2 s1 s2 d1 d2 C S m n) : ∃ b1 b2 c1 c2, LineZ 1065353216 0 s1 s2 d1 d2 b1 b2 c1 c2 ∧
    Cm b1 b2 ((n - m) / 2 * C) ((n + m) / 2 * S) (27 / 10000000) ∧ Cm c1 c2 ((n - m) / 2 * C) ((n + m) / 2 * S) (31 / 10000000) := by
  obtain ⟨k22, k23, k60⟩ := p22_num
  have m0 := t.m0
  have m1 := t.m1
  have n0 := t.n0
  have n1 := t.n1
  have ule := t.u.le
  have mD : Md ((n - m) / 2 * C) ((n + m) / 2 * S) (7 / 6) := md_scale ule (absR_le.2 ⟨by grind, by grind⟩) (absR_le.2 ⟨by grind, by grind⟩)
  have m10 : Md 1 0 1 := ⟨by decide +kernel, by decide +kernel⟩
  have one : (1 : Rat) * 1 ≤ 1 * 1 + 0 * 0 := by decide +kernel
  obtain ⟨b1, b2, hb, nb⟩ := Cm.mul one_cm L.nd 1 (7 / 6) (27 / 10000000) m10 mD (by decide +kernel) (by decide +kernel) (by rw [k22]; decide +kernel)
  obtain ⟨c1, c2, hc, nc⟩ := Cm.quo L.nd one_cm (U := (n - m) / 2 * C) (T := (n + m) / 2 * S) (7 / 6) 1 (7 / 6) 1 (31 / 10000000) mD m10 mD (by grind) (by grind) one (by decide +kernel) (by decide +kernel) (by decide +kernel) (by decide +kernel) (by decide +kernel) (by decide +kernel)
  have nb' : Cm b1 b2 ((n - m) / 2 * C) ((n + m) / 2 * S) (27 / 10000000) := nb.to (by grind) (by grind)
  refine ⟨b1, b2, c1, c2, ⟨hb, hc, ?_, by decide, by decide⟩, nb', nc⟩
  unfold finTwo
  rw [L.ns.f2, nb.f2, nc.f2]
  rfl

theorem scat_at {C S m n : Rat} (t : LineT C S m n) {s1 s2 b1 b2 c1 c2 : Nat} (ns : Cm s1 s2 ((n + m) / 2 * C) ((n - m) / 2 * S) (22 / 10000000))
    (nb : Cm b1 b2 ((n - m) / 2 * C) ((n + m) / 2 * S) (27 / 10000000)) (nc : Cm c1 c2 ((n - m) / 2 * C) ((n + m) / 2 * S) (31 / 10000000)) :
    ∃ p1 p2 r1 r2 u1 u2 v1 v2 A1 A2 B1 B2 C1 C2 D1 D2, ScatW s1 s2 b1 b2 c1 c2 s1 s2 p1 p2 r1 r2 u1 u2 v1 v2 A1 A2 B1 B2 C1 C2 D1 D2 ∧
      Cm A1 A2 0 0 (62 / 10000000) ∧ Cm B1 B2 (m * C) (-(m * S)) (209 / 10000000) ∧ Cm C1 C2 (m * C) (-(m * S)) (72 / 10000000) ∧ Cm D1 D2 0 0 (62 / 10000000) := by
  obtain ⟨k22, k23, k60⟩ := p22_num
  have m0 := t.m0
  have m1 := t.m1
  have n0 := t.n0
  have n1 := t.n1
  have inv := t.inv
  have ule := t.u.le
  have uge := t.u.ge
  have mS : Md ((n + m) / 2 * C) ((n - m) / 2 * S) (7 / 6) := md_scale ule (absR_le.2 ⟨by grind, by grind⟩) (absR_le.2 ⟨by grind, by grind⟩)
  have mD : Md ((n - m) / 2 * C) ((n + m) / 2 * S) (7 / 6) := md_scale ule (absR_le.2 ⟨by grind, by grind⟩) (absR_le.2 ⟨by grind, by grind⟩)
  have mQ : Md (n * C) (n * S) (4 / 3) := md_scale ule (absR_le.2 ⟨by grind, by grind⟩) (absR_le.2 ⟨by grind, by grind⟩)
  have mQ2 : Md (2 * (n * C)) (2 * (n * S)) (8 / 3) := ((mQ.add mQ).to (by grind) (by grind)).le (by decide +kernel)
  have mP : Md (m * C) (-(m * S)) 1 := (md_scale ule (a := m) (b := -m) (A := 1) (absR_le.2 ⟨by grind, by grind⟩) (absR_le.2 ⟨by grind, by grind⟩)).to rfl (by grind)
  have m10 : Md 1 0 1 := ⟨by decide +kernel, by decide +kernel⟩
  have m20 : Md 2 0 2 := ⟨by decide +kernel, by decide +kernel⟩
  have mz : Md 0 0 0 := Md.zero
  have one : (1 : Rat) * 1 ≤ 1 * 1 + 0 * 0 := by decide +kernel
  have bigN : (199 / 100 : Rat) * (199 / 100) ≤ 2 * (n * C) * (2 * (n * C)) + 2 * (n * S) * (2 * (n * S)) := by
    have k1 := Rat.mul_nonneg (show 0 ≤ n - 1 by grind) (show 0 ≤ n + 1 by grind)
    have k2 := Rat.mul_nonneg (show 0 ≤ n * n from Rat.mul_nonneg (by grind) (by grind)) (show 0 ≤ (C * C + S * S) - (1 - 1 / 10000000) by grind)
    grind
  -- the determinant
  obtain ⟨p1, p2, hp, np⟩ := Cm.mul ns ns (7 / 6) (7 / 6) (57 / 10000000) mS mS (by decide +kernel) (by decide +kernel) (by rw [k22]; decide +kernel)
  obtain ⟨r1, r2, hr, nr⟩ := Cm.mul nb nc (7 / 6) (7 / 6) (73 / 10000000) mD mD (by decide +kernel) (by decide +kernel) (by rw [k22]; decide +kernel)
  have e1 : (n + m) / 2 * C * ((n + m) / 2 * C) - (n - m) / 2 * S * ((n - m) / 2 * S) - ((n - m) / 2 * C * ((n - m) / 2 * C) - (n + m) / 2 * S * ((n + m) / 2 * S)) = 1 := by grind
  have e2 : (n + m) / 2 * C * ((n - m) / 2 * S) + (n - m) / 2 * S * ((n + m) / 2 * C) - ((n - m) / 2 * C * ((n + m) / 2 * S) + (n + m) / 2 * S * ((n - m) / 2 * C)) = 0 := by grind
  obtain ⟨st1, st2, nt⟩ := Cm.sub np nr (11 / 10) (133 / 10000000) ((m10.to e1.symm e2.symm).le (by decide +kernel)) (by grind) (by decide +kernel) (by rw [k23]; decide +kernel)
  have nt' : Cm (subB p1 r1) (subB p2 r2) 1 0 (133 / 10000000) := nt.to e1 e2
  -- both divided, and multiplied, by 1
  obtain ⟨u1, u2, hu, nu⟩ := Cm.quo nb one_cm (U := (n - m) / 2 * C) (T := (n + m) / 2 * S) (7 / 6) 1 (7 / 6) 1 (36 / 10000000) mD m10 mD (by grind) (by grind) one (by decide +kernel) (by decide +kernel) (by decide +kernel) (by decide +kernel) (by decide +kernel) (by decide +kernel)
  obtain ⟨v1, v2, hv, nv0⟩ := Cm.mul nc one_cm (7 / 6) 1 (36 / 10000000) mD m10 (by decide +kernel) (by decide +kernel) (by rw [k22]; decide +kernel)
  have nv : Cm v1 v2 ((n - m) / 2 * C) ((n + m) / 2 * S) (36 / 10000000) := nv0.to (by grind) (by grind)
  -- the sums
  have ex1 : (n + m) / 2 * C + (n - m) / 2 * C = n * C := by grind
  have ex2 : (n - m) / 2 * S + (n + m) / 2 * S = n * S := by grind
  have ey1 : (n - m) / 2 * C + (n + m) / 2 * C = n * C := by grind
  have ey2 : (n + m) / 2 * S + (n - m) / 2 * S = n * S := by grind
  obtain ⟨x1, x2, nx0⟩ := Cm.add ns nu (3 / 2) (61 / 10000000) ((mQ.to ex1.symm ex2.symm).le (by decide +kernel)) (by grind) (by decide +kernel) (by rw [k23]; decide +kernel)
  obtain ⟨y1, y2, ny0⟩ := Cm.add nv ns (3 / 2) (61 / 10000000) ((mQ.to ey1.symm ey2.symm).le (by decide +kernel)) (by grind) (by decide +kernel) (by rw [k23]; decide +kernel)
  have nx := nx0.to ex1 ex2
  have ny := ny0.to ey1 ey2
  have en : ∀ z : Rat, z + z = 2 * z := by intro z; grind
  have ez : ∀ z : Rat, z - z = 0 := by intro z; grind
  obtain ⟨n1', n2', nn0⟩ := Cm.add nx ny 3 (128 / 10000000) ((mQ2.to (en _).symm (en _).symm).le (by decide +kernel)) (by grind) (by decide +kernel) (by rw [k23]; decide +kernel)
  have nn := nn0.to (en _) (en _)
  obtain ⟨z1, z2, nz0⟩ := Cm.sub nx ny (2 / 100000) (123 / 10000000) ((mz.to (ez _).symm (ez _).symm).le (by decide +kernel)) (by grind) (by decide +kernel) (by rw [k23]; decide +kernel)
  have nz := nz0.to (ez _) (ez _)
  obtain ⟨t1, t2, ntt⟩ := Cm.add nt' nt' 3 (272 / 10000000) ((m20.to (by decide +kernel) (by decide +kernel)).le (by decide +kernel)) (by grind) (by decide +kernel) (by rw [k23]; decide +kernel)
  have ntt' : Cm (addB (subB p1 r1) (subB p1 r1)) (addB (subB p2 r2) (subB p2 r2)) 2 0 (272 / 10000000) := ntt.to (by decide +kernel) (by decide +kernel)
  have eb1 : (n - m) / 2 * C - (n + m) / 2 * C = -(m * C) := by grind
  have eb2 : (n + m) / 2 * S - (n - m) / 2 * S = m * S := by grind
  have ed1 : (n + m) / 2 * C - (n - m) / 2 * C = m * C := by grind
  have ed2 : (n - m) / 2 * S - (n + m) / 2 * S = -(m * S) := by grind
  have mPn : Md (-(m * C)) (m * S) 1 := mP.neg.to rfl (by grind)
  obtain ⟨ba1, ba2, nba⟩ := Cm.sub nu ns (3 / 2) (61 / 10000000) ((mPn.to eb1.symm eb2.symm).le (by decide +kernel)) (by grind) (by decide +kernel) (by rw [k23]; decide +kernel)
  obtain ⟨dc1, dc2, ndc⟩ := Cm.sub ns nv (3 / 2) (61 / 10000000) ((mP.to ed1.symm ed2.symm).le (by decide +kernel)) (by grind) (by decide +kernel) (by rw [k23]; decide +kernel)
  have el1 : (n - m) / 2 * C - (n + m) / 2 * C + ((n + m) / 2 * C - (n - m) / 2 * C) = 0 := by grind
  have el2 : (n + m) / 2 * S - (n - m) / 2 * S + ((n - m) / 2 * S - (n + m) / 2 * S) = 0 := by grind
  obtain ⟨l1, l2, nl0⟩ := Cm.add nba ndc (2 / 100000) (123 / 10000000) ((mz.to el1.symm el2.symm).le (by decide +kernel)) (by grind) (by decide +kernel) (by rw [k23]; decide +kernel)
  have nl := nl0.to el1 el2
  -- the quotients
  have g1 : 2 * (n * C) * (m * C) - 2 * (n * S) * -(m * S) = 2 := by grind
  have g2 : 2 * (n * C) * -(m * S) + 2 * (n * S) * (m * C) = 0 := by grind
  have g3 : ∀ z w : Rat, z * 0 - w * 0 = 0 := by intro z w; grind
  have g4 : ∀ z w : Rat, z * 0 + w * 0 = 0 := by intro z w; grind
  obtain ⟨A1, A2, hA, nA⟩ := Cm.quo nz nn (U := 0) (T := 0) 0 (8 / 3) 0 (199 / 100) (62 / 10000000) mz mQ2 mz (g3 _ _) (g4 _ _) bigN (by decide +kernel) (by decide +kernel) (by decide +kernel) (by decide +kernel) (by decide +kernel) (by decide +kernel)
  obtain ⟨B1, B2, hB, nB⟩ := Cm.quo ntt' nn (U := m * C) (T := -(m * S)) 2 (8 / 3) 1 (199 / 100) (209 / 10000000) m20 mQ2 mP g1 g2 bigN (by decide +kernel) (by decide +kernel) (by decide +kernel) (by decide +kernel) (by decide +kernel) (by decide +kernel)
  obtain ⟨C1, C2, hC, nC⟩ := Cm.quo two_cm nn (U := m * C) (T := -(m * S)) 2 (8 / 3) 1 (199 / 100) (72 / 10000000) m20 mQ2 mP g1 g2 bigN (by decide +kernel) (by decide +kernel) (by decide +kernel) (by decide +kernel) (by decide +kernel) (by decide +kernel)
  obtain ⟨D1, D2, hD, nD⟩ := Cm.quo nl nn (U := 0) (T := 0) 0 (8 / 3) 0 (199 / 100) (62 / 10000000) mz mQ2 mz (g3 _ _) (g4 _ _) bigN (by decide +kernel) (by decide +kernel) (by decide +kernel) (by decide +kernel) (by decide +kernel) (by decide +kernel)
  exact ⟨p1, p2, r1, r2, u1, u2, v1, v2, A1, A2, B1, B2, C1, C2, D1, D2, ⟨⟨ns.f2, nb.f2, nc.f2, ns.f2, hp, hr, np.f2, nr.f2, st1, st2, nt.f2⟩, hu, nu.f2, hv, nv.f2, x1, x2, y1, y2, n1', n2', z1, z2, t1, t2, ba1, ba2, dc1, dc2, l1, l2,
    ⟨nz0.f2, ntt.f2, two_cm.f2, nl0.f2, nn0.f2, nn.nz bigN (by decide +kernel), hA, hB, hC, hD, nA.f2, nB.f2, nC.f2, nD.f2⟩⟩, nA, nB, nC, nD⟩

/-- What is seen through it. -/
theorem thro_at {P R x y : Rat} {A1 A2 B1 B2 C1 C2 D1 D2 gx gy : Nat} (mP : Md P R 1) (nA : Cm A1 A2 0 0 (62 / 10000000)) (nB : Cm B1 B2 P R (209 / 10000000)) (nC : Cm C1 C2 P R (72 / 10000000)) (nD : Cm D1 D2 0 0 (62 / 10000000))
    (ng : Cm gx gy x y 0) (mg : Md x y (108 / 100)) : ∃ p1 p2 r1 r2 s1 s2 q1 q2, ThroW A1 A2 B1 B2 C1 C2 D1 D2 gx gy p1 p2 r1 r2 s1 s2 q1 q2 ∧
      Cm (addB A1 q1) (addB A2 q2) ((P * P - R * R) * x - (P * R + R * P) * y) ((P * P - R * R) * y + (P * R + R * P) * x) (463 / 10000000) := by
  obtain ⟨k22, k23, k60⟩ := p22_num
  have m10 : Md 1 0 1 := ⟨by decide +kernel, by decide +kernel⟩
  have mz : Md 0 0 0 := Md.zero
  have one : (1 : Rat) * 1 ≤ 1 * 1 + 0 * 0 := by decide +kernel
  have mPP : Md (P * P - R * R) (P * R + R * P) 1 := (mP.mul mP).le (by decide +kernel)
  have mG : Md ((P * P - R * R) * x - (P * R + R * P) * y) ((P * P - R * R) * y + (P * R + R * P) * x) (108 / 100) := (mPP.mul mg).le (by decide +kernel)
  obtain ⟨p1, p2, hp, np⟩ := Cm.mul nB nC 1 1 (285 / 10000000) mP mP (by decide +kernel) (by decide +kernel) (by rw [k22]; decide +kernel)
  obtain ⟨r1, r2, hr, nr⟩ := Cm.mul np ng 1 (108 / 100) (312 / 10000000) mPP mg (by decide +kernel) (by decide +kernel) (by rw [k22]; decide +kernel)
  obtain ⟨s1, s2, hs, ns0⟩ := Cm.mul nD ng 0 (108 / 100) (68 / 10000000) mz mg (by decide +kernel) (by decide +kernel) (by rw [k22]; decide +kernel)
  have ns : Cm s1 s2 0 0 (68 / 10000000) := ns0.to (by grind) (by grind)
  obtain ⟨b1, b2, nb0⟩ := Cm.sub one_cm ns (3 / 2) (71 / 10000000) ((m10.to (by decide +kernel) (by decide +kernel)).le (by decide +kernel)) (by grind) (by decide +kernel) (by rw [k23]; decide +kernel)
  have nb : Cm (subB 1065353216 s1) (subB 0 s2) 1 0 (71 / 10000000) := nb0.to (by decide +kernel) (by decide +kernel)
  obtain ⟨q1, q2, hq, nq⟩ := Cm.quo nr nb (U := (P * P - R * R) * x - (P * R + R * P) * y) (T := (P * P - R * R) * y + (P * R + R * P) * x) (108 / 100) 1 (108 / 100) 1 (398 / 10000000) mG m10 mG (by grind) (by grind) one (by decide +kernel) (by decide +kernel) (by decide +kernel) (by decide +kernel) (by decide +kernel) (by decide +kernel)
  have e0 : ∀ z : Rat, 0 + z = z := by intro z; grind
  obtain ⟨a1, a2, na⟩ := Cm.add nA nq (3 / 2) (463 / 10000000) ((mG.to (e0 _).symm (e0 _).symm).le (by decide +kernel)) (by grind) (by decide +kernel) (by rw [k23]; decide +kernel)
  refine ⟨p1, p2, r1, r2, s1, s2, q1, q2, ⟨hp, hr, hs, b1, b2, nr.f2, nb0.f2, nb.nz one (by decide +kernel), hq, nq.f2, a1, a2, na.f2⟩, na.to (e0 _) (e0 _)⟩

end Go.Proofs.Ytdmacimafkiijaa
