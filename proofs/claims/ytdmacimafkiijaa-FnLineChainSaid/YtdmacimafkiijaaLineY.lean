/-
  Two lines with the same whole impedance, without loss, one behind the other, are near the line with both lengths; half a turn.
-/
import Derived.Test.YtdmacimafkiijaaLineX
import Derived.Test.YtdmacimafkiijaaCalc
namespace Go.Proofs.Ytdmacimafkiijaa
open Go.RowKit Fl
open Ieee

theorem cas_at {N v C S D T : Rat} (N0 : 1 ≤ N) (N1 : N ≤ 100) (hv : N * v = 1) (v0 : 1 / 100 ≤ v) (v1 : v ≤ 1) (c1 : absR C ≤ 1) (s1 : absR S ≤ 1) (d1 : absR D ≤ 1) (t1 : absR T ≤ 1)
    {a b c d e f a' b' c' d' e' f' : Nat} (na : Cm a b C 0 (25 / 10000000)) (nb : Cm c d 0 (N * S) (N * (30 / 10000000))) (nc : Cm e f 0 (v * S) (v * (34 / 10000000)))
    (na' : Cm a' b' D 0 (25 / 10000000)) (nb' : Cm c' d' 0 (N * T) (N * (30 / 10000000))) (nc' : Cm e' f' 0 (v * T) (v * (34 / 10000000))) :
    ∃ x1 y1 x2 y2 x3 y3 x4 y4 x5 y5 x6 y6 x7 y7 x8 y8, CasW a b c d e f a b a' b' c' d' e' f' a' b' x1 y1 x2 y2 x3 y3 x4 y4 x5 y5 x6 y6 x7 y7 x8 y8 ∧
      Cm (addB x1 x2) (addB y1 y2) (C * D - S * T) 0 (135 / 10000000) ∧ Cm (addB x3 x4) (addB y3 y4) 0 (N * (C * T + S * D)) (N * (135 / 10000000)) ∧
      Cm (addB x5 x6) (addB y5 y6) 0 (v * (C * T + S * D)) (v * (135 / 10000000)) ∧ Cm (addB x7 x8) (addB y7 y8) (C * D - S * T) 0 (135 / 10000000) := by
  obtain ⟨k22, k23, k60⟩ := p22_num
  have r1 : ∀ {x : Rat}, absR x ≤ 1 → Md x 0 1 := fun {x} h => ⟨by decide +kernel, by
    have := (absR_le.1 (ab_mul h h)).1
    grind⟩
  have i1 : ∀ {x k : Rat}, absR x ≤ 1 → 0 ≤ k → Md 0 (k * x) k := fun {x k} h hk => ((((show Md k 0 k from ⟨hk, by grind⟩).mul (show Md 0 x 1 from ⟨by decide +kernel, by
    have := (absR_le.1 (ab_mul h h)).1
    grind⟩)).to (by grind) (by grind)).le (by grind))
  have mC := r1 c1
  have mD := r1 d1
  have hN : 0 ≤ N := by grind
  have hv0 : 0 ≤ v := by grind
  have mNS := i1 s1 hN
  have mNT := i1 t1 hN
  have mvS := i1 s1 hv0
  have mvT := i1 t1 hv0
  have sc : ∀ x y : Rat, N * x * (v * y) = x * y := by
    intro x y
    have : N * x * (v * y) = (N * v) * (x * y) := by grind
    rw [this, hv]; grind
  have eNv : (N + N * (30 / 10000000)) * (v + v * (34 / 10000000)) = (1 + 30 / 10000000) * (1 + 34 / 10000000) := by
    have : (N + N * (30 / 10000000)) * (v + v * (34 / 10000000)) = (N * (1 + 30 / 10000000)) * (v * (1 + 34 / 10000000)) := by grind
    rw [this, sc]
  have bud : N * (v * (34 / 10000000)) + v * (N * (30 / 10000000)) + N * (30 / 10000000) * (v * (34 / 10000000)) + 3 / 2 * ((1 + 30 / 10000000) * (1 + 34 / 10000000) * (1 / 4194304)) ≤ 68 / 10000000 := by
    have h1 : N * (v * (34 / 10000000)) = 34 / 10000000 := by
      have : N * (v * (34 / 10000000)) = (N * v) * (34 / 10000000) := by grind
      rw [this, hv]; grind
    have h2 : v * (N * (30 / 10000000)) = 30 / 10000000 := by
      have : v * (N * (30 / 10000000)) = (N * v) * (30 / 10000000) := by grind
      rw [this, hv]; grind
    rw [h1, h2, sc]; decide +kernel
  obtain ⟨x1, y1, h1, n1⟩ := Cm.mul na na' 1 1 (54 / 10000000) mC mD (by decide +kernel) (by decide +kernel) (by rw [k22]; decide +kernel)
  obtain ⟨x2, y2, h2, n2⟩ := Cm.mul nb nc' N v (68 / 10000000) mNS mvT (by rw [eNv]; decide +kernel) (by rw [eNv]; decide +kernel) (by rw [eNv, k22]; exact bud)
  obtain ⟨x3, y3, h3, n3⟩ := Cm.mul na nb' 1 N (N * (60 / 10000000)) mC mNT (by grind) (by grind) (by rw [k22]; grind)
  obtain ⟨x4, y4, h4, n4⟩ := Cm.mul nb na' N 1 (N * (60 / 10000000)) mNS mD (by grind) (by grind) (by rw [k22]; grind)
  obtain ⟨x5, y5, h5, n5⟩ := Cm.mul nc na' v 1 (v * (64 / 10000000)) mvS mD (by grind) (by grind) (by rw [k22]; grind)
  obtain ⟨x6, y6, h6, n6⟩ := Cm.mul na nc' 1 v (v * (64 / 10000000)) mC mvT (by grind) (by grind) (by rw [k22]; grind)
  have eNv' : (v + v * (34 / 10000000)) * (N + N * (30 / 10000000)) = (1 + 30 / 10000000) * (1 + 34 / 10000000) := by rw [Rat.mul_comm]; exact eNv
  obtain ⟨x7, y7, h7, n7⟩ := Cm.mul nc nb' v N (68 / 10000000) mvS mNT (by rw [eNv']; decide +kernel) (by rw [eNv']; decide +kernel) (by rw [eNv', k22]; grind)
  obtain ⟨x8, y8, h8, n8⟩ := Cm.mul na na' 1 1 (54 / 10000000) mC mD (by decide +kernel) (by decide +kernel) (by rw [k22]; decide +kernel)
  have st := sc S T
  have st' : v * S * (N * T) = S * T := by
    have : v * S * (N * T) = N * S * (v * T) := by grind
    rw [this, st]
  have mCD : Md (C * D) 0 1 := ((mC.mul mD).to (by grind) (by grind)).le (by decide +kernel)
  have mST : Md (-(S * T)) 0 1 := (((r1 s1).mul (r1 t1)).neg.to (by grind) (by grind)).le (by decide +kernel)
  have mA : Md (C * D - S * T) 0 2 := ((mCD.add mST).to (by grind) (by grind)).le (by decide +kernel)
  have iK : ∀ {k : Rat}, 0 ≤ k → Md 0 (k * (C * T + S * D)) (k * 2) := fun {k} hk => by
    have a1 := (mC.mul (r1 t1)).to (z := C * T) (w := 0) (by grind) (by grind)
    have a2 := ((r1 s1).mul mD).to (z := S * D) (w := 0) (by grind) (by grind)
    have a3 := (show Md 0 k k from ⟨hk, by grind⟩).mul (a1.add a2)
    exact (a3.to (by grind) (by grind)).le (by grind)
  have n1' := n1.to (Z := C * D) (W := 0) (by grind) (by grind)
  have n2' := n2.to (Z := -(S * T)) (W := 0) (by rw [st]; grind) (by grind)
  have n3' := n3.to (Z := 0) (W := N * (C * T)) (by grind) (by grind)
  have n4' := n4.to (Z := 0) (W := N * (S * D)) (by grind) (by grind)
  have n5' := n5.to (Z := 0) (W := v * (S * D)) (by grind) (by grind)
  have n6' := n6.to (Z := 0) (W := v * (C * T)) (by grind) (by grind)
  have n7' := n7.to (Z := -(S * T)) (W := 0) (by rw [st']; grind) (by grind)
  have n8' := n8.to (Z := C * D) (W := 0) (by grind) (by grind)
  obtain ⟨g1, g2, o1⟩ := Cm.add n1' n2' (5 / 2) (135 / 10000000) ((mA.to (by grind) (by grind)).le (by decide +kernel)) (by grind) (by decide +kernel) (by rw [k23]; decide +kernel)
  obtain ⟨g3, g4, o2⟩ := Cm.add n3' n4' (N * (5 / 2)) (N * (135 / 10000000)) (((iK hN).to (by grind) (by grind)).le (by grind)) (by grind) (by grind) (by rw [k23]; grind)
  obtain ⟨g5, g6, o3⟩ := Cm.add n5' n6' (v * (5 / 2)) (v * (135 / 10000000)) (((iK hv0).to (by grind) (by grind)).le (by grind)) (by grind) (by grind) (by rw [k23]; grind)
  obtain ⟨g7, g8, o4⟩ := Cm.add n7' n8' (5 / 2) (135 / 10000000) ((mA.to (by grind) (by grind)).le (by decide +kernel)) (by grind) (by decide +kernel) (by rw [k23]; decide +kernel)
  refine ⟨x1, y1, x2, y2, x3, y3, x4, y4, x5, y5, x6, y6, x7, y7, x8, y8, ⟨h1, h2, h3, h4, h5, h6, h7, h8, g1, g2, g3, g4, g5, g6, g7, g8, ?_⟩, o1.to (by grind) (by grind), o2.to (by grind) (by grind), o3.to (by grind) (by grind), o4.to (by grind) (by grind)⟩
  unfold finTwo
  rw [o1.f2, o2.f2, o3.f2, o4.f2]
  rfl

/-- Turns add up. -/
theorem add_table : ∀ i j : Fin 16, (decide (absR (V FloatKind.f32.format (tR i.val) * V FloatKind.f32.format (tR j.val) - V FloatKind.f32.format (tI i.val) * V FloatKind.f32.format (tI j.val) - V FloatKind.f32.format (tR ((i.val + j.val) % 16))) ≤ 1 / 1000000) &&
    decide (absR (V FloatKind.f32.format (tR i.val) * V FloatKind.f32.format (tI j.val) + V FloatKind.f32.format (tI i.val) * V FloatKind.f32.format (tR j.val) - V FloatKind.f32.format (tI ((i.val + j.val) % 16))) ≤ 1 / 1000000)) = true := by decide +kernel

theorem near_of2 {a c : Nat} (ha : fin .f32 a = true) (hc : fin .f32 c = true) (h : absR (V FloatKind.f32.format a - V FloatKind.f32.format c) ≤ p2 (-7)) : nearP a c 4576918229304087675 = true := by
  obtain ⟨_, _, _, d4⟩ := dW_spec ha hc
  obtain ⟨h1, h2⟩ := absR_le.1 h
  have hb := absR_le.2 (rndV_between d4 (c := p2 (-7)) ⟨1, -7, by decide, by decide, by simp⟩ h1 h2)
  have hd : p2 (-7) ≤ V FloatKind.f64.format 4576918229304087675 := by decide +kernel
  unfold nearP
  simp only [decide_eq_true_eq]
  grind

theorem Cm.near2 {a b c d : Nat} {X Y Z W ε δ η : Rat} (h1 : Cm a b X Y ε) (h2 : Cm c d Z W δ) (hm : Md (X - Z) (Y - W) η) (h : ε + δ + η ≤ p2 (-7)) : nearB a b c d 4576918229304087675 = true := by
  have m := (((h1.2.2.add h2.2.2.neg).add hm).to (z := V FloatKind.f32.format a - V FloatKind.f32.format c) (w := V FloatKind.f32.format b - V FloatKind.f32.format d) (by grind) (by grind)).le h
  unfold nearB
  rw [h1.1, h1.2.1, h2.1, h2.2.1, near_of2 h1.1 h2.1 m.fst, near_of2 h1.2.1 h2.2.1 m.snd]
  rfl

/-! Half a turn. -/

theorem half_line_words : pInv 3212836864 2147483648 = some (3212836864, 2147483648) ∧ addB 3212836864 3212836864 = 3221225472 ∧ addB 2147483648 2147483648 = 2147483648 ∧ subB 3212836864 3212836864 = 0 ∧ subB 2147483648 2147483648 = 0 ∧
    pQuo 3221225472 2147483648 1073741824 0 = some (3212836864, 0) ∧ pQuo 0 0 1073741824 0 = some (0, 0) := ⟨by decide +kernel, by decide +kernel, by decide +kernel, by decide +kernel, by decide +kernel, by decide +kernel, by decide +kernel⟩

theorem half_run0 : Runs 8 0 3212836864 2147483648 :=
  ⟨run_pMul (by decide +kernel) (by decide +kernel) (by decide +kernel) (by decide +kernel) (show pMul (milliB (1000 - 0)) 0 (tR 8) (Op.negFloat .f32 (tI 8)) = some (3212836864, 2147483648) by decide +kernel), by decide, by decide, by decide +kernel, by decide +kernel⟩

theorem half_line : Line 3212836864 2147483648 3212836864 2147483648 3212836864 0 0 0 (-1) 0 1 1 := by
  obtain ⟨w1, w2, w3, w4, w5, w6, w7⟩ := half_line_words
  have v1 : V FloatKind.f32.format 3212836864 = -1 := by decide +kernel
  have v2 : V FloatKind.f32.format 2147483648 = 0 := by decide +kernel
  have v3 : V FloatKind.f32.format 0 = 0 := by decide +kernel
  have ao : ∀ x y z : Nat, floatBits .add .f32 x y = some z → AddOk x y := fun x y z h => by
    have e : addB x y = z := by unfold addB; rw [h]; rfl
    rw [← e] at h
    exact ⟨fun w => fres_some w h, fask_some h⟩
  have so : ∀ x y z : Nat, floatBits .sub .f32 x y = some z → SubOk x y := fun x y z h => by
    have e : subB x y = z := by unfold subB; rw [h]; rfl
    rw [← e] at h
    exact ⟨fun w => fres_some w h, fask_some h⟩
  refine ⟨run_pInv (by decide) (by decide) w1, ao _ _ 3221225472 (by decide +kernel), ao _ _ 2147483648 (by decide +kernel), so _ _ 0 (by decide +kernel), so _ _ 0 (by decide +kernel), ?_, ?_, ?_, ?_, ?_⟩
  · rw [w2, w3]; exact run_pQuo (by decide) (by decide) (by decide) (by decide) w6
  · rw [w4, w5]; exact run_pQuo (by decide) (by decide) (by decide) (by decide) w7
  · exact (Cm.of (by decide) (by decide) (v1.trans (by decide +kernel)) (v2.trans (by decide +kernel))).le (by decide +kernel)
  · exact (Cm.of (by decide) (by decide) (v1.trans (by decide +kernel)) (v3.trans (by decide +kernel))).le (by decide +kernel)
  · exact (Cm.of (by decide) (by decide) (v3.trans (by decide +kernel)) (v3.trans (by decide +kernel))).le (by decide +kernel)

/-- A number times 0. -/
theorem mul_zero_at {x y : Nat} (fx : fin .f32 x = true) (fy : fin .f32 y = true) : ∃ e f, MulW x y 0 0 e f ∧ fin .f32 e = true ∧ fin .f32 f = true ∧ V FloatKind.f32.format e = 0 ∧ V FloatKind.f32.format f = 0 := by
  have z : V FloatKind.f32.format 0 = 0 := by decide +kernel
  have z0 : fin .f32 0 = true := by decide
  obtain ⟨p, q, r, p1, q1, r1, r2, r3⟩ := dot64_sub (c := 0) (d := 0) fx fy z0 z0
  obtain ⟨p', q', u, p1', q1', u1, u2, u3⟩ := dot64_add (c := 0) (d := 0) fx fy z0 z0
  have e1 : V FloatKind.f32.format x * V FloatKind.f32.format 0 - V FloatKind.f32.format y * V FloatKind.f32.format 0 = V FloatKind.f32.format 0 := by rw [z]; grind
  have e2 : V FloatKind.f32.format x * V FloatKind.f32.format 0 + V FloatKind.f32.format y * V FloatKind.f32.format 0 = V FloatKind.f32.format 0 := by rw [z]; grind
  rw [e1] at r3
  rw [e2] at u3
  have ht : absR (V FloatKind.f32.format 0) ≤ top32 := by decide +kernel
  obtain ⟨e, k1, k2, k3⟩ := narrow_same r2 r3 ht
  obtain ⟨f, l1, l2, l3⟩ := narrow_same u2 u3 ht
  obtain rfl := some_of p1' p1
  obtain rfl := some_of q1' q1
  refine ⟨e, f, fun P t w => run_mul64 P t fx fy z0 z0 ?_ k1 l1 w, k2, l2, k3.trans z, l3.trans z⟩
  unfold cMulBits
  rw [p1, q1]
  simp [r1, u1]

/-- 0 divided by a number. -/
theorem zero_quo_at {x y : Nat} (fx : fin .f32 x = true) (fy : fin .f32 y = true) (h : V FloatKind.f32.format x ≠ 0) : ∃ e f, QuoW 0 0 x y e f ∧ fin .f32 e = true ∧ fin .f32 f = true ∧ V FloatKind.f32.format e = 0 ∧ V FloatKind.f32.format f = 0 := by
  have z : absR (V FloatKind.f32.format 0) ≤ 0 := by decide +kernel
  obtain ⟨e, f, hq, he, hf, b1, b2⟩ := quo64_fin (A := 0) (B := 0) (S := 0) (K := 0) (a := 0) (b := 0) (by decide) (by decide) fx fy (has_zero _) (by decide +kernel) (has_zero _) (by decide +kernel) (has_zero _) (by decide +kernel) (by decide +kernel) z z (.inl h) (has_zero _) (has_zero _) (by decide +kernel) (by decide +kernel) (.inl (by grind))
  have key : ∀ a : Rat, absR a ≤ 0 → a = 0 := fun a h => by
    obtain ⟨h1, h2⟩ := absR_le.1 h
    grind
  exact ⟨e, f, hq, he, hf, key _ b1, key _ b2⟩

/-- The matrix of half a turn. -/
theorem half_at {x y : Nat} (fx : fin .f32 x = true) (fy : fin .f32 y = true) (h : V FloatKind.f32.format x ≠ 0) : ∃ b1 b2 c1 c2, LineZ x y 3212836864 0 0 0 b1 b2 c1 c2 ∧
    ((FloatKind.f32.format.order b1 0 == some .eq) = true ∧ (FloatKind.f32.format.order b2 0 == some .eq) = true ∧ (FloatKind.f32.format.order c1 0 == some .eq) = true ∧ (FloatKind.f32.format.order c2 0 == some .eq) = true) := by
  obtain ⟨b1, b2, hb, fb1, fb2, vb1, vb2⟩ := mul_zero_at fx fy
  obtain ⟨c1, c2, hc, fc1, fc2, vc1, vc2⟩ := zero_quo_at fx fy h
  have z : ∀ {a : Nat}, fin .f32 a = true → V FloatKind.f32.format a = 0 → (FloatKind.f32.format.order a 0 == some .eq) = true := fun ha hv => by
    rw [(order_spec _ (fin_num.1 ha) zero32.1).2.1.2 (by rw [hv, zero32.2])]; rfl
  refine ⟨b1, b2, c1, c2, ⟨hb, hc, ?_, by rw [fx, fy]; rfl, ?_⟩, z fb1 vb1, z fb2 vb2, z fc1 vc1, z fc2 vc2⟩
  · unfold finTwo
    rw [fb1, fb2, fc1, fc2]
    decide
  · have h1 : FloatKind.f32.format.order x 0 ≠ some .eq := by
      intro e
      have := (order_spec _ (fin_num.1 fx) zero32.1).2.1.1 e
      rw [zero32.2] at this
      exact h this
    have : (FloatKind.f32.format.order x 0 == some .eq) = false := by simpa using h1
    rw [this]; rfl

end Go.Proofs.Ytdmacimafkiijaa
