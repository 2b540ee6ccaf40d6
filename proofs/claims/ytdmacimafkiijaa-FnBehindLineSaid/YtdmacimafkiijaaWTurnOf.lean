/-
  The walks of FnTurnOf and of FnExactTurnOf: they answer true.
-/
import Derived.Test.YtdmacimafkiijaaTurn
import Derived.Test.YtdmacimafkiijaaDraw3
namespace Go.Proofs.Ytdmacimafkiijaa
open Go.RowKit Fl

def TurnDrawn (k : Int) : Prop := (-20 ≤ k ∧ k < 40) ∨ (9980 ≤ k ∧ k < 10040)

set_option maxHeartbeats 1000000 in
theorem drawTurnOf_any {a : Option Addr} {len cap : Nat} {zs : List Int} {w : World} (h : IsRow .u8 w a len cap zs) :
    Calls Try.prog 19 #[.slice a len cap] w (Got (fun v => ∃ k, v = .int .i64 k ∧ TurnDrawn k) w) := by
  go_enter Try.func19, Try.ntmps19
  go_wp2_with fail
  refine (open_any h).mono ?_
  rintro e w1 ⟨b, a1, len1, cap1, rfl, R1, hb, B1⟩
  go_wp2_with fail
  refine (pick_any R1 (by omega) (by omega) (by omega)).mono ?_
  rintro e w2 ⟨x, m2, p0, p1, rfl, hw2⟩
  have R2 : Rd w2 b a1 len1 cap1 (0 + 1) := by rw [hw2]; exact R1.step m2
  have B2 : Below w.heap.size w w2 := by rw [hw2]; exact below_drawn B1 hb B1.size (step_grown ..)
  clear hw2 R1 B1
  go_wp2_with fail
  refine (pick_any R2 (by omega) (by omega) (by omega)).mono ?_
  rintro e w3 ⟨y, m3, y0, y1, rfl, hw3⟩
  have B3 : Below w.heap.size w w3 := by rw [hw3]; exact below_drawn B2 hb B2.size (step_grown ..)
  clear hw3 R2 B2
  go_wp2_with fail
  go_ret
  refine ⟨_, ⟨_, rfl, ?_⟩, rfl, B3⟩
  unfold TurnDrawn
  omega

/-- What FnTurnOf asks of a turn. -/
def turnCheck (i : Nat) : Bool :=
  FloatKind.f64.format.order (powV (tR i) (tI i)) 4607182409792818153 == some .gt && FloatKind.f64.format.order (powV (tR i) (tI i)) 4607182423303617035 == some .lt &&
  (floatBits .add .f32 (tR i) (tR ((i + 8) % 16))).isSome && (floatBits .add .f32 (tI i) (tI ((i + 8) % 16))).isSome &&
  FloatKind.f32.format.order (addB (tR i) (tR ((i + 8) % 16))) 0 == some .eq && FloatKind.f32.format.order (addB (tI i) (tI ((i + 8) % 16))) 0 == some .eq &&
  FloatKind.f32.format.order (tR ((16 - i) % 16)) (tR i) == some .eq && FloatKind.f32.format.order (tI ((16 - i) % 16)) (Op.negFloat .f32 (tI i)) == some .eq

theorem turnTable : ∀ i : Fin 16, turnCheck i.val = true := by decide +kernel

structure TurnFacts (x y x8 y8 xn yn : Nat) : Prop where
  g1 : (FloatKind.f64.format.order (powV x y) 4607182409792818153 == some .gt) = true
  g2 : (FloatKind.f64.format.order (powV x y) 4607182423303617035 == some .lt) = true
  s1 : ∀ w, fres .add .f32 x x8 w = addB x x8
  s2 : fask .add .f32 x x8 = 0
  s3 : ∀ w, fres .add .f32 y y8 w = addB y y8
  s4 : fask .add .f32 y y8 = 0
  z1 : (FloatKind.f32.format.order (addB x x8) 0 == some .eq) = true
  z2 : (FloatKind.f32.format.order (addB y y8) 0 == some .eq) = true
  n1 : (FloatKind.f32.format.order xn x == some .eq) = true
  n2 : (FloatKind.f32.format.order yn (Op.negFloat .f32 y) == some .eq) = true

theorem some_getD {o : Option Nat} (h : o.isSome = true) : o = some (o.getD 0) := by
  cases o with
  | none => cases h
  | some v => rfl

theorem turn_facts (k : Int) : TurnFacts (tR (ti k)) (tI (ti k)) (tR (ti (k + 8))) (tI (ti (k + 8))) (tR (ti (-k))) (tI (ti (-k))) := by
  have e1 : ti (k + 8) = (ti k + 8) % 16 := by unfold ti; omega
  have e2 : ti (-k) = (16 - ti k) % 16 := by unfold ti; omega
  have h := turnTable ⟨ti k, ti_lt k⟩
  rw [e1, e2]
  simp only [turnCheck, Bool.and_eq_true] at h
  obtain ⟨⟨⟨⟨⟨⟨⟨h1, h2⟩, h3⟩, h4⟩, h5⟩, h6⟩, h7⟩, h8⟩ := h
  exact ⟨h1, h2, fun w => fres_some w (some_getD h3), fask_some (some_getD h3), fun w => fres_some w (some_getD h4), fask_some (some_getD h4), h5, h6, h7, h8⟩

set_option maxHeartbeats 1000000 in
theorem FnTurnOf_walk (a : Option Addr) (len cap : Nat) (zs : List Int) (w : World) (h : IsRow .u8 w a len cap zs) :
    Calls Try.prog 4 #[.slice a len cap] w fun e w' => e = .returned (.bool true) ∧ Below w.heap.size w w' := by
  by_cases hl : (1048576 : Int) < (len : Int)
  · go_enter Try.func4, Try.ntmps4
    go_wp2_with fail
    go_ret
    exact ⟨rfl, Below.refl _ _⟩
  · go_enter Try.func4, Try.ntmps4
    go_wp2_with fail
    refine (drawTurnOf_any h).mono ?_
    rintro e w1 ⟨v, ⟨k, rfl, hk⟩, rfl, B1⟩
    clear h
    unfold TurnDrawn at hk
    cases ho : okT k
    · have hk1 : 9999 < k := by
        have := mt okT_iff.2 (by rw [ho]; decide)
        omega
      have HV := Lib.hid (show turnV k = .complex .f32 0 0 by unfold turnV; rw [ho]; rfl)
      clear ho
      go_wp2_with fail
      refine (implTurn_any _ _).mono ?_
      rw [HV.out]
      rintro e w2 ⟨rfl, C⟩
      have B2 := below_calm B1 B1.size C
      clear C B1
      go_wp2_with fail
      refine (specTurn_any _ _).mono ?_
      rw [HV.out]
      rintro e w3 ⟨rfl, C⟩
      have B3 := below_calm B2 B2.size C
      clear C B2
      go_wp2_with fail
      refine (sameBits_same _ _ _).mono ?_
      rintro e w4 ⟨rfl, n, rfl⟩
      go_wp2_with fail
      refine (alive_any _).mono ?_
      rintro e w4 ⟨rfl, rfl⟩
      go_wp2_with fail
      go_ret
      exact ⟨rfl, below_drewN B3 _⟩
    · obtain ⟨g1, g2, s1, s2, s3, s4, z1, z2, n1, n2⟩ := turn_facts k
      have HV := Lib.hid (show turnV k = .complex .f32 (tR (ti k)) (tI (ti k)) by unfold turnV; rw [ho]; rfl)
      have HN := Lib.hid (show turnV (-k) = .complex .f32 (tR (ti (-k))) (tI (ti (-k))) by
        have := okT_iff.1 ho
        unfold turnV; rw [okT_iff.2 (by omega)]; rfl)
      have k0 := (okT_iff.1 ho).1
      have k1 := (okT_iff.1 ho).2
      have w1' : wrap64 (k + 8) = k + 8 := by unfold wrap64; omega
      have w2' : wrap64 (-k) = -k := by unfold wrap64; omega
      obtain ⟨x8, y8, HT⟩ : ∃ x8 y8, Hid (turnV (k + 8) = .complex .f32 x8 y8 ∧ (k + 8 ≤ 9999 → x8 = tR (ti (k + 8)) ∧ y8 = tI (ti (k + 8)))) := by
        unfold turnV
        cases h8 : okT (k + 8)
        · exact ⟨0, 0, Lib.hid ⟨rfl, fun h => by
            have := mt okT_iff.2 (by rw [h8]; decide)
            omega⟩⟩
        · exact ⟨_, _, Lib.hid ⟨rfl, fun _ => ⟨rfl, rfl⟩⟩⟩
      generalize tR (ti k) = x at *
      generalize tI (ti k) = y at *
      generalize tR (ti (-k)) = xn at *
      generalize tI (ti (-k)) = yn at *
      clear ho hk
      go_wp2_with fail
      refine (implTurn_any _ _).mono ?_
      rw [HV.out]
      rintro e w2 ⟨rfl, C⟩
      have B2 := below_calm B1 B1.size C
      clear C B1
      go_wp2_with fail
      refine (specTurn_any _ _).mono ?_
      rw [HV.out]
      rintro e w3 ⟨rfl, C⟩
      have B3 := below_calm B2 B2.size C
      clear C B2
      go_wp2_with fail
      refine (sameBits_same _ _ _).mono ?_
      rintro e w4 ⟨rfl, n, rfl⟩
      go_wp2_with fail
      refine (implPower_any _ _ _).mono ?_
      rintro e w5 ⟨rfl, n2', rfl⟩
      have B4 := below_drewN B3 (n + n2')
      clear B3
      go_wp2_with fail
      by_cases k8 : k + 8 ≤ 9999
      · obtain ⟨rfl, rfl⟩ := HT.out.2 k8
        refine (implTurn_any _ _).mono ?_
        rw [HT.out.1]
        rintro e w6 ⟨rfl, C⟩
        have B5 := below_calm B4 B4.size C
        clear C B4
        go_wp2_with fail
        refine (implTurn_any _ _).mono ?_
        rw [HN.out]
        rintro e w7 ⟨rfl, C⟩
        have B6 := below_calm B5 B5.size C
        clear C B5
        go_wp2_with fail
        refine (implTurned_any _ _ _).mono ?_
        rintro e w8 ⟨rfl, rfl⟩
        go_wp2_with fail
        go_ret
        exact ⟨rfl, B6⟩
      · have k9 : 9999 < k + 8 := by omega
        refine (implTurn_any _ _).mono ?_
        rw [HT.out.1]
        rintro e w6 ⟨rfl, C⟩
        have B5 := below_calm B4 B4.size C
        clear C B4
        go_wp2_with fail
        refine (implTurn_any _ _).mono ?_
        rw [HN.out]
        rintro e w7 ⟨rfl, C⟩
        have B6 := below_calm B5 B5.size C
        clear C B5
        go_wp2_with fail
        refine (implTurned_any _ _ _).mono ?_
        rintro e w8 ⟨rfl, rfl⟩
        go_wp2_with fail
        go_ret
        exact ⟨rfl, B6⟩

theorem turn_fin : ∀ i : Fin 16, (fin .f32 (tR i.val) && fin .f32 (tI i.val)) = true := by decide +kernel

theorem turn_form (k : Int) : ∃ x y, turnV k = .complex .f32 x y ∧ fin .f32 x = true ∧ fin .f32 y = true := by
  unfold turnV
  cases okT k
  · exact ⟨0, 0, rfl, by decide, by decide⟩
  · have h := turn_fin ⟨ti k, ti_lt k⟩
    simp only [Bool.and_eq_true] at h
    exact ⟨_, _, rfl, h.1, h.2⟩

set_option maxHeartbeats 1000000 in
theorem FnExactTurnOf_walk (k : Int) (_w0 : (Lit.int .i64 k).wf = true) (w : World) :
    Calls Try.prog 10 #[.int .i64 k] w fun e w' => e = .returned (.bool true) ∧ Below w.heap.size w w' := by
  obtain ⟨x, y, hv, fx, fy⟩ := turn_form k
  have H := Lib.hid hv
  have hc := widen_walk fx fy
  clear hv fx fy
  go_enter Try.func10, Try.ntmps10
  go_wp2_with fail
  refine (specTurn_any _ _).mono ?_
  rw [H.out]
  rintro e w1 ⟨rfl, C⟩
  have B1 := below_calm (Below.refl w.heap.size w) (Nat.le_refl _) C
  clear C
  go_wp2_with fail
  refine (implTurn_any _ _).mono ?_
  rw [H.out]
  rintro e w2 ⟨rfl, C⟩
  have B2 := below_calm B1 B1.size C
  clear C B1
  go_wp2_with fail
  refine (sameComplex_same _ _ _).mono ?_
  rintro e w3 ⟨rfl, n, rfl⟩
  go_wp2_with fail
  go_ret
  exact ⟨rfl, below_drewN B2 _⟩

end Go.Proofs.Ytdmacimafkiijaa
