/-
  What runs along a line, in the program and in the model.
-/
import Derived.Test.YtdmacimafkiijaaWTurnOf
import Derived.Test.YtdmacimafkiijaaRefC
namespace Go.Proofs.Ytdmacimafkiijaa
open Go.RowKit Fl

theorem m_table : ∀ l : Fin 501, (decide (V FloatKind.f32.format (milliB (1000 - (l.val : Int))) ≤ 1) && decide ((1 : Rat) / 2 ≤ V FloatKind.f32.format (milliB (1000 - (l.val : Int))))) = true := by decide +kernel

theorem m_facts {l : Int} (h0 : 0 ≤ l) (h1 : l ≤ 500) : fin .f32 (milliB (1000 - l)) = true ∧ V FloatKind.f32.format (milliB (1000 - l)) ≤ 1 ∧ (1 : Rat) / 2 ≤ V FloatKind.f32.format (milliB (1000 - l)) := by
  have h := m_table ⟨l.toNat, by omega⟩
  have e : ((l.toNat : Nat) : Int) = l := by omega
  simp only [e, Bool.and_eq_true, decide_eq_true_eq] at h
  exact ⟨fin_milli (by omega) (by omega), h.1, h.2⟩

theorem turn_unit : ∀ i : Fin 16, (decide (V FloatKind.f32.format (tR i.val) * V FloatKind.f32.format (tR i.val) + V FloatKind.f32.format (tI i.val) * V FloatKind.f32.format (tI i.val) ≤ 1) && decide (1 - 1 / 10000000 ≤ V FloatKind.f32.format (tR i.val) * V FloatKind.f32.format (tR i.val) + V FloatKind.f32.format (tI i.val) * V FloatKind.f32.format (tI i.val)) &&
    decide (absR (V FloatKind.f32.format (tR i.val)) ≤ 1) && decide (absR (V FloatKind.f32.format (tI i.val)) ≤ 1) && decide (absR (V FloatKind.f32.format (tR i.val)) + absR (V FloatKind.f32.format (tI i.val)) ≤ 3 / 2) && decide ((7 : Rat) / 10 ≤ absR (V FloatKind.f32.format (tR i.val)) ∨ (7 : Rat) / 10 ≤ absR (V FloatKind.f32.format (tI i.val)))) = true := by decide +kernel

/-- Facts on a turn. -/
structure Unit (C S : Rat) : Prop where
  le : C * C + S * S ≤ 1
  ge : 1 - 1 / 10000000 ≤ C * C + S * S
  c1 : absR C ≤ 1
  s1 : absR S ≤ 1
  cs : absR C + absR S ≤ 3 / 2
  big : (7 : Rat) / 10 ≤ absR C ∨ (7 : Rat) / 10 ≤ absR S
theorem unit_of {i : Nat} (h : i < 16) : fin .f32 (tR i) = true ∧ fin .f32 (tI i) = true ∧ tI i < 2 ^ 32 ∧ Unit (V FloatKind.f32.format (tR i)) (V FloatKind.f32.format (tI i)) := by
  have h1 := turn_fin ⟨i, h⟩
  have h2 := turn_unit ⟨i, h⟩
  have h3 : ∀ i : Fin 16, tI i.val < 2 ^ 32 := by decide +kernel
  have h4 := h3 ⟨i, h⟩
  simp only [Bool.and_eq_true, decide_eq_true_eq] at h1 h2
  obtain ⟨⟨⟨⟨⟨a, b⟩, c⟩, d⟩, e⟩, g⟩ := h2
  exact ⟨h1.1, h1.2, h4, a, b, c, d, e, g⟩

/-- The words of what runs along a line. -/
structure Runs (i : Nat) (l : Int) (e f : Nat) : Prop where
  mul : ∀ (P : Program) (t : TypeId) (w : World), (binOp .mul t (.complex .f32 (milliB (1000 - l)) 0) (.complex .f32 (tR i) (Op.negFloat .f32 (tI i)))).run P w = .ok (.complex .f32 e f) w
  fe : fin .f32 e = true
  ff : fin .f32 f = true
  ne : absR (V FloatKind.f32.format e - V FloatKind.f32.format (milliB (1000 - l)) * V FloatKind.f32.format (tR i)) ≤ p2 (-22)
  nf : absR (V FloatKind.f32.format f - -(V FloatKind.f32.format (milliB (1000 - l)) * V FloatKind.f32.format (tI i))) ≤ p2 (-22)

theorem runs_at {i : Nat} (hi : i < 16) {l : Int} (h0 : 0 ≤ l) (h1 : l ≤ 500) : ∃ e f, Runs i l e f := by
  obtain ⟨fm, m1, m2⟩ := m_facts h0 h1
  obtain ⟨fr, fi, i32, u⟩ := unit_of hi
  have fn : fin .f32 (Op.negFloat .f32 (tI i)) = true := by rw [fin_neg i32]; exact fi
  have vn := (neg_spec .f32 (show tI i < 2 ^ FloatKind.f32.format.width from i32) (fin_num.1 fi)).2
  obtain ⟨z1, z2⟩ : fin .f32 0 = true ∧ V FloatKind.f32.format 0 = 0 := ⟨by decide, by decide +kernel⟩
  have hm : absR (V FloatKind.f32.format (milliB (1000 - l))) ≤ 1 := absR_le.2 ⟨m1, by grind⟩
  have a1 := ab_mul hm u.c1
  have a2 := ab_mul hm u.s1
  have e1 : V FloatKind.f32.format (milliB (1000 - l)) * V FloatKind.f32.format (tR i) - V FloatKind.f32.format 0 * V FloatKind.f32.format (Op.negFloat .f32 (tI i)) = V FloatKind.f32.format (milliB (1000 - l)) * V FloatKind.f32.format (tR i) := by rw [z2]; grind
  have e2 : V FloatKind.f32.format (milliB (1000 - l)) * V FloatKind.f32.format (Op.negFloat .f32 (tI i)) + V FloatKind.f32.format 0 * V FloatKind.f32.format (tR i) = -(V FloatKind.f32.format (milliB (1000 - l)) * V FloatKind.f32.format (tI i)) := by rw [z2, vn]; grind
  obtain ⟨e, f, hx, he, hf, ne, nf, _, _⟩ := cmul_gen (A := 1) fm z1 fr fn (by decide +kernel) (by decide +kernel) (by rw [e1]; exact ab_le a1 (by grind)) (by rw [e2]; exact ab_neg (ab_le a2 (by grind)))
  rw [e1] at ne
  rw [e2] at nf
  exact ⟨e, f, hx, he, hf, ab_le ne (by grind), ab_le nf (by grind)⟩

def okR (k l : Int) : Bool := (decide (0 ≤ k) && decide (k ≤ 9999)) && (decide (0 ≤ l) && decide (l ≤ 500))
theorem okR_iff {k l : Int} : okR k l = true ↔ (0 ≤ k ∧ k ≤ 9999) ∧ (0 ≤ l ∧ l ≤ 500) := by unfold okR; simp

theorem milli_l {l : Int} (h0 : 0 ≤ l) (h1 : l ≤ 500) : milliV (1000 - l) 0 = .complex .f32 (milliB (1000 - l)) 0 ∧ wrap64 (1000 - l) = 1000 - l := by
  have e2 : milliB 0 = 0 := by decide +kernel
  refine ⟨?_, by unfold wrap64; omega⟩
  unfold milliV
  rw [okM_iff.2 ⟨by omega, by omega⟩, e2]
  rfl

set_option maxHeartbeats 1000000 in
theorem specRuns_no {k l : Int} (h : okR k l = false) (w : World) :
    Calls Try.prog 26 #[.int .i64 k, .int .i64 l] w fun x w' => x = .returned (numV false 0 0) ∧ Calm w w' := by
  unfold okR at h
  cases h1 : (decide (0 ≤ k) && decide (k ≤ 9999))
  · have H1 := Lib.hid h1
    clear h h1
    go_enter Try.func26, Try.ntmps26
    go_wp2_with fail
    refine (l1In_any _ _ _ _).mono ?_
    rw [H1.out]
    rintro e w1 ⟨rfl, rfl⟩
    go_wp2_with fail
    go_ret2
    exact ⟨rfl, grown_refl _ _⟩
  · have H1 := Lib.hid h1
    rw [h1, Bool.true_and] at h
    have H2 := Lib.hid h
    clear h h1
    go_enter Try.func26, Try.ntmps26
    go_wp2_with fail
    refine (l1In_any _ _ _ _).mono ?_
    rw [H1.out]
    rintro e w1 ⟨rfl, rfl⟩
    go_wp2_with fail
    refine (l1In_any _ _ _ _).mono ?_
    rw [H2.out]
    rintro e w1 ⟨rfl, rfl⟩
    go_wp2_with fail
    go_ret2
    exact ⟨rfl, grown_refl _ _⟩

set_option maxHeartbeats 1000000 in
theorem specRuns_of {k l : Int} {e f : Nat} (h : okR k l = true) (hr : Runs (ti k) l e f) (w : World) :
    Calls Try.prog 26 #[.int .i64 k, .int .i64 l] w fun x w' => x = .returned (numV true e f) ∧ Calm w w' := by
  obtain ⟨⟨k0, k1⟩, l0, l1⟩ := okR_iff.1 h
  obtain ⟨hz, hw⟩ := milli_l l0 l1
  have HZ := Lib.hid hz
  have H1 := Lib.hid (show (decide (0 ≤ k) && decide (k ≤ 9999)) = true by simp; omega)
  have H2 := Lib.hid (show (decide (0 ≤ l) && decide (l ≤ 500)) = true by simp; omega)
  have HV := Lib.hid (show turnV k = .complex .f32 (tR (ti k)) (tI (ti k)) by unfold turnV; rw [okT_iff.2 (by omega)]; rfl)
  have hm := hr.mul
  generalize tR (ti k) = x at *
  generalize tI (ti k) = y at *
  clear hr hz h
  go_enter Try.func26, Try.ntmps26
  go_wp2_with fail
  refine (l1In_any _ _ _ _).mono ?_
  rw [H1.out]
  rintro z w1 ⟨rfl, rfl⟩
  go_wp2_with fail
  refine (l1In_any _ _ _ _).mono ?_
  rw [H2.out]
  rintro z w1 ⟨rfl, rfl⟩
  go_wp2_with fail
  refine (specMilli_any _ _ _).mono ?_
  rw [HZ.out]
  rintro z w1 ⟨rfl, rfl⟩
  go_wp2_with fail
  refine (specTurn_any _ _).mono ?_
  rw [HV.out]
  rintro z w1 ⟨rfl, C⟩
  go_wp2_with fail
  refine (specTurned_any _ _ _).mono ?_
  rintro z w2 ⟨rfl, rfl⟩
  go_wp2_with fail
  go_ret2
  exact ⟨rfl, C⟩

set_option maxHeartbeats 1000000 in
theorem implRuns_no {k l : Int} (h : okR k l = false) (w : World) :
    Calls Try.prog 25 #[.int .i64 k, .int .i64 l] w fun x w' => x = .returned (numV false 0 0) ∧ Calm w w' := by
  have hk : ¬((0 ≤ k ∧ k ≤ 9999) ∧ (0 ≤ l ∧ l ≤ 500)) := fun g => by rw [okR_iff.2 g] at h; cases h
  clear h
  go_enter Try.func25, Try.ntmps25
  go_wp2_with fail
  all_goals
    first
    | (go_ret2; exact ⟨rfl, grown_refl _ _⟩)
    | (exfalso; omega)

set_option maxHeartbeats 1000000 in
theorem implRuns_of {k l : Int} {e f : Nat} (h : okR k l = true) (hr : Runs (ti k) l e f) (w : World) :
    Calls Try.prog 25 #[.int .i64 k, .int .i64 l] w fun x w' => x = .returned (numV true e f) ∧ Calm w w' := by
  obtain ⟨⟨k0, k1⟩, l0, l1⟩ := okR_iff.1 h
  obtain ⟨hz, hw⟩ := milli_l l0 l1
  have HZ := Lib.hid hz
  have HV := Lib.hid (show turnV k = .complex .f32 (tR (ti k)) (tI (ti k)) by unfold turnV; rw [okT_iff.2 (by omega)]; rfl)
  obtain ⟨fm, _, _⟩ := m_facts l0 l1
  obtain ⟨fr, fi, i32, _⟩ := unit_of (ti_lt k)
  have fn : fin .f32 (Op.negFloat .f32 (tI (ti k))) = true := by rw [fin_neg i32]; exact fi
  have HP : Hid (∀ w : World, Calls Try.prog 58 #[.complex .f32 (milliB (1000 - l)) 0, .complex .f32 (tR (ti k)) (Op.negFloat .f32 (tI (ti k)))] w fun z w' => z = .returned (.tuple #[.complex .f32 e f, .bool true]) ∧ ∃ n, w' = w.drewN n) := Lib.hid (implProduct_of fm (by decide) fr fn hr.fe hr.ff hr.mul)
  generalize tR (ti k) = x at *
  generalize tI (ti k) = y at *
  clear hr hz h fm fr fi i32 fn
  go_enter Try.func25, Try.ntmps25
  go_wp2_with fail
  refine (implMilli_any _ _ _).mono ?_
  rw [HZ.out]
  rintro z w1 ⟨rfl, rfl⟩
  go_wp2_with fail
  refine (implTurn_any _ _).mono ?_
  rw [HV.out]
  rintro z w1 ⟨rfl, C⟩
  go_wp2_with fail
  refine (implTurned_any _ _ _).mono ?_
  rintro z w2 ⟨rfl, rfl⟩
  go_wp2_with fail
  refine (HP.out _).mono ?_
  rintro z w3 ⟨rfl, n, rfl⟩
  go_wp2_with fail
  go_ret2
  exact ⟨rfl, grown_drewN C _⟩

end Go.Proofs.Ytdmacimafkiijaa
