/-
  Circles of reactances in the model; the draws of the circles' laws; what they come to at what is drawn, by table.
-/
import Derived.Test.YtdmacimafkiijaaCir
import Derived.Test.YtdmacimafkiijaaDraw6
namespace Go.Proofs.Ytdmacimafkiijaa
open Go.RowKit Fl

/-- 1 divided by the reactance, and its absolute value. -/
def tN (m : Int) : Nat := quoB 1065353216 (milliB m)
def tA (m : Int) : Nat := if FloatKind.f32.format.order (tN m) 0 == some .lt then Op.negFloat .f32 (tN m) else tN m
def reaV (m : Int) : Value := if okM m && decide (m ≠ 0) then .tuple #[cirV 1065353216 (tN m) (tA m), .bool true] else .tuple #[cirV 0 0 0, .bool false]

theorem milli_big {m : Int} (h : okM m = true) (h0 : m ≠ 0) : fin .f32 (milliB m) = true ∧ (1 : Rat) / 2000 ≤ absR (V FloatKind.f32.format (milliB m)) := by
  obtain ⟨h1, h2⟩ := okM_iff.1 h
  refine ⟨fin_milli h1 h2, ?_⟩
  have hk := kOf_milli h1 h2
  have hs := (kOf_spec (milliB m)).1
  rw [hk] at hs
  have hc : (1 : Rat) ≤ ((m.natAbs : Nat) : Rat) := by
    have : (1 : Nat) ≤ m.natAbs := by omega
    exact_mod_cast this
  grind

theorem tN_spec {m : Int} (h : okM m = true) (h0 : m ≠ 0) : floatBits .quo .f32 1065353216 (milliB m) = some (tN m) ∧ fin .f32 (tN m) = true := by
  obtain ⟨f, hb⟩ := milli_big h h0
  obtain ⟨o1, o2⟩ := one32_spec
  have hc := absR_cases (V FloatKind.f32.format (milliB m))
  have hz : V FloatKind.f32.format (milliB m) ≠ 0 := by grind
  have l := lim32.2
  obtain ⟨X, x1, x2, x3⟩ := div_bound (N := 1) (K := 2000) hz (by
    have : absR 1 = 1 := by decide +kernel
    rw [this]; grind)
  obtain ⟨q, q1, q2, _⟩ := quo_spec .f32 (fin_num.1 o1) (fin_num.1 f) hz X (by rw [o2]; exact x1) (by grind) (by grind)
  have e : tN m = q := by unfold tN quoB; rw [q1]; rfl
  rw [e]
  exact ⟨q1, fin_num.2 q2⟩

set_option maxHeartbeats 1000000 in
theorem specReactance_any (m : Int) (w : World) :
    Calls Try.prog 14 #[.int .i64 m] w fun x w' => x = .returned (reaV m) ∧ Calm w w' := by
  cases hm : okM m
  · have HM := Lib.hid (show (decide (-9999999 ≤ m) && decide (m ≤ 9999999)) = false from hm)
    have HV := Lib.hid hm
    clear hm
    go_enter Try.func14, Try.ntmps14
    go_wp2_with fail
    refine (l1In_any _ _ _ _).mono ?_
    rw [HM.out]
    rintro e w1 ⟨rfl, rfl⟩
    go_wp2_with fail
    refine bodyPost_ret (results_cir_tmp rfl _ rfl (Cir.new w _ _ _)) rfl ?_
    exact ⟨by unfold reaV; rw [HV.out]; rfl, World.grownBy_alloc w _ none⟩
  · have HM := Lib.hid (show (decide (-9999999 ≤ m) && decide (m ≤ 9999999)) = true from hm)
    have HV := Lib.hid hm
    by_cases h0 : m = 0
    · subst h0
      clear hm
      go_enter Try.func14, Try.ntmps14
      go_wp2_with fail
      refine (l1In_any _ _ _ _).mono ?_
      rw [HM.out]
      rintro e w1 ⟨rfl, rfl⟩
      go_wp2_with fail
      refine bodyPost_ret (results_cir_tmp rfl _ rfl (Cir.new w _ _ _)) rfl ?_
      exact ⟨rfl, World.grownBy_alloc w _ none⟩
    · obtain ⟨q1, q2, q3⟩ := milli_walk hm
      obtain ⟨n1, _⟩ := tN_spec hm h0
      have a1 : ∀ w, fconv .f64 (milliQ m) .f32 w = milliB m := fun w => fconv_some w q3
      have a2 : fcask .f64 (milliQ m) .f32 = 0 := fcask_some q3
      have a3 : ∀ w, fres .quo .f32 1065353216 (milliB m) w = tN m := fun w => fres_some w n1
      have a4 : fask .quo .f32 1065353216 (milliB m) = 0 := fask_some n1
      have HD := Lib.hid (show decide (m ≠ 0) = true by simpa using h0)
      clear hm q3 n1
      cases hlt : (FloatKind.f32.format.order (tN m) 0 == some .lt)
      all_goals
        have HL := Lib.hid hlt
        go_enter Try.func14, Try.ntmps14
        go_wp2_with fail
        refine (l1In_any _ _ _ _).mono ?_
        rw [HM.out]
        rintro e w1 ⟨rfl, rfl⟩
        go_wp2_with fail
        refine bodyPost_ret (results_cir_tmp rfl _ rfl (((Cir.new w 0 0 0).drewN 0).set2 _ _ _)) rfl ?_
        exact ⟨by unfold reaV tA; rw [HV.out, HD.out, HL.out]; rfl, calm_set2 (grown_drewN (World.grownBy_alloc w _ none) 0) (Nat.le_refl _) _ _⟩

/-- What is drawn as a resistance, and as a reactance. -/
def RD (m : Int) : Prop := (∃ k : Nat, k < 250 ∧ m = 200 * (k : Int)) ∨ m = 500 ∨ m = -1 ∨ m = 10000000
def TD (m : Int) : Prop := (∃ k : Nat, k < 250 ∧ m = 200 * (k : Int) - 25000) ∨ m = -500 ∨ m = 10000000 ∨ (∃ k : Nat, k < 100 ∧ m = (k : Int) + 100)

theorem rd6 (x : Int) (q : Nat) (h : q < 6) (x0 : 0 ≤ x) (x1 : x < 250) : ∃ m : Int, #[Value.int .i64 0, .int .i64 1000, .int .i64 500, .int .i64 (x * 200), .int .i64 (-1), .int .i64 10000000][q]'h = .int .i64 m ∧ RD m := by
  have hq : q = 0 ∨ q = 1 ∨ q = 2 ∨ q = 3 ∨ q = 4 ∨ q = 5 := by omega
  rcases hq with rfl | rfl | rfl | rfl | rfl | rfl
  · exact ⟨_, rfl, .inl ⟨0, by omega, by omega⟩⟩
  · exact ⟨_, rfl, .inl ⟨5, by omega, by omega⟩⟩
  · exact ⟨_, rfl, .inr (.inl rfl)⟩
  · exact ⟨_, rfl, .inl ⟨x.toNat, by omega, by omega⟩⟩
  · exact ⟨_, rfl, .inr (.inr (.inl rfl))⟩
  · exact ⟨_, rfl, .inr (.inr (.inr rfl))⟩
theorem td6 (x y : Int) (q : Nat) (h : q < 6) (x0 : 0 ≤ x) (x1 : x < 250) (y0 : 0 ≤ y) (y1 : y < 100) : ∃ m : Int, #[Value.int .i64 0, .int .i64 1000, .int .i64 (-500), .int .i64 (x * 200 - 25000), .int .i64 10000000, .int .i64 (y + 100)][q]'h = .int .i64 m ∧ TD m := by
  have hq : q = 0 ∨ q = 1 ∨ q = 2 ∨ q = 3 ∨ q = 4 ∨ q = 5 := by omega
  rcases hq with rfl | rfl | rfl | rfl | rfl | rfl
  · exact ⟨_, rfl, .inl ⟨125, by omega, by omega⟩⟩
  · exact ⟨_, rfl, .inl ⟨130, by omega, by omega⟩⟩
  · exact ⟨_, rfl, .inr (.inl rfl)⟩
  · exact ⟨_, rfl, .inl ⟨x.toNat, by omega, by omega⟩⟩
  · exact ⟨_, rfl, .inr (.inr (.inl rfl))⟩
  · exact ⟨_, rfl, .inr (.inr (.inr ⟨y.toNat, by omega, by omega⟩))⟩

set_option maxHeartbeats 1000000 in
theorem drawReactance_any {a : Option Addr} {len cap : Nat} {zs : List Int} {w : World} (h : IsRow .u8 w a len cap zs) :
    Calls Try.prog 12 #[.slice a len cap] w (Got (fun v => ∃ m, v = .int .i64 m ∧ TD m) w) := by
  go_enter Try.func12, Try.ntmps12
  go_wp2_with fail
  refine (open_any h).mono ?_
  rintro e w1 ⟨b, a1, len1, cap1, rfl, R1, hb, B1⟩
  go_wp2_with fail
  refine (pick_any R1 (by omega) (by omega) (by omega)).mono ?_
  rintro e w2 ⟨x, m2, p0, p1, rfl, hw2⟩
  have R2 : Rd w2 b a1 len1 cap1 (0 + 1) := by rw [hw2]; exact R1.step m2
  have B2 : Below w.heap.size w w2 := by rw [hw2]; exact below_drawn B1 hb B1.size (step_grown ..)
  clear hw2 R1 B1
  go_wp2_with fail
  refine (pick_any R2 (by omega) (by omega) (by omega)).mono ?_
  rintro e w3 ⟨y, m3, y0, y1, rfl, hw3⟩
  have R3 : Rd w3 b a1 len1 cap1 (0 + 1 + 1) := by rw [hw3]; exact R2.step m3
  have B3 : Below w.heap.size w w3 := by rw [hw3]; exact below_drawn B2 hb B2.size (step_grown ..)
  clear hw3 R2 B2
  go_wp2_with fail
  have hlt := R3.lt
  refine (pick_any (R3.alloc _) (by omega) (by omega) (by omega)).mono ?_
  rintro e w4 ⟨q, m4, q0, q1, rfl, rfl⟩
  have HB3 := Lib.hid (below_drewN (((B3.setCell (p := ⟨b, 1, none⟩) hb (.int .i64 ((0 : Int) + 1 + 1 + 1)))).alloc (B3.setCell (p := ⟨b, 1, none⟩) hb (.int .i64 ((0 : Int) + 1 + 1 + 1))).size (.cells #[.int .i64 0, .int .i64 1000, .int .i64 (-500), .int .i64 (x * 200 - 25000), .int .i64 10000000, .int .i64 (y + 100)] 3)) m4)
  clear B3
  go_wp2_with fail
  have hq : q.toNat < 6 := by omega
  obtain ⟨m, hM, hD⟩ := td6 x y q.toNat hq p0 p1 y0 y1
  have HD := Lib.hid hD
  simp only [List.getElem_toArray] at hM
  rw [hM]
  clear hM hD
  go_ret
  exact ⟨_, ⟨m, rfl, HD.out⟩, rfl, HB3.out⟩

/-! Tables. -/

def leB (k : FloatKind) (x y : Nat) : Bool := k.format.order x y == some .lt || k.format.order x y == some .eq
def geB (k : FloatKind) (x y : Nat) : Bool := k.format.order x y == some .gt || k.format.order x y == some .eq

/-- What FnResistanceCircle asks of a circle that is told. -/
def rcheck (m : Int) : Bool :=
  fin .f32 (subB 1065353216 (cM m)) && fin .f32 (subB 0 0) && leB .f64 (offB (subB 1065353216 (cM m)) (subB 0 0) (cR m)) 4547007122018943789 && geB .f64 (offB (subB 1065353216 (cM m)) (subB 0 0) (cR m)) 13770379158873719597 &&
  leB .f32 (cR m) 1065353216 && geB .f32 (cM (m + 1000)) (cM m)
theorem rtable : (∀ k : Fin 250, rcheck (200 * (k.val : Int)) = true) ∧ rcheck 500 = true := ⟨by decide +kernel, by decide +kernel⟩

/-- What FnReactanceCircle asks of a circle that is told. -/
def tcheck (m : Int) : Bool :=
  FloatKind.f32.format.order (tA (-m)) (tA m) == some .eq && FloatKind.f32.format.order (tN (-m)) (Op.negFloat .f32 (tN m)) == some .eq && fin .f32 (subB 1065353216 1065353216) && fin .f32 (subB 0 (tN m)) &&
  FloatKind.f64.format.order (offB (subB 1065353216 1065353216) (subB 0 (tN m)) (tA m)) 0 == some .eq && fin .f32 (tA m)
theorem ttable : (∀ k : Fin 250, (200 * (k.val : Int) - 25000 == 0 || tcheck (200 * (k.val : Int) - 25000)) = true) ∧ tcheck (-500) = true ∧ (∀ k : Fin 100, tcheck ((k.val : Int) + 100) = true) := ⟨by decide +kernel, by decide +kernel, by decide +kernel⟩

end Go.Proofs.Ytdmacimafkiijaa
