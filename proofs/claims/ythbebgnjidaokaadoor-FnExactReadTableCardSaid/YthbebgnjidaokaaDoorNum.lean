/-
  What each call of chapter 1 comes to, in the program and in the model.
-/
import Derived.Test.YthbebgnjidaokaaDoorRows
import Derived.Test.YthbebgnjidaokaaDoorMi
import Derived.WalkKit
import Derived.WalkSpells
import Derived.WalkLawsBesides
import Derived.Lib.Hide
namespace Go.Proofs.YthbebgnjidaokaaDoor
open Go.RowKit Fl

set_option maxHeartbeats 400000 in
theorem implFinite_any (a b : Nat) (w : World) :
    Calls Tryd.prog 45 #[.complex .f32 a b] w fun e w' => e = .returned (.bool (fin .f32 a && fin .f32 b)) ∧ ∃ n, w' = w.drewN n := by
  cases ha : fin .f32 a
  all_goals
    go_enter Tryd.func45, Tryd.ntmps45
    go_wp2
    go_ret
    exact ⟨by simp, _, rfl⟩

set_option maxHeartbeats 400000 in
theorem specFinite_any (a b : Nat) (w : World) :
    Calls Tryd.prog 34 #[.complex .f32 a b] w fun e w' => e = .returned (.bool (fin .f32 a && fin .f32 b)) ∧ ∃ n, w' = w.drewN n := by
  cases ha : fin .f32 a
  all_goals
    go_enter Tryd.func34, Tryd.ntmps34
    go_wp2
    go_ret
    exact ⟨by simp, _, rfl⟩

/-- Numbers of thousandths that a part may have. -/
def okM (n : Int) : Bool := decide (-9999999 ≤ n) && decide (n ≤ 9999999)
theorem okM_iff {n : Int} : okM n = true ↔ -9999999 ≤ n ∧ n ≤ 9999999 := by unfold okM; simp
theorem okM_not {n : Int} : okM n = false ↔ n < -9999999 ∨ 9999999 < n := by unfold okM; simp; omega

set_option maxHeartbeats 400000 in
theorem isMilli_any (n : Int) (w : World) :
    Calls Tryd.prog 43 #[.int .i64 n] w fun e w' => e = .returned (.bool (okM n)) ∧ w = w' := by
  unfold okM
  go_enter Tryd.func43, Tryd.ntmps43
  go_wp2
  all_goals
    go_ret
    exact ⟨by (simp [*]; try omega), rfl⟩

set_option maxHeartbeats 400000 in
theorem l1In_any (n l h : Int) (w : World) :
    Calls Tryd.prog 18 #[.int .i64 n, .int .i64 l, .int .i64 h] w fun e w' => e = .returned (.bool (decide (l ≤ n) && decide (n ≤ h))) ∧ w = w' := by
  go_enter Tryd.func18, Tryd.ntmps18
  go_wp2
  all_goals
    go_ret
    exact ⟨by (simp [*]; try omega), rfl⟩

/-- What Milli gives. -/
def milliV (re im : Int) : Value := if okM re && okM im then .complex .f32 (milliB re) (milliB im) else .complex .f32 0 0

theorem milli_walk {n : Int} (h : okM n = true) : (∀ w, fres .quo .f64 (floatOfInt .f64 n) 4652007308841189376 w = milliQ n) ∧ fask .quo .f64 (floatOfInt .f64 n) 4652007308841189376 = 0 ∧
    floatToFloatBits .f64 (milliQ n) .f32 = some (milliB n) := by
  obtain ⟨h1, h2⟩ := okM_iff.1 h
  obtain ⟨m1, m2, _⟩ := milli_spec h1 h2
  exact ⟨fun w => fres_some w m1, fask_some m1, m2⟩

theorem milli_conv {re im : Int} (h1 : okM re = true) (h2 : okM im = true) (w : World) :
    (convert 48 33 (.complex .f64 (milliQ re) (milliQ im))).run Tryd.prog w = .ok (.complex .f32 (milliB re) (milliB im)) w := by
  refine run_convert_complex w _ _ .f64 .f32 _ _ _ _ ?_ Tryd.underlying33 ?_
  · rw [Tryd.underlying48]; rfl
  · unfold cConvBits
    rw [(milli_walk h1).2.2, (milli_walk h2).2.2]
    rfl

set_option maxHeartbeats 400000 in
theorem implMilli_any (re im : Int) (w : World) :
    Calls Tryd.prog 44 #[.int .i64 re, .int .i64 im] w fun e w' => e = .returned (milliV re im) ∧ w = w' := by
  unfold milliV
  cases h1 : okM re
  · go_enter Tryd.func44, Tryd.ntmps44
    go_wp2_with (go_at_call 43; refine (isMilli_any _ _).mono ?_; rintro e w' ⟨rfl, rfl⟩)
    go_ret
    exact ⟨by simp, rfl⟩
  · cases h2 : okM im
    · go_enter Tryd.func44, Tryd.ntmps44
      go_wp2_with (go_at_call 43; refine (isMilli_any _ _).mono ?_; rintro e w' ⟨rfl, rfl⟩)
      go_ret
      exact ⟨by simp, rfl⟩
    · obtain ⟨q1, q2, _⟩ := milli_walk h1
      obtain ⟨q3, q4, _⟩ := milli_walk h2
      have hc := milli_conv h1 h2
      go_enter Tryd.func44, Tryd.ntmps44
      go_wp2_with (go_at_call 43; refine (isMilli_any _ _).mono ?_; rintro e w' ⟨rfl, rfl⟩)
      go_ret
      exact ⟨by simp, rfl⟩

set_option maxHeartbeats 400000 in
theorem specMilli_any (re im : Int) (w : World) :
    Calls Tryd.prog 19 #[.int .i64 re, .int .i64 im] w fun e w' => e = .returned (milliV re im) ∧ w = w' := by
  unfold milliV
  cases h1 : okM re
  · have g1 : (decide (-9999999 ≤ re) && decide (re ≤ 9999999)) = false := h1
    go_enter Tryd.func19, Tryd.ntmps19
    go_wp2_with (go_at_call 18; refine (l1In_any _ _ _ _).mono ?_; rw [g1]; rintro e w' ⟨rfl, rfl⟩)
    go_ret
    exact ⟨by simp, rfl⟩
  · have g1 : (decide (-9999999 ≤ re) && decide (re ≤ 9999999)) = true := h1
    cases h2 : okM im
    · have g2 : (decide (-9999999 ≤ im) && decide (im ≤ 9999999)) = false := h2
      go_enter Tryd.func19, Tryd.ntmps19
      go_wp2_with (go_at_call 18; refine (l1In_any _ _ _ _).mono ?_; (first | rw [g1] | rw [g2]); rintro e w' ⟨rfl, rfl⟩)
      go_ret
      exact ⟨by simp, rfl⟩
    · have g2 : (decide (-9999999 ≤ im) && decide (im ≤ 9999999)) = true := h2
      obtain ⟨q1, q2, _⟩ := milli_walk h1
      obtain ⟨q3, q4, _⟩ := milli_walk h2
      have hc := milli_conv h1 h2
      go_enter Tryd.func19, Tryd.ntmps19
      go_wp2_with (go_at_call 18; refine (l1In_any _ _ _ _).mono ?_; (first | rw [g1] | rw [g2]); rintro e w' ⟨rfl, rfl⟩)
      go_ret
      exact ⟨by simp, rfl⟩

end Go.Proofs.YthbebgnjidaokaaDoor
