/-
  The walk of FnExactStageOk: it answers true. Stages as arguments.
-/
import Derived.Test.YtjacmojmjicmjaaStgOk
import Derived.Test.YtjacmojmjicmjaaC3
namespace Go.Proofs.Ytjacmojmjicmjaa
open Go.RowKit Fl

set_option maxHeartbeats 1000000 in
theorem toStage_any (n g : Nat) (w : World) :
    Calls Try.prog 39 #[stgV n g] w fun x w' => x = .returned (stgV n g) ∧ Calm w w' := by
  go_enter Try.func39, Try.ntmps39
  go_wp2_with fail
  have hs : (w.alloc (.cells #[.float .f64 n, .float .f64 g] 53)).heap.size = w.heap.size + 1 := by simp
  have hA := (At.new (w.alloc (.cells #[.float .f64 n, .float .f64 g] 53)) (.cells #[.float .f64 n, .float .f64 g] 43)).alloc (.cells #[.float .f64 n, .float .f64 g] 43)
  rw [hs] at hA
  refine bodyPost_ret (results_stg rfl _ rfl hA) rfl ?_
  exact ⟨rfl, calm_allocR (calm_allocR (calm_new w _) _) _⟩

set_option maxHeartbeats 1000000 in
theorem FnExactStageOk_walk (n g : Nat) (w : World) :
    Calls Try.prog 9 #[stgV n g] w fun e w' => e = .returned (.bool true) ∧ Below w.heap.size w w' := by
  obtain ⟨β, hβ⟩ : ∃ β, stB n g = β := ⟨_, rfl⟩
  have HB := Lib.hid hβ
  clear hβ
  have A0 := At.new w (.cells #[.float .f64 n, .float .f64 g] 53)
  go_enter Try.func9, Try.ntmps9
  go_wp2_with fail
  refine (toStage_any _ _ _).mono ?_
  rintro z w1 ⟨rfl, C⟩
  have A1 := A0.calm C
  have B1 := below_calm ((Below.refl w.heap.size w).alloc (Nat.le_refl _) (.cells #[.float .f64 n, .float .f64 g] 53)) (by simp) C
  clear C A0
  have s0 : w1.cell? ⟨w.heap.size, 0, none⟩ = some (.float .f64 n) := A1.cell (i := 0) rfl
  have s1 : w1.cell? ⟨w.heap.size, 1, none⟩ = some (.float .f64 g) := A1.cell (i := 1) rfl
  have sl := A1.lt
  go_wp2_with fail
  refine (specStage_any _ _ _).mono ?_
  rw [HB.out]
  rintro z w2 ⟨rfl, C⟩
  have A2 := A1.calm C
  have B2 := below_calm B1 B1.size C
  clear C A1 B1 s0 s1 sl
  have s0 : w2.cell? ⟨w.heap.size, 0, none⟩ = some (.float .f64 n) := A2.cell (i := 0) rfl
  have s1 : w2.cell? ⟨w.heap.size, 1, none⟩ = some (.float .f64 g) := A2.cell (i := 1) rfl
  have sl := A2.lt
  go_wp2_with fail
  refine (toStage_any _ _ _).mono ?_
  rintro z w3 ⟨rfl, C⟩
  have B3 := below_calm B2 B2.size C
  clear C A2 B2 s0 s1 sl
  go_wp2_with fail
  refine (implStage_any _ _ _).mono ?_
  rw [HB.out]
  rintro z w4 ⟨rfl, C⟩
  have B4 := below_calm B3 B3.size C
  clear C B3
  cases β
  all_goals
    go_wp2_with fail
    go_ret
    exact ⟨rfl, B4⟩

end Go.Proofs.Ytjacmojmjicmjaa
