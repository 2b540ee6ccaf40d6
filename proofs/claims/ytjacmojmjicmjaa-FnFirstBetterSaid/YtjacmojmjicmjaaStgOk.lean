/-
  StageOk, in the program and in the model.
-/
import Derived.Test.YtjacmojmjicmjaaStg
namespace Go.Proofs.Ytjacmojmjicmjaa
open Go.RowKit Fl

abbrev stgV (n g : Nat) : Value := .agg #[.float .f64 n, .float .f64 g]
def geB (x y : Nat) : Bool := FloatKind.f64.format.order x y == some .gt || FloatKind.f64.format.order x y == some .eq
def leB (x y : Nat) : Bool := FloatKind.f64.format.order x y == some .lt || FloatKind.f64.format.order x y == some .eq
/-- A stage. -/
def stB (n g : Nat) : Bool := (geB n 4607182418800017408 && leB n 4696837146684686336) && ((FloatKind.f64.format.order g 0 == some .gt) && leB g 4696837146684686336)

set_option maxHeartbeats 1000000 in
theorem specStage_any (n g : Nat) (w : World) :
    Calls Try.prog 31 #[stgV n g] w fun x w' => x = .returned (.bool (stB n g)) ∧ Calm w w' := by
  go_enter Try.func31, Try.ntmps31
  go_wp2_with fail
  all_goals
    go_ret
    exact ⟨by unfold stB geB leB; simp_all, World.grownBy_alloc w _ none⟩

set_option maxHeartbeats 1000000 in
theorem implStage_any (n g : Nat) (w : World) :
    Calls Try.prog 30 #[stgV n g] w fun x w' => x = .returned (.bool (stB n g)) ∧ Calm w w' := by
  go_enter Try.func30, Try.ntmps30
  go_wp2_with fail
  all_goals
    go_ret
    exact ⟨by unfold stB geB leB; simp_all, World.grownBy_alloc w _ none⟩

end Go.Proofs.Ytjacmojmjicmjaa
