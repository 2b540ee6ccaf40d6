/-
  The walk of FnExactMilli: it answers true.
-/
import Derived.Test.YtneheglollbcdaaSame
namespace Go.Proofs.Ytneheglollbcdaa
open Go.RowKit Fl

set_option maxHeartbeats 400000 in
theorem FnExactMilli_walk (re im : Int) (_w0 : (Lit.int .i64 re).wf = true) (_w1 : (Lit.int .i64 im).wf = true) (w : World) :
    Calls Try.prog 12 #[.int .i64 re, .int .i64 im] w fun e w' => e = .returned (.bool true) ∧ Below w.heap.size w w' := by
  obtain ⟨a, b, hv, ha, hb⟩ : ∃ a b, milliV re im = .complex .f32 a b ∧ fin .f32 a = true ∧ fin .f32 b = true := by
    unfold milliV
    cases h : okM re && okM im
    · exact ⟨0, 0, by simp, fin_zero32, fin_zero32⟩
    · simp only [Bool.and_eq_true] at h
      obtain ⟨h1, h2⟩ := okM_iff.1 h.1
      obtain ⟨h3, h4⟩ := okM_iff.1 h.2
      exact ⟨milliB re, milliB im, by simp, fin_milli h1 h2, fin_milli h3 h4⟩
  have H := Lib.hid hv
  clear hv
  have hc := widen_walk ha hb
  go_enter Try.func12, Try.ntmps12
  go_wp2_with fail
  refine (specMilli_any _ _ _).mono ?_
  rintro e w' ⟨rfl, rfl⟩
  rw [H.out]
  go_wp2_with fail
  refine (implMilli_any _ _ _).mono ?_
  rintro e w' ⟨rfl, rfl⟩
  rw [H.out]
  go_wp2_with fail
  refine (sameComplex_same _ _ _).mono ?_
  rintro e w' ⟨rfl, n, rfl⟩
  go_wp2_with fail
  go_ret
  exact ⟨rfl, below_drewN (Below.refl _ _) n⟩

end Go.Proofs.Ytneheglollbcdaa
