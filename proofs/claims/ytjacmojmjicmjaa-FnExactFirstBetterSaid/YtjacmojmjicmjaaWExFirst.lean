/-
  The walk of FnExactFirstBetter: it answers true.
-/
import Derived.Test.YtjacmojmjicmjaaFirstT
import Derived.Test.YtjacmojmjicmjaaWExStage
import Derived.Deep.RegionHeld3
namespace Go.Proofs.Ytjacmojmjicmjaa
open Go.RowKit Fl

theorem stg2_of {w wx : World} {A B n g m h : Nat} (a : At wx A (.cells #[.float .f64 n, .float .f64 g] 53)) (b : At wx B (.cells #[.float .f64 m, .float .f64 h] 53)) (L : Below A w wx) : wx.cell? ⟨A, 0, none⟩ = some (.float .f64 n) ∧ wx.cell? ⟨A, 1, none⟩ = some (.float .f64 g) ∧ wx.cell? ⟨B, 0, none⟩ = some (.float .f64 m) ∧ wx.cell? ⟨B, 1, none⟩ = some (.float .f64 h) ∧ At wx A (.cells #[.float .f64 n, .float .f64 g] 53) ∧ At wx B (.cells #[.float .f64 m, .float .f64 h] 53) ∧ Below A w wx :=
  ⟨a.cell (i := 0) rfl, a.cell (i := 1) rfl, b.cell (i := 0) rfl, b.cell (i := 1) rfl, a, b, L⟩
theorem stg2_drew {w wx : World} {A B n g m h : Nat} (H : wx.cell? ⟨A, 0, none⟩ = some (.float .f64 n) ∧ wx.cell? ⟨A, 1, none⟩ = some (.float .f64 g) ∧ wx.cell? ⟨B, 0, none⟩ = some (.float .f64 m) ∧ wx.cell? ⟨B, 1, none⟩ = some (.float .f64 h) ∧ At wx A (.cells #[.float .f64 n, .float .f64 g] 53) ∧ At wx B (.cells #[.float .f64 m, .float .f64 h] 53) ∧ Below A w wx) : wx.drew.cell? ⟨A, 0, none⟩ = some (.float .f64 n) ∧ wx.drew.cell? ⟨A, 1, none⟩ = some (.float .f64 g) ∧ wx.drew.cell? ⟨B, 0, none⟩ = some (.float .f64 m) ∧ wx.drew.cell? ⟨B, 1, none⟩ = some (.float .f64 h) ∧ At wx.drew A (.cells #[.float .f64 n, .float .f64 g] 53) ∧ At wx.drew B (.cells #[.float .f64 m, .float .f64 h] 53) ∧ Below A w wx.drew := by
  obtain ⟨_, _, _, _, a, b, L⟩ := H
  exact stg2_of (w := w) (wx := wx.drew) a b ⟨L.os, L.tape, L.output, L.size, L.block⟩
theorem stg2_calm {w wx wy : World} {A B n g m h : Nat} (C : Calm wx wy) (H : wx.cell? ⟨A, 0, none⟩ = some (.float .f64 n) ∧ wx.cell? ⟨A, 1, none⟩ = some (.float .f64 g) ∧ wx.cell? ⟨B, 0, none⟩ = some (.float .f64 m) ∧ wx.cell? ⟨B, 1, none⟩ = some (.float .f64 h) ∧ At wx A (.cells #[.float .f64 n, .float .f64 g] 53) ∧ At wx B (.cells #[.float .f64 m, .float .f64 h] 53) ∧ Below A w wx) : wy.cell? ⟨A, 0, none⟩ = some (.float .f64 n) ∧ wy.cell? ⟨A, 1, none⟩ = some (.float .f64 g) ∧ wy.cell? ⟨B, 0, none⟩ = some (.float .f64 m) ∧ wy.cell? ⟨B, 1, none⟩ = some (.float .f64 h) ∧ At wy A (.cells #[.float .f64 n, .float .f64 g] 53) ∧ At wy B (.cells #[.float .f64 m, .float .f64 h] 53) ∧ Below A w wy := by
  obtain ⟨_, _, _, _, a, b, L⟩ := H
  exact stg2_of (a.calm C) (b.calm C) (below_calm L (Nat.le_of_lt a.lt) C)
theorem stg2_done {w wx : World} {A B n g m h : Nat} (H : wx.cell? ⟨A, 0, none⟩ = some (.float .f64 n) ∧ wx.cell? ⟨A, 1, none⟩ = some (.float .f64 g) ∧ wx.cell? ⟨B, 0, none⟩ = some (.float .f64 m) ∧ wx.cell? ⟨B, 1, none⟩ = some (.float .f64 h) ∧ At wx A (.cells #[.float .f64 n, .float .f64 g] 53) ∧ At wx B (.cells #[.float .f64 m, .float .f64 h] 53) ∧ Below A w wx) : Below A w wx := H.2.2.2.2.2.2

set_option maxRecDepth 8000 in
set_option maxHeartbeats 4000000 in
theorem FnExactFirstBetter_walk (n g m h : Nat) (w : World) :
    Calls Try.prog 11 #[stgV n g, stgV m h] w fun e w' => e = .returned (.bool true) ∧ Below w.heap.size w w' := by
  have HS := Lib.hid (specFirst_t n g m h)
  have HI := Lib.hid (implFirst_t n g m h)
  have A0 := At.new w (.cells #[.float .f64 n, .float .f64 g] 53)
  have hs0 : (w.alloc (.cells #[.float .f64 n, .float .f64 g] 53)).heap.size = w.heap.size + 1 := by simp
  have D0 := At.new (w.alloc (.cells #[.float .f64 n, .float .f64 g] 53)) (.cells #[.float .f64 m, .float .f64 h] 53)
  rw [hs0] at D0
  have A0 := A0.alloc (.cells #[.float .f64 m, .float .f64 h] 53)
  have B0 := (((Below.refl w.heap.size w).alloc (Nat.le_refl _) (.cells #[.float .f64 n, .float .f64 g] 53))).alloc (by simp) (.cells #[.float .f64 m, .float .f64 h] 53)
  clear hs0
  obtain ⟨β, hβ⟩ : ∃ β, fbT (n, g) (m, h) = β := ⟨_, rfl⟩
  have HB := Lib.hid hβ
  clear hβ
  have HS0 := stg2_of A0 D0 B0
  clear A0 D0 B0
  go_enter Try.func11, Try.ntmps11
  go_wp2_with fail
  generalize (w.alloc (.cells #[.float .f64 n, .float .f64 g] 53)).alloc (.cells #[.float .f64 m, .float .f64 h] 53) = w0 at HS0 ⊢
  generalize w.heap.size + 1 = B at HS0 ⊢
  generalize hA : w.heap.size = A at HS0 ⊢
  (go_region_held3 (fun w' => w'.cell? ⟨A, 0, none⟩ = some (.float .f64 n) ∧ w'.cell? ⟨A, 1, none⟩ = some (.float .f64 g) ∧ w'.cell? ⟨B, 0, none⟩ = some (.float .f64 m) ∧ w'.cell? ⟨B, 1, none⟩ = some (.float .f64 h) ∧ At w' A (.cells #[.float .f64 n, .float .f64 g] 53) ∧ At w' B (.cells #[.float .f64 m, .float .f64 h] 53) ∧ Below A w w') (first | with_reducible assumption | with_reducible exact stg2_drew ‹_› | with_reducible exact stg2_calm ‹_› ‹_› | with_reducible exact stg2_calm ‹_› (stg2_drew ‹_›))
          (first
          | (go_at_call 39; refine Calls.mono (toStage_any _ _ _) ?_; rintro e w' ⟨rfl, C⟩)
          | (go_at_call 37; refine Calls.mono (HS.out _) ?_; rw [HB.out]; rintro e w' ⟨rfl, C⟩)
          | (go_at_call 36; refine Calls.mono (HI.out _) ?_; rw [HB.out]; rintro e w' ⟨rfl, C⟩)))
  all_goals
    go_wp2_with fail
    (go_region_held3 (fun w' => w'.cell? ⟨A, 0, none⟩ = some (.float .f64 n) ∧ w'.cell? ⟨A, 1, none⟩ = some (.float .f64 g) ∧ w'.cell? ⟨B, 0, none⟩ = some (.float .f64 m) ∧ w'.cell? ⟨B, 1, none⟩ = some (.float .f64 h) ∧ At w' A (.cells #[.float .f64 n, .float .f64 g] 53) ∧ At w' B (.cells #[.float .f64 m, .float .f64 h] 53) ∧ Below A w w') (first | with_reducible assumption | with_reducible exact stg2_drew ‹_› | with_reducible exact stg2_calm ‹_› ‹_› | with_reducible exact stg2_calm ‹_› (stg2_drew ‹_›))
          (first
          | (go_at_call 39; refine Calls.mono (toStage_any _ _ _) ?_; rintro e w' ⟨rfl, C⟩)
          | (go_at_call 37; refine Calls.mono (HS.out _) ?_; rw [HB.out]; rintro e w' ⟨rfl, C⟩)
          | (go_at_call 36; refine Calls.mono (HI.out _) ?_; rw [HB.out]; rintro e w' ⟨rfl, C⟩)))
  all_goals
    have hL := stg2_done ‹_›
    cases β
    all_goals
      go_wp2_with fail
      go_ret
      subst hA
      exact ⟨rfl, hL⟩

end Go.Proofs.Ytjacmojmjicmjaa
