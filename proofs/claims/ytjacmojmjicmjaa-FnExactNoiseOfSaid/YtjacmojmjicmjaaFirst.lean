/-
  FirstBetter, in the model and in the program.
-/
import Derived.Test.YtjacmojmjicmjaaImplNoise
namespace Go.Proofs.Ytjacmojmjicmjaa
open Go.RowKit Fl

/-- The noise of two stages. -/
def two2 (a b : Nat × Nat) : Option Nat := noiseR 0 0 4607182418800017408 [a, b]
def lessO (x y : Option Nat) : Bool := match x, y with
  | some x, some y => FloatKind.f64.format.order x y == some .lt
  | _, _ => false
def fbB (a b : Nat × Nat) : Bool := lessO (two2 a b) (two2 b a)

theorem noiseV_some (s : Nat) : noiseV (some s) = .tuple #[.float .f64 s, .bool true] := rfl
theorem noiseV_none : noiseV none = .tuple #[.float .f64 0, .bool false] := rfl

theorem row_two (w : World) (a b : Nat × Nat) (T : TypeId) : Row2 (w.alloc (.cells #[.float .f64 a.1, .float .f64 a.2, .float .f64 b.1, .float .f64 b.2] T)) w.heap.size [a, b] := by
  intro i hi
  have A := At.new w (.cells #[.float .f64 a.1, .float .f64 a.2, .float .f64 b.1, .float .f64 b.2] T)
  rcases (show i = 0 ∨ i = 1 by simp at hi; omega) with rfl | rfl
  · exact ⟨A.cell (i := 0) rfl, A.cell (i := 1) rfl⟩
  · exact ⟨A.cell (i := 2) rfl, A.cell (i := 3) rfl⟩

set_option maxRecDepth 8000 in
set_option maxHeartbeats 4000000 in
theorem specFirst_of {n h m i : Nat} (h1 : Okay (n, h)) (h2 : Okay (m, i)) (w : World) :
    Calls Try.prog 37 #[stgV n h, stgV m i] w fun z w' => z = .returned (.bool (fbB (n, h) (m, i))) ∧ Calm w w' := by
  have HN : Hid (∀ w : World, Calls Try.prog 34 #[.slice (some ⟨w.heap.size, 0, none⟩) 2 2] (w.alloc (.cells #[.float .f64 n, .float .f64 h, .float .f64 m, .float .f64 i] 43)) fun z w' => z = .returned (noiseV (two2 (n, h) (m, i))) ∧ Calm (w.alloc (.cells #[.float .f64 n, .float .f64 h, .float .f64 m, .float .f64 i] 43)) w') :=
    Lib.hid fun w => specNoise_of (row_two w (n, h) (m, i) _) (by simp) (by simp) (by intro p hp; simp at hp; rcases hp with rfl | rfl <;> assumption)
  have HM : Hid (∀ w : World, Calls Try.prog 34 #[.slice (some ⟨w.heap.size, 0, none⟩) 2 2] (w.alloc (.cells #[.float .f64 m, .float .f64 i, .float .f64 n, .float .f64 h] 43)) fun z w' => z = .returned (noiseV (two2 (m, i) (n, h))) ∧ Calm (w.alloc (.cells #[.float .f64 m, .float .f64 i, .float .f64 n, .float .f64 h] 43)) w') :=
    Lib.hid fun w => specNoise_of (row_two w (m, i) (n, h) _) (by simp) (by simp) (by intro p hp; simp at hp; rcases hp with rfl | rfl <;> assumption)
  clear h1 h2
  obtain ⟨x, hx⟩ : ∃ x, two2 (n, h) (m, i) = x := ⟨_, rfl⟩
  obtain ⟨y, hy⟩ : ∃ y, two2 (m, i) (n, h) = y := ⟨_, rfl⟩
  have HF := Lib.hid (show fbB (n, h) (m, i) = lessO x y by unfold fbB; rw [hx, hy])
  rw [hx] at HN
  rw [hy] at HM
  clear hx hy
  have A0 := At.new w (.cells #[.float .f64 n, .float .f64 h] 43)
  have A1 := At.new (w.alloc (.cells #[.float .f64 n, .float .f64 h] 43)) (.cells #[.float .f64 m, .float .f64 i] 43)
  have hs : (w.alloc (.cells #[.float .f64 n, .float .f64 h] 43)).heap.size = w.heap.size + 1 := by simp
  rw [hs] at A1
  have HA0 := Lib.hid (A0.alloc (.cells #[.float .f64 m, .float .f64 i] 43))
  have HA1 := Lib.hid A1
  have HC := Lib.hid (calm_allocR (calm_new w (.cells #[.float .f64 n, .float .f64 h] 43)) (.cells #[.float .f64 m, .float .f64 i] 43))
  clear A0 A1 hs
  go_enter Try.func37, Try.ntmps37
  go_wp2_with fail
  have hn := HN.out ((w.alloc (.cells #[.float .f64 n, .float .f64 h] 43)).alloc (.cells #[.float .f64 m, .float .f64 i] 43))
  rw [show ((w.alloc (.cells #[.float .f64 n, .float .f64 h] 43)).alloc (.cells #[.float .f64 m, .float .f64 i] 43)).heap.size = w.heap.size + 1 + 1 by simp] at hn
  refine hn.mono ?_
  clear hn
  rintro z w1 ⟨rfl, C⟩
  have A0 := (HA0.out.alloc (.cells #[.float .f64 n, .float .f64 h, .float .f64 m, .float .f64 i] 43)).calm C
  have A1 := (HA1.out.alloc (.cells #[.float .f64 n, .float .f64 h, .float .f64 m, .float .f64 i] 43)).calm C
  have HK := Lib.hid (calm_trans (calm_allocR HC.out (.cells #[.float .f64 n, .float .f64 h, .float .f64 m, .float .f64 i] 43)) C)
  have a0 : w1.cell? ⟨w.heap.size, 0, none⟩ = some (.float .f64 n) := A0.cell (i := 0) rfl
  have a1 : w1.cell? ⟨w.heap.size, 1, none⟩ = some (.float .f64 h) := A0.cell (i := 1) rfl
  have b0 : w1.cell? ⟨w.heap.size + 1, 0, none⟩ = some (.float .f64 m) := A1.cell (i := 0) rfl
  have b1 : w1.cell? ⟨w.heap.size + 1, 1, none⟩ = some (.float .f64 i) := A1.cell (i := 1) rfl
  have al := A0.lt
  have bl := A1.lt
  clear A0 A1 C HA0 HA1 HC HN
  cases x
  all_goals
    first | rw [noiseV_none] | rw [noiseV_some]
    go_wp2_with fail
    refine (HM.out w1).mono ?_
    rintro z w2 ⟨rfl, C⟩
    have K := calm_trans (calm_allocR HK.out (.cells #[.float .f64 m, .float .f64 i, .float .f64 n, .float .f64 h] 43)) C
    clear a0 a1 b0 b1 al bl C HK HM
    cases y
    all_goals
      first | rw [noiseV_none] | rw [noiseV_some]
      go_wp2_with fail
      go_ret
      exact ⟨by rw [HF.out]; rfl, K⟩

set_option maxRecDepth 8000 in
set_option maxHeartbeats 4000000 in
theorem implFirst_of {n h m i : Nat} (h1 : Okay (n, h)) (h2 : Okay (m, i)) (w : World) :
    Calls Try.prog 36 #[stgV n h, stgV m i] w fun z w' => z = .returned (.bool (fbB (n, h) (m, i))) ∧ Calm w w' := by
  have HN : Hid (∀ w : World, Calls Try.prog 33 #[.slice (some ⟨w.heap.size, 0, none⟩) 2 2] (w.alloc (.cells #[.float .f64 n, .float .f64 h, .float .f64 m, .float .f64 i] 43)) fun z w' => z = .returned (noiseV (two2 (n, h) (m, i))) ∧ Calm (w.alloc (.cells #[.float .f64 n, .float .f64 h, .float .f64 m, .float .f64 i] 43)) w') :=
    Lib.hid fun w => implNoise_of (row_two w (n, h) (m, i) _) (by simp) (by simp) (by simp) (by intro p hp; simp at hp; rcases hp with rfl | rfl <;> assumption)
  have HM : Hid (∀ w : World, Calls Try.prog 33 #[.slice (some ⟨w.heap.size, 0, none⟩) 2 2] (w.alloc (.cells #[.float .f64 m, .float .f64 i, .float .f64 n, .float .f64 h] 43)) fun z w' => z = .returned (noiseV (two2 (m, i) (n, h))) ∧ Calm (w.alloc (.cells #[.float .f64 m, .float .f64 i, .float .f64 n, .float .f64 h] 43)) w') :=
    Lib.hid fun w => implNoise_of (row_two w (m, i) (n, h) _) (by simp) (by simp) (by simp) (by intro p hp; simp at hp; rcases hp with rfl | rfl <;> assumption)
  clear h1 h2
  obtain ⟨x, hx⟩ : ∃ x, two2 (n, h) (m, i) = x := ⟨_, rfl⟩
  obtain ⟨y, hy⟩ : ∃ y, two2 (m, i) (n, h) = y := ⟨_, rfl⟩
  have HF := Lib.hid (show fbB (n, h) (m, i) = lessO x y by unfold fbB; rw [hx, hy])
  rw [hx] at HN
  rw [hy] at HM
  clear hx hy
  have A0 := At.new w (.cells #[.float .f64 n, .float .f64 h] 43)
  have A1 := At.new (w.alloc (.cells #[.float .f64 n, .float .f64 h] 43)) (.cells #[.float .f64 m, .float .f64 i] 43)
  have hs : (w.alloc (.cells #[.float .f64 n, .float .f64 h] 43)).heap.size = w.heap.size + 1 := by simp
  rw [hs] at A1
  have HA0 := Lib.hid (A0.alloc (.cells #[.float .f64 m, .float .f64 i] 43))
  have HA1 := Lib.hid A1
  have HC := Lib.hid (calm_allocR (calm_new w (.cells #[.float .f64 n, .float .f64 h] 43)) (.cells #[.float .f64 m, .float .f64 i] 43))
  clear A0 A1 hs
  go_enter Try.func36, Try.ntmps36
  go_wp2_with fail
  have hn := HN.out ((w.alloc (.cells #[.float .f64 n, .float .f64 h] 43)).alloc (.cells #[.float .f64 m, .float .f64 i] 43))
  rw [show ((w.alloc (.cells #[.float .f64 n, .float .f64 h] 43)).alloc (.cells #[.float .f64 m, .float .f64 i] 43)).heap.size = w.heap.size + 1 + 1 by simp] at hn
  refine hn.mono ?_
  clear hn
  rintro z w1 ⟨rfl, C⟩
  have A0 := (HA0.out.alloc (.cells #[.float .f64 n, .float .f64 h, .float .f64 m, .float .f64 i] 43)).calm C
  have A1 := (HA1.out.alloc (.cells #[.float .f64 n, .float .f64 h, .float .f64 m, .float .f64 i] 43)).calm C
  have HK := Lib.hid (calm_trans (calm_allocR HC.out (.cells #[.float .f64 n, .float .f64 h, .float .f64 m, .float .f64 i] 43)) C)
  have a0 : w1.cell? ⟨w.heap.size, 0, none⟩ = some (.float .f64 n) := A0.cell (i := 0) rfl
  have a1 : w1.cell? ⟨w.heap.size, 1, none⟩ = some (.float .f64 h) := A0.cell (i := 1) rfl
  have b0 : w1.cell? ⟨w.heap.size + 1, 0, none⟩ = some (.float .f64 m) := A1.cell (i := 0) rfl
  have b1 : w1.cell? ⟨w.heap.size + 1, 1, none⟩ = some (.float .f64 i) := A1.cell (i := 1) rfl
  have al := A0.lt
  have bl := A1.lt
  clear A0 A1 C HA0 HA1 HC HN
  cases x
  all_goals
    first | rw [noiseV_none] | rw [noiseV_some]
    go_wp2_with fail
    refine (HM.out w1).mono ?_
    rintro z w2 ⟨rfl, C⟩
    have K := calm_trans (calm_allocR HK.out (.cells #[.float .f64 m, .float .f64 i, .float .f64 n, .float .f64 h] 43)) C
    clear a0 a1 b0 b1 al bl C HK HM
    cases y
    all_goals
      first | rw [noiseV_none] | rw [noiseV_some]
      go_wp2_with fail
      go_ret
      exact ⟨by rw [HF.out]; rfl, K⟩

end Go.Proofs.Ytjacmojmjicmjaa
