/-
  The table of turns, in the program and in the model.
-/
import Derived.Test.YtdmacimafkiijaaWTwoOk
import Derived.Test.YtdmacimafkiijaaSame
import Derived.Test.YtdmacimafkiijaaPow
import Derived.Test.YtdmacimafkiijaaNc
namespace Go.Proofs.Ytdmacimafkiijaa
open Go.RowKit Fl

/-- The words of the sixteen turns. -/
def turnL : List (Nat × Nat) := [(1065353216, 0), (1064076126, 1053028117), (1060439283, 1060439283), (1053028117, 1064076126), (0, 1065353216), (3200511765, 1064076126), (3207922931, 1060439283), (3211559774, 1053028117), (3212836864, 0), (3211559774, 3200511765), (3207922931, 3207922931), (3200511765, 3211559774), (0, 3212836864), (1053028117, 3211559774), (1060439283, 3207922931), (1064076126, 3200511765)]
def tR (i : Nat) : Nat := (turnL.getD i (0, 0)).1
def tI (i : Nat) : Nat := (turnL.getD i (0, 0)).2
/-- Which of them. -/
def ti (k : Int) : Nat := (k % 16).toNat
def okT (k : Int) : Bool := decide (-9999 ≤ k) && decide (k ≤ 9999)
theorem okT_iff {k : Int} : okT k = true ↔ -9999 ≤ k ∧ k ≤ 9999 := by unfold okT; simp
theorem ti_lt (k : Int) : ti k < 16 := by unfold ti; omega
theorem ti_eq (k : Int) : ((ti k : Nat) : Int) = k % 16 := by unfold ti; omega
/-- What TurnOf gives. -/
def turnV (k : Int) : Value := if okT k then .complex .f32 (tR (ti k)) (tI (ti k)) else .complex .f32 0 0

theorem turn_idx {k : Int} (h : okT k = true) : (wrap64 (k.tmod 16 + 16)).tmod 16 = ((ti k : Nat) : Int) := by
  obtain ⟨h1, h2⟩ := okT_iff.1 h
  rw [ti_eq]
  have h3 : k.tmod 16 = if 0 ≤ k then k % 16 else -((-k) % 16) := by
    split
    · exact Int.tmod_eq_emod_of_nonneg (by assumption)
    · have := Int.tmod_eq_emod_of_nonneg (a := -k) (b := 16) (by omega)
      rw [Int.neg_tmod] at this
      omega
  have h4 : wrap64 (k.tmod 16 + 16) = k.tmod 16 + 16 := by
    unfold wrap64
    rw [h3]
    split <;> omega
  rw [h4]
  rw [Int.tmod_eq_emod_of_nonneg (by rw [h3]; split <;> omega), h3]
  split <;> omega

theorem turn_get (i : Nat) (h : i < 16) : [Value.complex FloatKind.f32 1065353216 0, Value.complex FloatKind.f32 1064076126 1053028117, Value.complex FloatKind.f32 1060439283 1060439283, Value.complex FloatKind.f32 1053028117 1064076126, Value.complex FloatKind.f32 0 1065353216, Value.complex FloatKind.f32 3200511765 1064076126, Value.complex FloatKind.f32 3207922931 1060439283, Value.complex FloatKind.f32 3211559774 1053028117, Value.complex FloatKind.f32 3212836864 0, Value.complex FloatKind.f32 3211559774 3200511765, Value.complex FloatKind.f32 3207922931 3207922931, Value.complex FloatKind.f32 3200511765 3211559774, Value.complex FloatKind.f32 0 3212836864, Value.complex FloatKind.f32 1053028117 3211559774, Value.complex FloatKind.f32 1060439283 3207922931, Value.complex FloatKind.f32 1064076126 3200511765][i]'h = .complex .f32 (tR i) (tI i) := by
  have hi : i = 0 ∨ i = 1 ∨ i = 2 ∨ i = 3 ∨ i = 4 ∨ i = 5 ∨ i = 6 ∨ i = 7 ∨ i = 8 ∨ i = 9 ∨ i = 10 ∨ i = 11 ∨ i = 12 ∨ i = 13 ∨ i = 14 ∨ i = 15 := by omega
  rcases hi with rfl | rfl | rfl | rfl | rfl | rfl | rfl | rfl | rfl | rfl | rfl | rfl | rfl | rfl | rfl | rfl <;> rfl

set_option maxHeartbeats 1000000 in
theorem l5Table_any (w : World) :
    Calls Try.prog 57 #[] w fun x w' => x = .returned (.slice (some ⟨w.heap.size, 0, none⟩) 16 16) ∧ w' = w.alloc (.cells #[Value.complex FloatKind.f32 1065353216 0, Value.complex FloatKind.f32 1064076126 1053028117, Value.complex FloatKind.f32 1060439283 1060439283, Value.complex FloatKind.f32 1053028117 1064076126, Value.complex FloatKind.f32 0 1065353216, Value.complex FloatKind.f32 3200511765 1064076126, Value.complex FloatKind.f32 3207922931 1060439283, Value.complex FloatKind.f32 3211559774 1053028117, Value.complex FloatKind.f32 3212836864 0, Value.complex FloatKind.f32 3211559774 3200511765, Value.complex FloatKind.f32 3207922931 3207922931, Value.complex FloatKind.f32 3200511765 3211559774, Value.complex FloatKind.f32 0 3212836864, Value.complex FloatKind.f32 1053028117 3211559774, Value.complex FloatKind.f32 1060439283 3207922931, Value.complex FloatKind.f32 1064076126 3200511765] 24) := by
  go_enter Try.func57, Try.ntmps57
  go_wp2_with fail
  go_ret
  exact ⟨rfl, rfl⟩

set_option maxHeartbeats 1000000 in
theorem specTurn_any (k : Int) (w : World) :
    Calls Try.prog 22 #[.int .i64 k] w fun x w' => x = .returned (turnV k) ∧ Calm w w' := by
  unfold turnV
  cases hk : okT k
  · have HK := Lib.hid (show (decide (-9999 ≤ k) && decide (k ≤ 9999)) = false from hk)
    clear hk
    go_enter Try.func22, Try.ntmps22
    go_wp2_with fail
    refine (l1In_any _ _ _ _).mono ?_
    rw [HK.out]
    rintro e w1 ⟨rfl, rfl⟩
    go_wp2_with fail
    go_ret
    exact ⟨rfl, grown_refl _ _⟩
  · have HK := Lib.hid (show (decide (-9999 ≤ k) && decide (k ≤ 9999)) = true from hk)
    have hi := turn_idx hk
    have hlt := ti_lt k
    have hg := turn_get (ti k) hlt
    have HG := Lib.hid hg
    clear hk hg
    go_enter Try.func22, Try.ntmps22
    go_wp2_with fail
    refine (l1In_any _ _ _ _).mono ?_
    rw [HK.out]
    rintro e w1 ⟨rfl, rfl⟩
    go_wp2_with fail
    refine (l5Table_any _).mono ?_
    rintro e w1 ⟨rfl, rfl⟩
    go_wp2_with fail
    go_ret
    exact ⟨by rw [← HG.out]; rfl, World.grownBy_alloc w _ none⟩

set_option maxHeartbeats 1000000 in
theorem implTurn_any (k : Int) (w : World) :
    Calls Try.prog 20 #[.int .i64 k] w fun x w' => x = .returned (turnV k) ∧ Calm w w' := by
  unfold turnV
  cases hk : okT k
  · have HK := Lib.hid hk
    have hk' : k < -9999 ∨ 9999 < k := by
      have := mt okT_iff.2 (by rw [hk]; decide)
      omega
    clear hk
    by_cases h0 : k < -9999
    · go_enter Try.func20, Try.ntmps20
      go_wp2_with fail
      go_ret
      exact ⟨rfl, grown_refl _ _⟩
    · have h1 : 9999 < k := by omega
      go_enter Try.func20, Try.ntmps20
      go_wp2_with fail
      go_ret
      exact ⟨rfl, grown_refl _ _⟩
  · have hi := turn_idx hk
    have hlt := ti_lt k
    have HG := Lib.hid (turn_get (ti k) hlt)
    obtain ⟨k0, k1⟩ := okT_iff.1 hk
    clear hk
    go_enter Try.func20, Try.ntmps20
    go_wp2_with fail
    go_ret
    exact ⟨by rw [← HG.out]; rfl, World.grownBy_alloc w _ none⟩

end Go.Proofs.Ytdmacimafkiijaa
