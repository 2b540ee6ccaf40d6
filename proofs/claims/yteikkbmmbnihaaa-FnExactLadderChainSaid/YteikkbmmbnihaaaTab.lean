/-
  The table of parts, in the program and in the model.
-/
import Derived.Test.YteikkbmmbnihaaaWTwoOk
import Derived.Test.YteikkbmmbnihaaaSame
namespace Go.Proofs.Yteikkbmmbnihaaa
open Go.RowKit Fl

/-- The words of the second parts of the eight numbers. -/
def tabL : List Nat := [1048576000, 3196059648, 1056964608, 3204448256, 1065353216, 3212836864, 1073741824, 3221225472]
def tabI (i : Nat) : Nat := tabL.getD i 0
def okP (k : Int) : Bool := decide (0 ≤ k) && decide (k ≤ 7)
theorem okP_iff {k : Int} : okP k = true ↔ 0 ≤ k ∧ k ≤ 7 := by unfold okP; simp
/-- What TablePart gives. -/
def partB (k : Int) : Nat := if okP k then tabI k.toNat else 0

theorem tab_get (i : Nat) (h : i < 8) : [Value.complex FloatKind.f32 0 1048576000, Value.complex FloatKind.f32 0 3196059648, Value.complex FloatKind.f32 0 1056964608, Value.complex FloatKind.f32 0 3204448256, Value.complex FloatKind.f32 0 1065353216, Value.complex FloatKind.f32 0 3212836864, Value.complex FloatKind.f32 0 1073741824, Value.complex FloatKind.f32 0 3221225472][i]'h = .complex .f32 0 (tabI i) := by
  have hi : i = 0 ∨ i = 1 ∨ i = 2 ∨ i = 3 ∨ i = 4 ∨ i = 5 ∨ i = 6 ∨ i = 7 := by omega
  rcases hi with rfl | rfl | rfl | rfl | rfl | rfl | rfl | rfl <;> rfl

set_option maxHeartbeats 1000000 in
theorem l6Table_any (w : World) :
    Calls Try.prog 47 #[] w fun x w' => x = .returned (.slice (some ⟨w.heap.size, 0, none⟩) 8 8) ∧ w' = w.alloc (.cells #[Value.complex FloatKind.f32 0 1048576000, Value.complex FloatKind.f32 0 3196059648, Value.complex FloatKind.f32 0 1056964608, Value.complex FloatKind.f32 0 3204448256, Value.complex FloatKind.f32 0 1065353216, Value.complex FloatKind.f32 0 3212836864, Value.complex FloatKind.f32 0 1073741824, Value.complex FloatKind.f32 0 3221225472] 24) := by
  go_enter Try.func47, Try.ntmps47
  go_wp2_with fail
  go_ret
  exact ⟨rfl, rfl⟩

set_option maxHeartbeats 1000000 in
theorem specPart_any (k : Int) (w : World) :
    Calls Try.prog 15 #[.int .i64 k] w fun x w' => x = .returned (.complex .f32 0 (partB k)) ∧ Calm w w' := by
  unfold partB
  cases hk : okP k
  · have HK := Lib.hid (show (decide (0 ≤ k) && decide (k ≤ 7)) = false from hk)
    clear hk
    go_enter Try.func15, Try.ntmps15
    go_wp2_with fail
    refine (l1In_any _ _ _ _).mono ?_
    rw [HK.out]
    rintro e w1 ⟨rfl, rfl⟩
    go_wp2_with fail
    go_ret
    exact ⟨rfl, grown_refl _ _⟩
  · have HK := Lib.hid (show (decide (0 ≤ k) && decide (k ≤ 7)) = true from hk)
    obtain ⟨k0, k1⟩ := okP_iff.1 hk
    have HG := Lib.hid (tab_get k.toNat (by omega))
    have k2 : k < 8 := by omega
    clear hk
    go_enter Try.func15, Try.ntmps15
    go_wp2_with fail
    refine (l1In_any _ _ _ _).mono ?_
    rw [HK.out]
    rintro e w1 ⟨rfl, rfl⟩
    go_wp2_with fail
    refine (l6Table_any _).mono ?_
    rintro e w1 ⟨rfl, rfl⟩
    go_wp2_with fail
    go_ret
    exact ⟨by rw [← HG.out]; rfl, World.grownBy_alloc w _ none⟩

set_option maxHeartbeats 1000000 in
theorem implPart_any (k : Int) (w : World) :
    Calls Try.prog 13 #[.int .i64 k] w fun x w' => x = .returned (.complex .f32 0 (partB k)) ∧ Calm w w' := by
  unfold partB
  cases hk : okP k
  · have hk' : k < 0 ∨ 7 < k := by
      have := mt okP_iff.2 (by rw [hk]; decide)
      omega
    clear hk
    by_cases h0 : k < 0
    · go_enter Try.func13, Try.ntmps13
      go_wp2_with fail
      go_ret
      exact ⟨rfl, grown_refl _ _⟩
    · have h1 : 8 ≤ k := by omega
      go_enter Try.func13, Try.ntmps13
      go_wp2_with fail
      go_ret
      exact ⟨rfl, grown_refl _ _⟩
  · obtain ⟨k0, k1⟩ := okP_iff.1 hk
    have HG := Lib.hid (tab_get k.toNat (by omega))
    have k2 : k < 8 := by omega
    clear hk
    go_enter Try.func13, Try.ntmps13
    go_wp2_with fail
    go_ret
    exact ⟨by rw [← HG.out]; rfl, World.grownBy_alloc w _ none⟩

/-- What FnTablePart asks of a number of the table. -/
def pcheck (i : Nat) : Bool :=
  (floatBits .add .f32 0 0).isSome && (floatBits .add .f32 (tabI i) (tabI (i + 1 - 2 * (i % 2)))).isSome && FloatKind.f32.format.order ((floatBits .add .f32 0 0).getD 0) 0 == some .eq &&
  FloatKind.f32.format.order ((floatBits .add .f32 (tabI i) (tabI (i + 1 - 2 * (i % 2)))).getD 0) 0 == some .eq && !(FloatKind.f32.format.order (tabI i) 0 == some .eq)
theorem ptable : ∀ i : Fin 8, pcheck i.val = true := by decide +kernel
theorem part_fin : ∀ i : Fin 8, fin .f32 (tabI i.val) = true := by decide +kernel
theorem partB_fin (k : Int) : fin .f32 (partB k) = true := by
  unfold partB
  cases hk : okP k
  · show fin .f32 0 = true; decide
  · obtain ⟨k0, k1⟩ := okP_iff.1 hk
    exact part_fin ⟨k.toNat, by omega⟩

end Go.Proofs.Yteikkbmmbnihaaa
