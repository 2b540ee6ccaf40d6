/-
  What the program's ReflectionOf gives, of what is drawn (written against a stand-in: the quotient of the difference and the sum).
-/
import Derived.Test.YtdmacimafkiijaaRefC
namespace Go.Proofs.Ytdmacimafkiijaa
open Go.RowKit Fl
open Ieee

theorem inf_word (s : Bool) : fin .f32 (FloatKind.f32.format.write (.infinity s)) = false := by cases s <;> decide

theorem sub_bad {x y : Nat} (h : (fin .f32 x && fin .f32 y) = false) (w : World) : fin .f32 (fres .sub .f32 x y w) = false := by
  have key : floatBits .sub .f32 x y = none ∨ ∃ s, floatBits .sub .f32 x y = some (FloatKind.f32.format.write (.infinity s)) := by
    show FloatKind.f32.format.sub x y = none ∨ ∃ s, FloatKind.f32.format.sub x y = some (FloatKind.f32.format.write (.infinity s))
    unfold fin at h
    unfold Format.sub
    cases hx : FloatKind.f32.format.read x with
    | nan s t => left; cases hy : FloatKind.f32.format.read y <;> rfl
    | number s m e =>
      cases hy : FloatKind.f32.format.read y with
      | nan t u => left; rfl
      | number t n g => rw [hx, hy] at h; cases h
      | infinity t => right; exact ⟨!t, rfl⟩
    | infinity s =>
      cases hy : FloatKind.f32.format.read y with
      | nan t u => left; rfl
      | number t n g => right; exact ⟨s, rfl⟩
      | infinity t => cases s <;> cases t <;> first | (left; rfl) | (right; exact ⟨true, rfl⟩) | (right; exact ⟨false, rfl⟩)
  rcases key with h | ⟨s, h⟩
  · have := fres_none w h
    cases hf : fin .f32 (fres .sub .f32 x y w)
    · rfl
    · rw [fin_not_nan hf] at this
      cases this
  · rw [fres_some w h]
    exact inf_word s

theorem add_bad {x y : Nat} (h : (fin .f32 x && fin .f32 y) = false) (w : World) : fin .f32 (fres .add .f32 x y w) = false := by
  have key : floatBits .add .f32 x y = none ∨ ∃ s, floatBits .add .f32 x y = some (FloatKind.f32.format.write (.infinity s)) := by
    show FloatKind.f32.format.add x y = none ∨ ∃ s, FloatKind.f32.format.add x y = some (FloatKind.f32.format.write (.infinity s))
    unfold fin at h
    unfold Format.add
    cases hx : FloatKind.f32.format.read x with
    | nan s t => left; cases hy : FloatKind.f32.format.read y <;> rfl
    | number s m e =>
      cases hy : FloatKind.f32.format.read y with
      | nan t u => left; rfl
      | number t n g => rw [hx, hy] at h; cases h
      | infinity t => right; exact ⟨t, rfl⟩
    | infinity s =>
      cases hy : FloatKind.f32.format.read y with
      | nan t u => left; rfl
      | number t n g => right; exact ⟨s, rfl⟩
      | infinity t => cases s <;> cases t <;> first | (left; rfl) | (right; exact ⟨true, rfl⟩) | (right; exact ⟨false, rfl⟩)
  rcases key with h | ⟨s, h⟩
  · have := fres_none w h
    cases hf : fin .f32 (fres .add .f32 x y w)
    · rfl
    · rw [fin_not_nan hf] at this
      cases this
  · rw [fres_some w h]
    exact inf_word s

set_option maxHeartbeats 1000000 in
/-- A quotient of two numbers, where it is known. -/
theorem implQuotient_of {a b c d e f : Nat} (h1 : (fin .f32 a && fin .f32 b) = true) (h2 : (fin .f32 c && fin .f32 d) = true) (hz : ¬(FloatKind.f32.format.order c 0 = some .eq ∧ FloatKind.f32.format.order d 0 = some .eq))
    (hq : ∀ (P : Program) (t : TypeId) (w : World), (binOp .quo t (.complex .f32 a b) (.complex .f32 c d)).run P w = .ok (.complex .f32 e f) w) (he : fin .f32 e = true) (hf : fin .f32 f = true) (w : World) :
    Calls Try.prog 63 #[.complex .f32 a b, .complex .f32 c d] w fun z w' => z = .returned (numV true e f) ∧ ∃ n, w' = w.drewN n := by
  have H1 := Lib.hid h1
  have H2 := Lib.hid h2
  have HZ := Lib.hid hz
  have HE := Lib.hid he
  have HF := Lib.hid hf
  clear h1 h2 hz he hf
  go_enter Try.func63, Try.ntmps63
  go_wp2_with fail
  refine (implFinite_any _ _ _).mono ?_
  rw [H1.out]
  rintro z w1 ⟨rfl, n, rfl⟩
  go_wp2_with fail
  refine (implFinite_any _ _ _).mono ?_
  rw [H2.out]
  rintro z w1 ⟨rfl, n2, rfl⟩
  go_wp2_with fail
  · exact absurd (by simpa using ‹(FloatKind.f32.format.order c 0 == some Ordering.eq) = true ∧ (FloatKind.f32.format.order d 0 == some Ordering.eq) = true›) HZ.out
  refine (ifFinite_of HE.out HF.out _).mono ?_
  rintro z w1 ⟨rfl, n3, rfl⟩
  go_wp2_with fail
  go_ret2
  exact ⟨rfl, _, rfl⟩

set_option maxHeartbeats 1000000 in
/-- A quotient that is not told: one of both is not finite, or the second one is 0. -/
theorem implQuotient_none {a b c d : Nat} (h : (fin .f32 a && fin .f32 b) = false ∨ ((fin .f32 a && fin .f32 b) = true ∧ ((fin .f32 c && fin .f32 d) = false ∨ ((fin .f32 c && fin .f32 d) = true ∧ FloatKind.f32.format.order c 0 = some .eq ∧ FloatKind.f32.format.order d 0 = some .eq)))) (w : World) :
    Calls Try.prog 63 #[.complex .f32 a b, .complex .f32 c d] w fun z w' => z = .returned (numV false 0 0) ∧ ∃ n, w' = w.drewN n := by
  rcases h with h | ⟨h, h' | ⟨h', o1, o2⟩⟩
  · have H1 := Lib.hid h
    clear h
    go_enter Try.func63, Try.ntmps63
    go_wp2_with fail
    refine (implFinite_any _ _ _).mono ?_
    rw [H1.out]
    rintro z w1 ⟨rfl, n, rfl⟩
    go_wp2_with fail
    go_ret2
    exact ⟨rfl, _, rfl⟩
  · have H1 := Lib.hid h
    have H2 := Lib.hid h'
    clear h h'
    go_enter Try.func63, Try.ntmps63
    go_wp2_with fail
    refine (implFinite_any _ _ _).mono ?_
    rw [H1.out]
    rintro z w1 ⟨rfl, n, rfl⟩
    go_wp2_with fail
    refine (implFinite_any _ _ _).mono ?_
    rw [H2.out]
    rintro z w1 ⟨rfl, n2, rfl⟩
    go_wp2_with fail
    go_ret2
    exact ⟨rfl, _, rfl⟩
  · have H1 := Lib.hid h
    have H2 := Lib.hid h'
    clear h h'
    go_enter Try.func63, Try.ntmps63
    go_wp2_with fail
    refine (implFinite_any _ _ _).mono ?_
    rw [H1.out]
    rintro z w1 ⟨rfl, n, rfl⟩
    go_wp2_with fail
    refine (implFinite_any _ _ _).mono ?_
    rw [H2.out]
    rintro z w1 ⟨rfl, n2, rfl⟩
    go_wp2_with fail
    go_ret2
    exact ⟨rfl, _, rfl⟩

theorem pair_bad {x y a b : Nat} (h : ((fin .f32 x && fin .f32 y) && (fin .f32 a && fin .f32 b)) = false) : (fin .f32 x && fin .f32 a) = false ∨ (fin .f32 y && fin .f32 b) = false := by
  cases hx : fin .f32 x <;> cases hy : fin .f32 y <;> cases ha : fin .f32 a <;> cases hb : fin .f32 b <;> simp_all

end Go.Proofs.Ytdmacimafkiijaa
