/-
  What the model's ReflectionOf gives, of what is drawn.
-/
import Derived.Test.YtdmacimafkiijaaReflF
import Derived.Test.YtdmacimafkiijaaC3b
namespace Go.Proofs.Ytdmacimafkiijaa
open Go.RowKit Fl
open Ieee

/-- A number, if it is told. -/
def numV (β : Bool) (e f : Nat) : Value := if β then .tuple #[.complex .f32 e f, .bool true] else .tuple #[.complex .f32 0 0, .bool false]
theorem numV_true (e f : Nat) : numV true e f = .tuple #[.complex .f32 e f, .bool true] := rfl
theorem numV_false (e f : Nat) : numV false e f = .tuple #[.complex .f32 0 0, .bool false] := rfl

/-- What a reflection comes to: it is told, and is (e, f); or it is not. -/
def RefI (x y a b e f : Nat) (β : Bool) : Prop :=
  (β = false ∧ ((fin .f32 x && fin .f32 y) && (fin .f32 a && fin .f32 b)) = false) ∨
  (((fin .f32 x && fin .f32 y) && (fin .f32 a && fin .f32 b)) = true ∧
    ((β = false ∧ ((fin .f32 (subB x a) && fin .f32 (subB y b)) && (fin .f32 (addB x a) && fin .f32 (addB y b))) = false) ∨
    (((fin .f32 (subB x a) && fin .f32 (subB y b)) && (fin .f32 (addB x a) && fin .f32 (addB y b))) = true ∧
      ((β = false ∧ FloatKind.f32.format.order (addB x a) 0 = some .eq ∧ FloatKind.f32.format.order (addB y b) 0 = some .eq) ∨
      (β = true ∧ ¬(FloatKind.f32.format.order (addB x a) 0 = some .eq ∧ FloatKind.f32.format.order (addB y b) 0 = some .eq) ∧
        (∀ (P : Program) (t : TypeId) (w : World), (binOp .quo t (.complex .f32 (subB x a) (subB y b)) (.complex .f32 (addB x a) (addB y b))).run P w = .ok (.complex .f32 e f) w) ∧ fin .f32 e = true ∧ fin .f32 f = true)))))

theorem refI_of {x y a b : Nat} (hz : LoadOk (.complex .f32 x y)) (hr : RefOk (.complex .f32 a b)) : ∃ e f β, RefI x y a b e f β := by
  cases h1 : ((fin .f32 x && fin .f32 y) && (fin .f32 a && fin .f32 b))
  · exact ⟨0, 0, false, .inl ⟨rfl, h1⟩⟩
  · cases h2 : ((fin .f32 (subB x a) && fin .f32 (subB y b)) && (fin .f32 (addB x a) && fin .f32 (addB y b)))
    · exact ⟨0, 0, false, .inr ⟨h1, .inl ⟨rfl, h2⟩⟩⟩
    · by_cases h3 : FloatKind.f32.format.order (addB x a) 0 = some .eq ∧ FloatKind.f32.format.order (addB y b) 0 = some .eq
      · exact ⟨0, 0, false, .inr ⟨h1, .inr ⟨h2, .inl ⟨rfl, h3.1, h3.2⟩⟩⟩⟩
      · have g1 := h1
        have g2 := h2
        simp only [Bool.and_eq_true] at g1 g2
        obtain ⟨⟨fx, fy⟩, fa, fb⟩ := g1
        obtain ⟨⟨k3, k4⟩, k1, k2⟩ := g2
        obtain ⟨e, f, hq, he, hf, _⟩ := refl_quo (kind_load hz fx fy) (kind_ref hr fa fb) fx fy fa fb k1 k2 k3 k4 (by
          by_cases h : V FloatKind.f32.format (addB x a) = 0
          · right
            intro h'
            exact h3 ⟨(order_spec _ (fin_num.1 k1) zero32.1).2.1.2 (by rw [h, zero32.2]), (order_spec _ (fin_num.1 k2) zero32.1).2.1.2 (by rw [h', zero32.2])⟩
          · exact .inl h)
        exact ⟨e, f, true, .inr ⟨h1, .inr ⟨h2, .inr ⟨rfl, h3, hq, he, hf⟩⟩⟩⟩

/-- A reflection that is told is not great. -/
theorem refI_bound {x y a b e f : Nat} (w0 : World) (hz : LoadOk (.complex .f32 x y)) (hr : RefOk (.complex .f32 a b)) (h : RefI x y a b e f true) : fin .f32 e = true ∧ fin .f32 f = true ∧ absR (V FloatKind.f32.format e) ≤ p2 47 ∧ absR (V FloatKind.f32.format f) ≤ p2 47 := by
  rcases h with ⟨h, _⟩ | ⟨h1, ⟨h, _⟩ | ⟨h2, ⟨h, _⟩ | ⟨_, h3, hq, he, hf⟩⟩⟩
  · cases h
  · cases h
  · cases h
  · simp only [Bool.and_eq_true] at h1 h2
    obtain ⟨⟨fx, fy⟩, fa, fb⟩ := h1
    obtain ⟨⟨k3, k4⟩, k1, k2⟩ := h2
    obtain ⟨e', f', hq', _, _, b1, b2⟩ := refl_quo (kind_load hz fx fy) (kind_ref hr fa fb) fx fy fa fb k1 k2 k3 k4 (by
      by_cases h : V FloatKind.f32.format (addB x a) = 0
      · right
        intro h'
        exact h3 ⟨(order_spec _ (fin_num.1 k1) zero32.1).2.1.2 (by rw [h, zero32.2]), (order_spec _ (fin_num.1 k2) zero32.1).2.1.2 (by rw [h', zero32.2])⟩
      · exact .inl h)
    have e1 := (hq Try.prog 0 w0).symm.trans (hq' Try.prog 0 w0)
    injection e1 with e1 _
    injection e1 with _ e1 e2
    subst e1; subst e2
    exact ⟨he, hf, b1, b2⟩

set_option maxHeartbeats 1000000 in
theorem specReflection_of {x y a b e f : Nat} {β : Bool} (hi : RefI x y a b e f β) (w : World) :
    Calls Try.prog 70 #[.complex .f32 x y, .complex .f32 a b] w fun z w' => z = .returned (numV β e f) ∧ Calm w w' := by
  rcases hi with ⟨rfl, h1⟩ | ⟨h1, hi⟩
  · have H1 := Lib.hid h1
    clear h1
    go_enter Try.func70, Try.ntmps70
    go_wp2_with fail
    generalize fres .add .f32 y b (w.drewN (fask .sub .f32 x a + fask .sub .f32 y b + fask .add .f32 x a)) = s2
    generalize fres .add .f32 x a (w.drewN (fask .sub .f32 x a + fask .sub .f32 y b)) = s1
    generalize fres .sub .f32 y b (w.drewN (fask .sub .f32 x a)) = d2
    generalize fres .sub .f32 x a w = d1
    refine (l2All_any _ [(x, y), (a, b), (d1, d2), (s1, s2)] _ _ (by simp) ?_).mono ?_
    · intro i hi
      refine built_cell _ (by simp) ?_
      have h4 : i = 0 ∨ i = 1 ∨ i = 2 ∨ i = 3 := by simp at hi; omega
      rcases h4 with rfl | rfl | rfl | rfl <;> rfl
    have hall : ([(x, y), (a, b), (d1, d2), (s1, s2)].all fun z => fin .f32 z.1 && fin .f32 z.2) = false := by
      have hf := H1.out
      simp only [List.all_cons, List.all_nil, Bool.and_true]
      rw [← Bool.and_assoc, hf]
      rfl
    rw [hall]
    rintro z w1 ⟨rfl, n, rfl⟩
    clear hall
    go_wp2_with fail
    go_ret2
    exact ⟨rfl, grown_drewN (Lib.grownBy_allocR (grown_drewN (calm_refl w) _) _) _⟩
  · have g1 := h1
    simp only [Bool.and_eq_true] at g1
    obtain ⟨⟨fx, fy⟩, fa, fb⟩ := g1
    have b1 : ∀ w, fres .sub .f32 x a w = subB x a := fun w => fres_some w (sub_some fx fa)
    have b2 : fask .sub .f32 x a = 0 := fask_some (sub_some fx fa)
    have b3 : ∀ w, fres .sub .f32 y b w = subB y b := fun w => fres_some w (sub_some fy fb)
    have b4 : fask .sub .f32 y b = 0 := fask_some (sub_some fy fb)
    have b5 : ∀ w, fres .add .f32 x a w = addB x a := fun w => fres_some w (add32_some fx fa)
    have b6 : fask .add .f32 x a = 0 := fask_some (add32_some fx fa)
    have b7 : ∀ w, fres .add .f32 y b w = addB y b := fun w => fres_some w (add32_some fy fb)
    have b8 : fask .add .f32 y b = 0 := fask_some (add32_some fy fb)
    have H1 := Lib.hid h1
    clear h1 fx fy fa fb
    obtain ⟨γ, hγ⟩ : ∃ γ, ((fin .f32 (subB x a) && fin .f32 (subB y b)) && (fin .f32 (addB x a) && fin .f32 (addB y b))) = γ := ⟨_, rfl⟩
    have hall : ([(x, y), (a, b), (subB x a, subB y b), (addB x a, addB y b)].all fun z => fin .f32 z.1 && fin .f32 z.2) = γ := by
      have hf := H1.out
      simp only [List.all_cons, List.all_nil, Bool.and_true]
      rw [← Bool.and_assoc, hf, hγ]
      rfl
    have HA := Lib.hid hall
    clear hall
    rcases hi with ⟨rfl, h2⟩ | ⟨h2, ⟨rfl, o1, o2⟩ | ⟨rfl, hz, hq, he, hf⟩⟩
    · have e : γ = false := hγ.symm.trans h2
      subst e
      clear hγ h2
      go_enter Try.func70, Try.ntmps70
      go_wp2_with fail
      refine (l2All_any _ [(x, y), (a, b), (subB x a, subB y b), (addB x a, addB y b)] _ _ (by simp) ?_).mono ?_
      · intro i hi
        refine built_cell _ (by simp) ?_
        have h4 : i = 0 ∨ i = 1 ∨ i = 2 ∨ i = 3 := by simp at hi; omega
        rcases h4 with rfl | rfl | rfl | rfl <;> rfl
      rw [HA.out]
      rintro z w1 ⟨rfl, n, rfl⟩
      go_wp2_with fail
      go_ret2
      exact ⟨rfl, grown_drewN (Lib.grownBy_allocR (grown_drewN (calm_refl w) _) _) _⟩
    · have e : γ = true := hγ.symm.trans h2
      subst e
      clear hγ h2
      go_enter Try.func70, Try.ntmps70
      go_wp2_with fail
      refine (l2All_any _ [(x, y), (a, b), (subB x a, subB y b), (addB x a, addB y b)] _ _ (by simp) ?_).mono ?_
      · intro i hi
        refine built_cell _ (by simp) ?_
        have h4 : i = 0 ∨ i = 1 ∨ i = 2 ∨ i = 3 := by simp at hi; omega
        rcases h4 with rfl | rfl | rfl | rfl <;> rfl
      rw [HA.out]
      rintro z w1 ⟨rfl, n, rfl⟩
      go_wp2_with fail
      go_ret2
      exact ⟨rfl, grown_drewN (Lib.grownBy_allocR (grown_drewN (calm_refl w) _) _) _⟩
    · have e0 : γ = true := hγ.symm.trans h2
      subst e0
      have HZ := Lib.hid hz
      have HF := Lib.hid (show (fin .f32 e && fin .f32 f) = true by rw [he, hf]; rfl)
      clear hγ h2 hz he hf
      go_enter Try.func70, Try.ntmps70
      go_wp2_with fail
      refine (l2All_any _ [(x, y), (a, b), (subB x a, subB y b), (addB x a, addB y b)] _ _ (by simp) ?_).mono ?_
      · intro i hi
        refine built_cell _ (by simp) ?_
        have h4 : i = 0 ∨ i = 1 ∨ i = 2 ∨ i = 3 := by simp at hi; omega
        rcases h4 with rfl | rfl | rfl | rfl <;> rfl
      rw [HA.out]
      rintro z w1 ⟨rfl, n, rfl⟩
      go_wp2_with fail
      · exact absurd (by simpa using ‹(FloatKind.f32.format.order (addB x a) 0 == some Ordering.eq) = true ∧ (FloatKind.f32.format.order (addB y b) 0 == some Ordering.eq) = true›) HZ.out
      refine (specFinite_any _ _ _).mono ?_
      rw [HF.out]
      rintro z w2 ⟨rfl, n2, rfl⟩
      go_wp2_with fail
      go_ret2
      exact ⟨rfl, grown_drewN (Lib.grownBy_allocR (grown_drewN (calm_refl w) _) _) _⟩

end Go.Proofs.Ytdmacimafkiijaa
