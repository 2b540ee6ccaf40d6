/-
  l8Between in the model.
-/
import Derived.Test.YthbebgnjidaokaaBet
import Derived.Test.YthbebgnjidaokaaAt
namespace Go.Proofs.Ythbebgnjidaokaa
open Go.RowKit Fl

theorem built3 {w : World} {a b c d e f : Nat} {T : TypeId} : ∀ i, i < [(a, b), (c, d), (e, f)].length → (w.alloc (.cells #[.complex .f32 a b, .complex .f32 c d, .complex .f32 e f] T)).cell? ⟨w.heap.size, i, none⟩ = some (.complex .f32 ([(a, b), (c, d), (e, f)].getD i (0, 0)).1 ([(a, b), (c, d), (e, f)].getD i (0, 0)).2) := by
  intro i hi
  have A := At.new w (.cells #[.complex .f32 a b, .complex .f32 c d, .complex .f32 e f] T)
  have h3 : i = 0 ∨ i = 1 ∨ i = 2 := by simp at hi; omega
  rcases h3 with rfl | rfl | rfl
  · exact A.cell (i := 0) rfl
  · exact A.cell (i := 1) rfl
  · exact A.cell (i := 2) rfl

set_option maxRecDepth 8000 in
set_option maxHeartbeats 1000000 in
theorem between_any {a b c d t : Nat} (ha : fin .f32 a = true) (hb : fin .f32 b = true) (hc : fin .f32 c = true) (hd : fin .f32 d = true) (T : Part t) (w : World) :
    Calls Try.prog 40 #[.complex .f32 a b, .complex .f32 c d, .complex .f32 t 0] w fun z w' => (∃ u v, z = .returned (.tuple #[.complex .f32 u v, .bool (betB (a, b) (c, d) t).isSome]) ∧ (betB (a, b) (c, d) t = none ∨ betB (a, b) (c, d) t = some (u, v))) ∧ Calm w w' := by
  have b1 : ∀ w, fres .sub .f32 c a w = sbW c a := fun w => fres_some w (sbW_some hc ha)
  have b2 : fask .sub .f32 c a = 0 := fask_some (sbW_some hc ha)
  have b3 : ∀ w, fres .sub .f32 d b w = sbW d b := fun w => fres_some w (sbW_some hd hb)
  have b4 : fask .sub .f32 d b = 0 := fask_some (sbW_some hd hb)
  cases hf : (fin .f32 (sbW c a) && fin .f32 (sbW d b))
  · have HB := Lib.hid (show betB (a, b) (c, d) t = none by unfold betB; rw [show (fin .f32 (sbW (c, d).1 (a, b).1) && fin .f32 (sbW (c, d).2 (a, b).2)) = false from hf]; rfl)
    have HF := Lib.hid hf
    have hm := run_c_mul Try.prog
    clear hf ha hb hc hd T
    go_enter Try.func40, Try.ntmps40
    go_wp2_with fail
    refine (l2All_any _ _ _ 3 (by simp) built3).mono ?_
    have hall : ∀ p o : Nat × Nat, ([(sbW c a, sbW d b), p, o].all fun z => fin .f32 z.1 && fin .f32 z.2) = false := by
      intro p o
      have hf := HF.out
      simp only [List.all_cons, List.all_nil, Bool.and_true]
      rw [hf]
      rfl
    rw [hall]
    rintro x w1 ⟨rfl, n, rfl⟩
    go_wp2_with fail
    go_ret2
    exact ⟨⟨_, _, by rw [HB.out]; rfl, .inl HB.out⟩, grown_drewN (calm_allocR (grown_drewN (grown_refl _ _) _) _) _⟩
  · have hf' := hf
    simp only [Bool.and_eq_true] at hf'
    obtain ⟨f1, f2⟩ := hf'
    obtain ⟨m1, m2, m3⟩ := pB_run f1 f2 T
    have hm := m1 Try.prog
    have c1 : ∀ w, fres .add .f32 a (pB (sbW c a) (sbW d b) t).1 w = adW a (pB (sbW c a) (sbW d b) t).1 := fun w => fres_some w (adW_some ha m2)
    have c2 : fask .add .f32 a (pB (sbW c a) (sbW d b) t).1 = 0 := fask_some (adW_some ha m2)
    have c3 : ∀ w, fres .add .f32 b (pB (sbW c a) (sbW d b) t).2 w = adW b (pB (sbW c a) (sbW d b) t).2 := fun w => fres_some w (adW_some hb m3)
    have c4 : fask .add .f32 b (pB (sbW c a) (sbW d b) t).2 = 0 := fask_some (adW_some hb m3)
    have HB := Lib.hid (show betB (a, b) (c, d) t = if fin .f32 (adW a (pB (sbW c a) (sbW d b) t).1) && fin .f32 (adW b (pB (sbW c a) (sbW d b) t).2) then some (adW a (pB (sbW c a) (sbW d b) t).1, adW b (pB (sbW c a) (sbW d b) t).2) else none by
      unfold betB
      rw [show (fin .f32 (sbW (c, d).1 (a, b).1) && fin .f32 (sbW (c, d).2 (a, b).2)) = true from hf]
      rfl)
    generalize pB (sbW c a) (sbW d b) t = p at *
    obtain ⟨e, f⟩ := p
    dsimp only at hm m2 m3 c1 c2 c3 c4 HB
    obtain ⟨β, hβ⟩ : ∃ β, (fin .f32 (adW a e) && fin .f32 (adW b f)) = β := ⟨_, rfl⟩
    have hall : ([(sbW c a, sbW d b), (e, f), (adW a e, adW b f)].all fun z => fin .f32 z.1 && fin .f32 z.2) = β := by
      simp only [List.all_cons, List.all_nil, Bool.and_true]
      rw [f1, f2, m2, m3, hβ]
      rfl
    rw [hβ] at HB
    have HA := Lib.hid hall
    clear hf f1 f2 m1 m2 m3 ha hb hc hd T hβ hall
    go_enter Try.func40, Try.ntmps40
    go_wp2_with fail
    refine (l2All_any _ _ _ 3 (by simp) built3).mono ?_
    rw [HA.out]
    rintro x w1 ⟨rfl, n, rfl⟩
    go_wp2_with fail
    go_ret2
    refine ⟨⟨adW a e, adW b f, ?_, ?_⟩, grown_drewN (calm_allocR (grown_refl _ _) _) _⟩
    · cases β <;> (rw [HB.out]; rfl)
    · cases β
      · exact .inl HB.out
      · exact .inr HB.out

end Go.Proofs.Ythbebgnjidaokaa
