/-
  What a complex quotient gives for every pair of words: some word, perhaps asked of the tape.
-/
import Derived.Test.YthbebgnjidaokaaDoorTot
namespace Go.Proofs.YthbebgnjidaokaaDoor
open Go.RowKit Fl

theorem tot_cmp (op : BinOp) (hop : op = .geq ∨ op = .eql) (k : FloatKind) (x y : Nat) : Tot (Op.Complex.cmp op k x y) := by
  rcases hop with rfl | rfl
  · exact fun w => ⟨_, 0, fun P => rfl⟩
  · exact fun w => ⟨_, 0, fun P => rfl⟩

theorem tot_ite {α : Type} {c : Prop} [Decidable c] {m n : Sem α} (h1 : Tot m) (h2 : Tot n) : Tot (if c then m else n) := by
  split
  · exact h1
  · exact h2

theorem tot_corrected (s a b c d : Nat) : Tot (Op.Complex.corrected s a b c d) := by
  unfold Op.Complex.corrected Op.Complex.mul Op.Complex.add Op.Complex.sub
  repeat' first
    | with_reducible exact tot_pure _
    | with_reducible exact tot_arith _ (by simp) _ _ _
    | with_reducible refine tot_bind ?_ fun _ => ?_

theorem tot_quotient (a b c d : Nat) : Tot (Op.Complex.quotient a b c d) := by
  unfold Op.Complex.quotient Op.Complex.mul Op.Complex.add Op.Complex.sub Op.Complex.quo
  repeat' first
    | with_reducible exact tot_pure _
    | with_reducible exact tot_corrected _ _ _ _ _
    | with_reducible exact tot_cmp _ (by simp) _ _ _
    | with_reducible exact tot_arith _ (by simp) _ _ _
    | with_reducible refine tot_ite ?_ ?_
    | with_reducible refine tot_bind ?_ fun _ => ?_

theorem quo_total (a b c d : Nat) (w : World) : ∃ e f n : Nat, ∀ (P : Program) (t : TypeId), (binOp .quo t (.complex .f32 a b) (.complex .f32 c d)).run P w = .ok (.complex .f32 e f) (w.drewN n) := by
  have h : Tot (do
      let (x, y, z, u) := (← Op.Complex.conv .f32 a .f64, ← Op.Complex.conv .f32 b .f64, ← Op.Complex.conv .f32 c .f64, ← Op.Complex.conv .f32 d .f64)
      let (e, f) ← Op.Complex.quotient x y z u
      pure (← Op.Complex.conv .f64 e .f32, ← Op.Complex.conv .f64 f .f32) : Sem (Nat × Nat)) :=
    tot_bind (tot_conv _ _ _) fun x => tot_bind (tot_conv _ _ _) fun y => tot_bind (tot_conv _ _ _) fun z => tot_bind (tot_conv _ _ _) fun u =>
      tot_bind (tot_quotient _ _ _ _) fun ef => tot_bind (tot_conv _ _ _) fun e => tot_bind (tot_conv _ _ _) fun f => tot_pure _
  obtain ⟨⟨e, f⟩, n, h⟩ := h w
  refine ⟨e, f, n, fun P t => ?_⟩
  have h1 := h P
  have key : binOp .quo t (.complex .f32 a b) (.complex .f32 c d) = ((do
      let (x, y, z, u) := (← Op.Complex.conv .f32 a .f64, ← Op.Complex.conv .f32 b .f64, ← Op.Complex.conv .f32 c .f64, ← Op.Complex.conv .f32 d .f64)
      let (e, f) ← Op.Complex.quotient x y z u
      pure (← Op.Complex.conv .f64 e .f32, ← Op.Complex.conv .f64 f .f32) : Sem (Nat × Nat)) >>= fun p => pure (.complex .f32 p.1 p.2)) := by
    simp [binOp, Op.complexOp]
  rw [key, Sem.run_bind, h1, Result.andThen_ok]
  rfl

noncomputable def quoE (a b c d : Nat) (w : World) : Nat := Classical.choose (quo_total a b c d w)
noncomputable def quoF (a b c d : Nat) (w : World) : Nat := Classical.choose (Classical.choose_spec (quo_total a b c d w))
noncomputable def quoN (a b c d : Nat) (w : World) : Nat := Classical.choose (Classical.choose_spec (Classical.choose_spec (quo_total a b c d w)))
theorem run_c_quo (P : Program) (t : TypeId) (a b c d : Nat) (w : World) : (binOp .quo t (.complex .f32 a b) (.complex .f32 c d)).run P w = .ok (.complex .f32 (quoE a b c d w) (quoF a b c d w)) (w.drewN (quoN a b c d w)) :=
  Classical.choose_spec (Classical.choose_spec (Classical.choose_spec (quo_total a b c d w))) P t

end Go.Proofs.YthbebgnjidaokaaDoor
