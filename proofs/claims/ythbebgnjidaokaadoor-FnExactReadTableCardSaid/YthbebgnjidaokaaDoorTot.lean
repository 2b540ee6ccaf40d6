/-
  What complex products, sums and differences give for every pair of words: some word, perhaps asked of the tape.
-/
import Derived.Test.YthbebgnjidaokaaDoorTwo
import Derived.Test.YthbebgnjidaokaaDoorWhole
namespace Go.Proofs.YthbebgnjidaokaaDoor
open Go.RowKit Fl

/-- It gives something, and asks so often. -/
def Tot {α : Type} (m : Sem α) : Prop := ∀ w : World, ∃ (x : α) (n : Nat), ∀ P : Program, m.run P w = .ok x (w.drewN n)

theorem tot_pure {α : Type} (x : α) : Tot (pure x : Sem α) := fun _ => ⟨x, 0, fun _ => rfl⟩
theorem tot_bind {α β : Type} {m : Sem α} {f : α → Sem β} (h : Tot m) (hf : ∀ x, Tot (f x)) : Tot (m >>= f) := by
  intro w
  obtain ⟨x, n, h1⟩ := h w
  obtain ⟨y, k, h2⟩ := hf x (w.drewN n)
  refine ⟨y, n + k, fun P => ?_⟩
  rw [Sem.run_bind, h1, Result.andThen_ok, h2]
  simp [World.drewN, Nat.add_assoc]

theorem tot_arith (op : BinOp) (hop : op = .add ∨ op = .sub ∨ op = .mul ∨ op = .quo) (k : FloatKind) (x y : Nat) : Tot (Op.Complex.arith op k x y) := by
  intro w
  refine ⟨fres op k x y w, fask op k x y, fun P => ?_⟩
  have h : (Op.floatArith op k x y).run P w = .ok (.float k (fres op k x y w)) (w.drewN (fask op k x y)) := by
    have := run_float_any P 0 k x y w op hop
    rcases hop with rfl | rfl | rfl | rfl <;> simpa [binOp] using this
  simp [Op.Complex.arith, h]

theorem tot_conv (s k : FloatKind) (x : Nat) : Tot (Op.Complex.conv s x k) := by
  intro w
  by_cases h : s = k
  · refine ⟨x, 0, fun P => ?_⟩
    unfold Op.Complex.conv
    rw [if_pos h]
    rfl
  · refine ⟨fconv s x k w, fcask s x k, fun P => ?_⟩
    unfold Op.Complex.conv
    rw [if_neg h]
    simp [run_fconv P s x k w]

theorem tot_product (a b c d : Nat) : Tot (Op.Complex.product a b c d) := by
  unfold Op.Complex.product
  refine tot_bind (tot_arith .mul (by simp) _ _ _) fun ac => tot_bind (tot_arith .mul (by simp) _ _ _) fun bd => tot_bind (tot_arith .sub (by simp) _ _ _) fun re => tot_bind (tot_arith .mul (by simp) _ _ _) fun ad => tot_bind (tot_arith .mul (by simp) _ _ _) fun bc => tot_bind (tot_arith .add (by simp) _ _ _) fun im => tot_pure _

theorem mul_total (a b c d : Nat) (w : World) : ∃ e f n : Nat, ∀ (P : Program) (t : TypeId), (binOp .mul t (.complex .f32 a b) (.complex .f32 c d)).run P w = .ok (.complex .f32 e f) (w.drewN n) := by
  have h : Tot (do
      let (x, y, z, u) := (← Op.Complex.conv .f32 a .f64, ← Op.Complex.conv .f32 b .f64, ← Op.Complex.conv .f32 c .f64, ← Op.Complex.conv .f32 d .f64)
      let (e, f) ← Op.Complex.product x y z u
      pure (← Op.Complex.conv .f64 e .f32, ← Op.Complex.conv .f64 f .f32) : Sem (Nat × Nat)) :=
    tot_bind (tot_conv _ _ _) fun x => tot_bind (tot_conv _ _ _) fun y => tot_bind (tot_conv _ _ _) fun z => tot_bind (tot_conv _ _ _) fun u =>
      tot_bind (tot_product _ _ _ _) fun ef => tot_bind (tot_conv _ _ _) fun e => tot_bind (tot_conv _ _ _) fun f => tot_pure _
  obtain ⟨⟨e, f⟩, n, h⟩ := h w
  refine ⟨e, f, n, fun P t => ?_⟩
  have h1 := h P
  have key : binOp .mul t (.complex .f32 a b) (.complex .f32 c d) = ((do
      let (x, y, z, u) := (← Op.Complex.conv .f32 a .f64, ← Op.Complex.conv .f32 b .f64, ← Op.Complex.conv .f32 c .f64, ← Op.Complex.conv .f32 d .f64)
      let (e, f) ← Op.Complex.product x y z u
      pure (← Op.Complex.conv .f64 e .f32, ← Op.Complex.conv .f64 f .f32) : Sem (Nat × Nat)) >>= fun p => pure (.complex .f32 p.1 p.2)) := by
    simp [binOp, Op.complexOp]
  rw [key, Sem.run_bind, h1, Result.andThen_ok]
  rfl

noncomputable def mulE (a b c d : Nat) (w : World) : Nat := Classical.choose (mul_total a b c d w)
noncomputable def mulF (a b c d : Nat) (w : World) : Nat := Classical.choose (Classical.choose_spec (mul_total a b c d w))
noncomputable def mulN (a b c d : Nat) (w : World) : Nat := Classical.choose (Classical.choose_spec (Classical.choose_spec (mul_total a b c d w)))
/-- What a product of two complex64 numbers gives (not for the walk's own use: where the product is known, that is laid). -/
theorem run_c_mul (P : Program) (t : TypeId) (a b c d : Nat) (w : World) : (binOp .mul t (.complex .f32 a b) (.complex .f32 c d)).run P w = .ok (.complex .f32 (mulE a b c d w) (mulF a b c d w)) (w.drewN (mulN a b c d w)) :=
  Classical.choose_spec (Classical.choose_spec (Classical.choose_spec (mul_total a b c d w))) P t

@[go_sem] theorem run_c_sub (P : Program) (t : TypeId) (k : FloatKind) (a b c d : Nat) (w : World) :
    (binOp .sub t (.complex k a b) (.complex k c d)).run P w = .ok (.complex k (fres .sub k a c w) (fres .sub k b d (w.drewN (fask .sub k a c)))) (w.drewN (fask .sub k a c + fask .sub k b d)) := by
  have h : ∀ x y w, (Op.floatArith .sub k x y).run P w = .ok (.float k (fres .sub k x y w)) (w.drewN (fask .sub k x y)) := by
    intro x y w
    have := run_float_sub P t k x y w
    simpa [binOp] using this
  simp [binOp, Op.complexOp, Op.Complex.arith, h]

end Go.Proofs.YthbebgnjidaokaaDoor
