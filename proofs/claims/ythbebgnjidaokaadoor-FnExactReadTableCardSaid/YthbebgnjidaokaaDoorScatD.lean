/-
  What the draws of scatterings come to: any matrix.
-/
import Derived.Test.YthbebgnjidaokaaDoorTotQ
import Derived.Test.YthbebgnjidaokaaDoorDrawT
import Derived.Test.YthbebgnjidaokaaDoorC3
namespace Go.Proofs.YthbebgnjidaokaaDoor
open Go.RowKit Fl

/-- A number, and whether it is told. -/
def ToldD (x : Ending) : Prop := ∃ (e f : Nat) (β : Bool), x = .returned (.tuple #[.complex .f32 e f, .bool β])
/-- A matrix, and whether it is told. -/
def ToldT (x : Ending) : Prop := ∃ (a b c d e f g h : Nat) (β : Bool), x = .returned (.tuple #[twoV a b c d e f g h, .bool β])

theorem sum_total (op : BinOp) (hop : op = .add ∨ op = .sub) (a b c d : Nat) (w : World) : ∃ e f n : Nat, ∀ (P : Program) (t : TypeId), (binOp op t (.complex .f32 a b) (.complex .f32 c d)).run P w = .ok (.complex .f32 e f) (w.drewN n) := by
  refine ⟨fres op .f32 a c w, fres op .f32 b d (w.drewN (fask op .f32 a c)), fask op .f32 a c + fask op .f32 b d, fun P t => ?_⟩
  have h : ∀ x y w, (Op.floatArith op .f32 x y).run P w = .ok (.float .f32 (fres op .f32 x y w)) (w.drewN (fask op .f32 x y)) := by
    intro x y w
    have := run_float_any P t .f32 x y w op (by rcases hop with rfl | rfl <;> simp)
    rcases hop with rfl | rfl <;> simpa [binOp] using this
  rcases hop with rfl | rfl <;> simp [binOp, Op.complexOp, Op.Complex.arith, h]

/-- A sum, difference, product or quotient of two complex64 numbers in a walk, whatever it gives. -/
theorem wpList_c_any {P : Program} (w : World) {ops : Array Oper} {rest : List Oper} {o : Oper} {a : Act} {Q : Exit → Act → World → Prop} (hg : o.guard = none) (op : BinOp) (t s : TypeId) (x y : Operand) (hop : o.op = Op.binOp op t x y s) (hm : (op = .mul ∨ op = .quo) ∨ (op = .add ∨ op = .sub))
    (A B C D : Nat) (hx : a.eval x = .complex .f32 A B) (hy : a.eval y = .complex .f32 C D) (hK : ∀ (e f n : Nat), wpList P ops Q rest (a.put o.dst (.complex .f32 e f)) (w.drewN n)) : wpList P ops Q (o :: rest) a w := by
  refine wpList_plain hg fun K hK' => ?_
  obtain ⟨e, f, n, h⟩ : ∃ e f n : Nat, ∀ (P : Program) (t : TypeId), (binOp op t (.complex .f32 A B) (.complex .f32 C D)).run P w = .ok (.complex .f32 e f) (w.drewN n) := by
    rcases hm with (rfl | rfl) | h
    · exact mul_total A B C D w
    · exact quo_total A B C D w
    · exact sum_total op h A B C D w
  have h' := h P t
  have hq : eqGuard op t x y (.complex .f32 A B) (.complex .f32 C D) = pure () := by
    rcases hm with (rfl | rfl) | (rfl | rfl) <;> rfl
  unfold Oper.wp
  simp only [execOp, hop, hx, hy, hq, pure_bind, Sem.run_bind, h', Result.andThen_ok]
  exact hK' _ _ (hK e f n)

theorem l2All_told3 (x0 y0 x1 y1 x2 y2 : Nat) (w : World) : Calls Tryd.prog 26 #[.slice (some ⟨w.heap.size, 0, none⟩) 3 3] (w.alloc (.cells #[.complex .f32 x0 y0, .complex .f32 x1 y1, .complex .f32 x2 y2] 33)) fun z w' => (∃ β : Bool, z = .returned (.bool β)) ∧ Calm (w.alloc (.cells #[.complex .f32 x0 y0, .complex .f32 x1 y1, .complex .f32 x2 y2] 33)) w' := by
  refine (l2All_any _ [(x0, y0), (x1, y1), (x2, y2)] _ _ (by simp) ?_).mono ?_
  · intro i hi
    refine built_cell _ (by simp) ?_
    have h : i = 0 ∨ i = 1 ∨ i = 2 := by simp at hi; omega
    rcases h with rfl | rfl | rfl <;> rfl
  rintro z w1 ⟨rfl, n, rfl⟩
  exact ⟨⟨_, rfl⟩, grown_drewN (grown_refl _ _) n⟩

theorem l2All_told5 (x0 y0 x1 y1 x2 y2 x3 y3 x4 y4 : Nat) (w : World) : Calls Tryd.prog 26 #[.slice (some ⟨w.heap.size, 0, none⟩) 5 5] (w.alloc (.cells #[.complex .f32 x0 y0, .complex .f32 x1 y1, .complex .f32 x2 y2, .complex .f32 x3 y3, .complex .f32 x4 y4] 33)) fun z w' => (∃ β : Bool, z = .returned (.bool β)) ∧ Calm (w.alloc (.cells #[.complex .f32 x0 y0, .complex .f32 x1 y1, .complex .f32 x2 y2, .complex .f32 x3 y3, .complex .f32 x4 y4] 33)) w' := by
  refine (l2All_any _ [(x0, y0), (x1, y1), (x2, y2), (x3, y3), (x4, y4)] _ _ (by simp) ?_).mono ?_
  · intro i hi
    refine built_cell _ (by simp) ?_
    have h : i = 0 ∨ i = 1 ∨ i = 2 ∨ i = 3 ∨ i = 4 := by simp at hi; omega
    rcases h with rfl | rfl | rfl | rfl | rfl <;> rfl
  rintro z w1 ⟨rfl, n, rfl⟩
  exact ⟨⟨_, rfl⟩, grown_drewN (grown_refl _ _) n⟩

/-- The same, and the world behind is any that keeps what is asked. -/
theorem wpList_c_keep {P : Program} (S : World → Prop) (w : World) {ops : Array Oper} {rest : List Oper} {o : Oper} {a : Act} {Q : Exit → Act → World → Prop} (hg : o.guard = none) (op : BinOp) (t s : TypeId) (x y : Operand) (hop : o.op = Op.binOp op t x y s) (hm : (op = .mul ∨ op = .quo) ∨ (op = .add ∨ op = .sub))
    (A B C D : Nat) (hx : a.eval x = .complex .f32 A B) (hy : a.eval y = .complex .f32 C D) (hS : S w) (hd : ∀ v n, S v → S (v.drewN n)) (hK : ∀ (e f : Nat) (v : World), S v → wpList P ops Q rest (a.put o.dst (.complex .f32 e f)) v) : wpList P ops Q (o :: rest) a w :=
  wpList_c_any w hg op t s x y hop hm A B C D hx hy fun e f n => hK e f _ (hd w n hS)

theorem specTwoOk_told (a b c d e f g h : Nat) (w : World) : Calls Tryd.prog 20 #[twoV a b c d e f g h] w fun z w' => (∃ β : Bool, z = .returned (.bool β)) ∧ Calm w w' :=
  (specTwoOk_any a b c d e f g h w).mono fun _ _ H => ⟨⟨_, H.1⟩, H.2⟩

/-- A matrix, and the result's place. -/
structure Duo (w0 w : World) (S a b c d e f g h : Nat) : Prop where
  m : Blk w S a b c d e f g h
  z : Blk w (S + 1) 0 0 0 0 0 0 0 0
  c : Calm w0 w
theorem Duo.calm {w0 w w' : World} {S a b c d e f g h : Nat} (H : Duo w0 w S a b c d e f g h) (C : Calm w w') : Duo w0 w' S a b c d e f g h := ⟨H.m.calm C, H.z.calm C, calm_trans H.c C⟩
theorem Duo.alloc {w0 w : World} {S a b c d e f g h : Nat} (H : Duo w0 w S a b c d e f g h) (o : Obj) : Duo w0 (w.alloc o) S a b c d e f g h := H.calm (World.grownBy_alloc w o none)
theorem Duo.drewN {w0 w : World} {S a b c d e f g h : Nat} (H : Duo w0 w S a b c d e f g h) (n : Nat) : Duo w0 (w.drewN n) S a b c d e f g h := H.calm (grown_drewN (grown_refl _ _) n)
theorem Duo.new (w : World) (a b c d e f g h : Nat) : Duo w ((w.alloc (.cells #[.complex .f32 a b, .complex .f32 c d, .complex .f32 e f, .complex .f32 g h] 37)).alloc (.cells #[.complex .f32 0 0, .complex .f32 0 0, .complex .f32 0 0, .complex .f32 0 0] 37)) w.heap.size a b c d e f g h := by
  have Q := Blk.new (w.alloc (.cells #[.complex .f32 a b, .complex .f32 c d, .complex .f32 e f, .complex .f32 g h] 37)) 0 0 0 0 0 0 0 0
  rw [show (w.alloc (.cells #[.complex .f32 a b, .complex .f32 c d, .complex .f32 e f, .complex .f32 g h] 37)).heap.size = w.heap.size + 1 by simp] at Q
  exact ⟨(Blk.new w a b c d e f g h).alloc _, Q, calm_allocR (calm_new w _) _⟩

theorem specTwoOk_duo {w0 v : World} {S a b c d e f g h : Nat} (H : Duo w0 v S a b c d e f g h) (e1 f1 e2 f2 e3 f3 e4 f4 : Nat) :
    Calls Tryd.prog 20 #[twoV e1 f1 e2 f2 e3 f3 e4 f4] (v.alloc (.cells #[.complex .f32 e1 f1, .complex .f32 e2 f2, .complex .f32 e3 f3, .complex .f32 e4 f4] 37)) fun z w' => (∃ β : Bool, z = .returned (.bool β)) ∧ Hid (Blk w' v.heap.size e1 f1 e2 f2 e3 f3 e4 f4) ∧ Hid (Duo w0 w' S a b c d e f g h) :=
  (specTwoOk_any e1 f1 e2 f2 e3 f3 e4 f4 _).mono fun _ _ K => ⟨⟨_, K.1⟩, Lib.hid ((Blk.new v e1 f1 e2 f2 e3 f3 e4 f4).calm K.2), Lib.hid ((H.alloc (.cells #[.complex .f32 e1 f1, .complex .f32 e2 f2, .complex .f32 e3 f3, .complex .f32 e4 f4] 37)).calm K.2)⟩

end Go.Proofs.YthbebgnjidaokaaDoor
