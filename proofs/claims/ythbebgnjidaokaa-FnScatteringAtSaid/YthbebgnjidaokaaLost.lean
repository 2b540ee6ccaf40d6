/-
  What is not finite stays so: in sums, differences, and in the product with a real part; and what onTheWay gives in the program.
-/
import Derived.Test.YthbebgnjidaokaaBetS
namespace Go.Proofs.Ythbebgnjidaokaa
open Go.RowKit Fl
open Ieee

theorem inf_fin (k : FloatKind) (b : Bool) : fin k (k.format.write (.infinity b)) = false := by cases k <;> cases b <;> decide
theorem nan_finK {k : FloatKind} {x : Nat} (h : (k.format.read x).isNaN = true) : fin k x = false := by
  unfold fin
  cases hr : k.format.read x with
  | number => rw [hr] at h; cases h
  | infinity s => rw [hr] at h; cases h
  | nan => rfl
theorem sum_inf {x y d : Datum} (h : isNum x = false ∨ isNum y = false) (hs : Datum.sum x y = some d) : ∃ b, d = .infinity b := by
  cases x <;> cases y <;> simp [isNum, Datum.sum] at h hs
  · exact ⟨_, hs.symm⟩
  · exact ⟨_, hs.symm⟩
  · exact ⟨_, hs.2.symm⟩
theorem opp_num (x : Datum) : isNum x.opposite = isNum x := by cases x <;> rfl
theorem add_lost (k : FloatKind) {s q : Nat} (h : fin k s = false ∨ fin k q = false) (w : World) : fin k (fres .add k s q w) = false := by
  cases hf : floatBits .add k s q with
  | none => exact nan_finK (fres_none w hf)
  | some r =>
    rw [fres_some w hf]
    have hf' : (Datum.sum (k.format.read s) (k.format.read q)).map k.format.write = some r := hf
    cases hd : Datum.sum (k.format.read s) (k.format.read q) with
    | none => rw [hd] at hf'; cases hf'
    | some d =>
      obtain ⟨b, rfl⟩ := sum_inf h hd
      rw [hd] at hf'
      injection hf' with hf'
      rw [← hf']
      exact inf_fin k b
theorem sub_lost (k : FloatKind) {s q : Nat} (h : fin k s = false ∨ fin k q = false) (w : World) : fin k (fres .sub k s q w) = false := by
  cases hf : floatBits .sub k s q with
  | none => exact nan_finK (fres_none w hf)
  | some r =>
    rw [fres_some w hf]
    have hf' : (Datum.sum (k.format.read s) (k.format.read q).opposite).map k.format.write = some r := hf
    cases hd : Datum.sum (k.format.read s) (k.format.read q).opposite with
    | none => rw [hd] at hf'; cases hf'
    | some d =>
      obtain ⟨b, rfl⟩ := sum_inf (x := k.format.read s) (y := (k.format.read q).opposite) (by rcases h with h | h; exact .inl h; exact .inr (by rw [opp_num]; exact h)) hd
      rw [hd] at hf'
      injection hf' with hf'
      rw [← hf']
      exact inf_fin k b
theorem mul_lost {s : Nat} (h : fin .f64 s = false) (w : World) : fin .f64 (fres .mul .f64 s 0 w) = false := by
  cases hf : floatBits .mul .f64 s 0 with
  | none => exact nan_finK (fres_none w hf)
  | some r =>
    have hf' : (Datum.product (FloatKind.f64.format.read s) (FloatKind.f64.format.read 0)).map FloatKind.f64.format.write = some r := hf
    have z : FloatKind.f64.format.read 0 = .number false 0 (-1074) := by decide
    rw [z] at hf'
    unfold fin at h
    cases hr : FloatKind.f64.format.read s with
    | number => rw [hr] at h; cases h
    | infinity b => rw [hr] at hf'; simp [Datum.product] at hf'
    | nan => rw [hr] at hf'; simp [Datum.product] at hf'
theorem conv_lost {s k : FloatKind} {x : Nat} (hne : s ≠ k) (h : fin s x = false) (w : World) : fin k (fconv s x k w) = false := by
  unfold fin at h
  cases hr : s.format.read x with
  | number => rw [hr] at h; cases h
  | infinity b =>
    have hd : s.decode x = .infinity b := hr
    have hf : floatToFloatBits s x k = some (k.encode (.infinity b)) := by
      unfold floatToFloatBits
      rw [if_neg hne, hd]
    rw [fconv_some w hf]
    exact inf_fin k b
  | nan b t =>
    have hd : s.decode x = .nan b t := hr
    have hf : floatToFloatBits s x k = none := by
      unfold floatToFloatBits
      rw [if_neg hne, hd]
    unfold fconv
    rw [hf, hd]
    exact nan_finK (nan_conv_cut ..)
theorem conv_zero (w : World) : fconv .f32 0 .f64 w = 0 := fconv_some w (by decide)

/-- It gives something of a kind, and asks so often. -/
def TotP {α : Type} (p : α → Prop) (m : Sem α) : Prop := ∀ w : World, ∃ (x : α) (n : Nat), p x ∧ ∀ P : Program, m.run P w = .ok x (w.drewN n)
theorem totP_pure {α : Type} {p : α → Prop} {x : α} (h : p x) : TotP p (pure x : Sem α) := fun _ => ⟨x, 0, h, fun _ => rfl⟩
theorem totP_bind {α β : Type} {p : α → Prop} {q : β → Prop} {m : Sem α} {f : α → Sem β} (h : TotP p m) (hf : ∀ x, p x → TotP q (f x)) : TotP q (m >>= f) := by
  intro w
  obtain ⟨x, n, hx, h1⟩ := h w
  obtain ⟨y, k, hy, h2⟩ := hf x hx (w.drewN n)
  refine ⟨y, n + k, hy, fun P => ?_⟩
  rw [Sem.run_bind, h1, Result.andThen_ok, h2]
  simp [World.drewN, Nat.add_assoc]
theorem totP_arith {p : Nat → Prop} (op : BinOp) (hop : op = .add ∨ op = .sub ∨ op = .mul ∨ op = .quo) (k : FloatKind) (x y : Nat) (h : ∀ w, p (fres op k x y w)) : TotP p (Op.Complex.arith op k x y) := by
  intro w
  refine ⟨fres op k x y w, fask op k x y, h w, fun P => ?_⟩
  have h : (Op.floatArith op k x y).run P w = .ok (.float k (fres op k x y w)) (w.drewN (fask op k x y)) := by
    have := run_float_any P 0 k x y w op hop
    rcases hop with rfl | rfl | rfl | rfl <;> simpa [binOp] using this
  simp [Op.Complex.arith, h]
theorem totP_conv {p : Nat → Prop} (s k : FloatKind) (x : Nat) (hne : s ≠ k) (h : ∀ w, p (fconv s x k w)) : TotP p (Op.Complex.conv s x k) := by
  intro w
  refine ⟨fconv s x k w, fcask s x k, h w, fun P => ?_⟩
  unfold Op.Complex.conv
  rw [if_neg hne]
  simp [run_fconv P s x k w]

/-- A product with a real part, of a number that is not finite, is not finite. -/
theorem lost_product {x y z : Nat} (h : fin .f64 x = false ∨ fin .f64 y = false) : TotP (fun p : Nat × Nat => fin .f64 p.1 = false ∨ fin .f64 p.2 = false) (Op.Complex.product x y z 0) := by
  unfold Op.Complex.product
  refine totP_bind (p := fun _ => True) (totP_arith .mul (by simp) _ _ _ (fun _ => trivial)) fun ac _ => totP_bind (p := fun v => fin .f64 y = false → fin .f64 v = false) (totP_arith .mul (by simp) _ _ _ (fun w hy => mul_lost hy w)) fun bd hbd => totP_bind (p := fun v => fin .f64 y = false → fin .f64 v = false) (totP_arith .sub (by simp) _ _ _ (fun w hy => sub_lost .f64 (.inr (hbd hy)) w)) fun re hre => totP_bind (p := fun v => fin .f64 x = false → fin .f64 v = false) (totP_arith .mul (by simp) _ _ _ (fun w hx => mul_lost hx w)) fun ad had => totP_bind (p := fun _ => True) (totP_arith .mul (by simp) _ _ _ (fun _ => trivial)) fun bc _ => totP_bind (p := fun v => fin .f64 x = false → fin .f64 v = false) (totP_arith .add (by simp) _ _ _ (fun w hx => add_lost .f64 (.inl (had hx)) w)) fun im him => totP_pure ?_
  rcases h with h | h
  · exact .inr (him h)
  · exact .inl (hre h)

theorem lost_mul {a b t : Nat} (hab : fin .f32 a = false ∨ fin .f32 b = false) (w : World) : ∃ e f n : Nat, (fin .f32 e = false ∨ fin .f32 f = false) ∧ ∀ (P : Program) (ty : TypeId), (binOp .mul ty (.complex .f32 a b) (.complex .f32 t 0)).run P w = .ok (.complex .f32 e f) (w.drewN n) := by
  have h : TotP (fun p : Nat × Nat => fin .f32 p.1 = false ∨ fin .f32 p.2 = false) (do
      let (x, y, z, u) := (← Op.Complex.conv .f32 a .f64, ← Op.Complex.conv .f32 b .f64, ← Op.Complex.conv .f32 t .f64, ← Op.Complex.conv .f32 0 .f64)
      let (e, f) ← Op.Complex.product x y z u
      pure (← Op.Complex.conv .f64 e .f32, ← Op.Complex.conv .f64 f .f32) : Sem (Nat × Nat)) :=
    totP_bind (p := fun v => fin .f32 a = false → fin .f64 v = false) (totP_conv _ _ _ (by decide) (fun w h => conv_lost (by decide) h w)) fun x hx =>
    totP_bind (p := fun v => fin .f32 b = false → fin .f64 v = false) (totP_conv _ _ _ (by decide) (fun w h => conv_lost (by decide) h w)) fun y hy =>
    totP_bind (p := fun _ => True) (totP_conv _ _ _ (by decide) (fun _ => trivial)) fun z _ =>
    totP_bind (p := fun v => v = 0) (totP_conv _ _ _ (by decide) (fun w => conv_zero w)) fun u hu => by
      subst hu
      exact totP_bind (lost_product (hab.imp hx hy)) fun ef hef =>
        totP_bind (p := fun v => fin .f64 ef.1 = false → fin .f32 v = false) (totP_conv _ _ _ (by decide) (fun w h => conv_lost (by decide) h w)) fun e he =>
        totP_bind (p := fun v => fin .f64 ef.2 = false → fin .f32 v = false) (totP_conv _ _ _ (by decide) (fun w h => conv_lost (by decide) h w)) fun f hf =>
        totP_pure (hef.imp he hf)
  obtain ⟨⟨e, f⟩, n, hp, h⟩ := h w
  refine ⟨e, f, n, hp, fun P ty => ?_⟩
  have h1 := h P
  have key : binOp .mul ty (.complex .f32 a b) (.complex .f32 t 0) = ((do
      let (x, y, z, u) := (← Op.Complex.conv .f32 a .f64, ← Op.Complex.conv .f32 b .f64, ← Op.Complex.conv .f32 t .f64, ← Op.Complex.conv .f32 0 .f64)
      let (e, f) ← Op.Complex.product x y z u
      pure (← Op.Complex.conv .f64 e .f32, ← Op.Complex.conv .f64 f .f32) : Sem (Nat × Nat)) >>= fun p => pure (.complex .f32 p.1 p.2)) := by
    simp [binOp, Op.complexOp]
  rw [key, Sem.run_bind, h1, Result.andThen_ok]
  rfl

/-- What onTheWay gives: the number between, or one that is not finite. -/
def OnWay (x y : Nat × Nat) (t : Nat) (u v : Nat) : Prop := betB x y t = some (u, v) ∨ (betB x y t = none ∧ (fin .f32 u && fin .f32 v) = false)

set_option maxRecDepth 8000 in
set_option maxHeartbeats 1000000 in
theorem onTheWay_any {a b c d t : Nat} (ha : fin .f32 a = true) (hb : fin .f32 b = true) (hc : fin .f32 c = true) (hd : fin .f32 d = true) (T : Part t) (w : World) :
    Calls Try.prog 53 #[.complex .f32 a b, .complex .f32 c d, .float .f32 t] w fun z w' => ∃ u v, z = .returned (.complex .f32 u v) ∧ OnWay (a, b) (c, d) t u v ∧ ∃ n, w' = w.drewN n := by
  have b1 : ∀ w, fres .sub .f32 c a w = sbW c a := fun w => fres_some w (sbW_some hc ha)
  have b2 : fask .sub .f32 c a = 0 := fask_some (sbW_some hc ha)
  have b3 : ∀ w, fres .sub .f32 d b w = sbW d b := fun w => fres_some w (sbW_some hd hb)
  have b4 : fask .sub .f32 d b = 0 := fask_some (sbW_some hd hb)
  cases hf : (fin .f32 (sbW c a) && fin .f32 (sbW d b))
  · have HB := Lib.hid (show betB (a, b) (c, d) t = none by unfold betB; rw [show (fin .f32 (sbW (c, d).1 (a, b).1) && fin .f32 (sbW (c, d).2 (a, b).2)) = false from hf]; rfl)
    obtain ⟨e, f, n, hl, hm⟩ := lost_mul (t := t) (Bool.and_eq_false_iff.1 hf) (w.drewN 0)
    have hm := hm Try.prog
    have HL := Lib.hid hl
    clear hf ha hb hc hd T hl
    go_enter Try.func53, Try.ntmps53
    go_wp2_with fail
    go_ret
    refine ⟨_, _, rfl, .inr ⟨HB.out, ?_⟩, _, rfl⟩
    rw [Bool.and_eq_false_iff]
    exact HL.out.imp (fun h => add_lost .f32 (.inr h) _) (fun h => add_lost .f32 (.inr h) _)
  · have hf' := hf
    simp only [Bool.and_eq_true] at hf'
    obtain ⟨f1, f2⟩ := hf'
    obtain ⟨m1, m2, m3⟩ := pB_run f1 f2 T
    have hm := m1 Try.prog
    have c1 : ∀ w, fres .add .f32 a (pB (sbW c a) (sbW d b) t).1 w = adW a (pB (sbW c a) (sbW d b) t).1 := fun w => fres_some w (adW_some ha m2)
    have c2 : fask .add .f32 a (pB (sbW c a) (sbW d b) t).1 = 0 := fask_some (adW_some ha m2)
    have c3 : ∀ w, fres .add .f32 b (pB (sbW c a) (sbW d b) t).2 w = adW b (pB (sbW c a) (sbW d b) t).2 := fun w => fres_some w (adW_some hb m3)
    have c4 : fask .add .f32 b (pB (sbW c a) (sbW d b) t).2 = 0 := fask_some (adW_some hb m3)
    have HB := Lib.hid (show betB (a, b) (c, d) t = if fin .f32 (adW a (pB (sbW c a) (sbW d b) t).1) && fin .f32 (adW b (pB (sbW c a) (sbW d b) t).2) then some (adW a (pB (sbW c a) (sbW d b) t).1, adW b (pB (sbW c a) (sbW d b) t).2) else none by
      unfold betB
      rw [show (fin .f32 (sbW (c, d).1 (a, b).1) && fin .f32 (sbW (c, d).2 (a, b).2)) = true from hf]
      rfl)
    generalize pB (sbW c a) (sbW d b) t = p at *
    obtain ⟨e, f⟩ := p
    dsimp only at hm m2 m3 c1 c2 c3 c4 HB
    clear hf f1 f2 m1 m2 m3 ha hb hc hd T
    go_enter Try.func53, Try.ntmps53
    go_wp2_with fail
    go_ret
    refine ⟨adW a e, adW b f, rfl, ?_, 0, rfl⟩
    unfold OnWay
    rw [HB.out]
    cases hβ : (fin .f32 (adW a e) && fin .f32 (adW b f))
    · exact .inr ⟨rfl, rfl⟩
    · exact .inl rfl

end Go.Proofs.Ythbebgnjidaokaa
