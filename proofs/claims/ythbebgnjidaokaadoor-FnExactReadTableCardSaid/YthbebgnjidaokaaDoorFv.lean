/-
  What the operations on floats give for every pair of words, a NaN asked of the tape where there is no number; and when a part of a number is finite.
-/
import Derived.Test.YthbebgnjidaokaaDoorFl
import Derived.Deep.Draws
namespace Go.Proofs.YthbebgnjidaokaaDoor
namespace Fl
open Ieee

/-- A word stands for a number (neither infinite nor a NaN). -/
def fin (k : FloatKind) (x : Nat) : Bool := isNum (k.format.read x)

theorem fin_num {k : FloatKind} {x : Nat} : fin k x = true ↔ num k.format x := Iff.rfl

/-- What an operation gives, in this world. -/
def fres (op : BinOp) (k : FloatKind) (x y : Nat) (w : World) : Nat :=
  match floatBits op k x y with
  | some r => r
  | none => (Question.nanBits k x y).cut (w.tape w.drawn (.nanBits k x y))

/-- How often it asks. -/
def fask (op : BinOp) (k : FloatKind) (x y : Nat) : Nat := if (floatBits op k x y).isSome then 0 else 1

theorem fres_some {op : BinOp} {k : FloatKind} {x y r : Nat} (w : World) (h : floatBits op k x y = some r) : fres op k x y w = r := by unfold fres; rw [h]
theorem fask_some {op : BinOp} {k : FloatKind} {x y r : Nat} (h : floatBits op k x y = some r) : fask op k x y = 0 := by unfold fask; rw [h]; rfl

section
variable (P : Program) (t : TypeId) (k : FloatKind) (x y : Nat) (w : World)

theorem run_float_any (op : BinOp) (hop : op = .add ∨ op = .sub ∨ op = .mul ∨ op = .quo) :
    (binOp op t (.float k x) (.float k y)).run P w = .ok (.float k (fres op k x y w)) (w.drewN (fask op k x y)) := by
  cases hf : floatBits op k x y with
  | some r =>
    rw [run_float_arith w op t k x y r hf, fres_some w hf, fask_some hf]
    rfl
  | none =>
    have h0 : fask op k x y = 1 := by unfold fask; rw [hf]; rfl
    have h1 : fres op k x y w = (Question.nanBits k x y).cut (w.tape w.drawn (.nanBits k x y)) := by unfold fres; rw [hf]
    rw [h0, h1]
    have hq : (Question.nanBits k x y).forced = false := rfl
    rcases hop with rfl | rfl | rfl | rfl <;> (unfold floatBits at hf; simp only at hf; simp [binOp, Op.floatArith, hf, hq]; rfl)

@[go_sem] theorem run_float_add : (binOp .add t (.float k x) (.float k y)).run P w = .ok (.float k (fres .add k x y w)) (w.drewN (fask .add k x y)) := run_float_any P t k x y w .add (by simp)
@[go_sem] theorem run_float_sub : (binOp .sub t (.float k x) (.float k y)).run P w = .ok (.float k (fres .sub k x y w)) (w.drewN (fask .sub k x y)) := run_float_any P t k x y w .sub (by simp)
@[go_sem] theorem run_float_mul : (binOp .mul t (.float k x) (.float k y)).run P w = .ok (.float k (fres .mul k x y w)) (w.drewN (fask .mul k x y)) := run_float_any P t k x y w .mul (by simp)
@[go_sem] theorem run_float_quo : (binOp .quo t (.float k x) (.float k y)).run P w = .ok (.float k (fres .quo k x y w)) (w.drewN (fask .quo k x y)) := run_float_any P t k x y w .quo (by simp)
end

/-- A NaN that is asked of the tape is one. -/
theorem nan_cut (k : FloatKind) (x y t : Nat) : (k.format.read ((Question.nanBits k x y).cut t)).isNaN = true := by
  cases k
  · show (single.read ((t % 2) * 2 ^ 31 + 0x7f800000 + 1 + (t / 2) % (2 ^ 23 - 1))).isNaN = true
    generalize ht : t / 2 = u
    have h2 : t % 2 = 0 ∨ t % 2 = 1 := by omega
    have hu : u % (2 ^ 23 - 1) < 2 ^ 23 - 1 := Nat.mod_lt _ (by decide)
    generalize u % (2 ^ 23 - 1) = v at *
    have hr : (t % 2 * 2 ^ 31 + 0x7f800000 + 1 + v) % single.signWeight = 0x7f800000 + 1 + v := by
      rw [show single.signWeight = 2 ^ 31 from rfl]
      omega
    unfold Format.read
    simp only
    rw [hr, if_neg (by rw [show single.binade = 2 ^ 23 from rfl]; omega), if_neg (by rw [show single.infRung = 0x7f800000 from by decide]; omega), if_neg (by rw [show single.infRung = 0x7f800000 from by decide]; omega)]
    rfl
  · show (double.read ((t % 2) * 2 ^ 63 + 0x7ff0000000000000 + 1 + (t / 2) % (2 ^ 52 - 1))).isNaN = true
    generalize ht : t / 2 = u
    have h2 : t % 2 = 0 ∨ t % 2 = 1 := by omega
    have hu : u % (2 ^ 52 - 1) < 2 ^ 52 - 1 := Nat.mod_lt _ (by decide)
    generalize u % (2 ^ 52 - 1) = v at *
    have hr : (t % 2 * 2 ^ 63 + 0x7ff0000000000000 + 1 + v) % double.signWeight = 0x7ff0000000000000 + 1 + v := by
      rw [show double.signWeight = 2 ^ 63 from rfl]
      omega
    unfold Format.read
    simp only
    rw [hr, if_neg (by rw [show double.binade = 2 ^ 52 from rfl]; omega), if_neg (by rw [show double.infRung = 0x7ff0000000000000 from by decide]; omega), if_neg (by rw [show double.infRung = 0x7ff0000000000000 from by decide]; omega)]
    rfl

theorem fres_none {op : BinOp} {k : FloatKind} {x y : Nat} (w : World) (h : floatBits op k x y = none) : (k.format.read (fres op k x y w)).isNaN = true := by
  unfold fres; rw [h]; exact nan_cut ..

theorem sub_self_none {k : FloatKind} {x : Nat} (h : fin k x = false) : floatBits .sub k x x = none := by
  unfold fin at h
  show k.format.sub x x = none
  unfold Format.sub
  cases hr : k.format.read x with
  | number => rw [hr] at h; cases h
  | infinity s => cases s <;> rfl
  | nan => rfl

theorem num_zero (k : FloatKind) : num k.format 0 ∧ V k.format 0 = 0 := by
  have h : k.format.read 0 = .number false 0 k.format.leastPlace := by cases k <;> decide
  unfold num V
  rw [h]
  exact ⟨rfl, by simp [val]⟩

theorem lim_pos (f : Format) : 0 < lim f := p2_pos _

/-- The test of Finite: the difference of a part and itself is 0. -/
@[go_sem] theorem fin_test (k : FloatKind) (x : Nat) (w : World) : (k.format.order (fres .sub k x x w) 0 == some .eq) = fin k x := by
  cases hx : fin k x
  · rw [order_not k.format (.inl (fres_none w (sub_self_none hx)))]
    rfl
  · have hn := fin_num.1 hx
    have hl := lim_pos k.format
    obtain ⟨r, h1, h2, h3⟩ := sub_spec k hn hn (by rw [Rat.sub_self]; exact hl) (by rw [Rat.sub_self]; grind)
    rw [fres_some w h1]
    obtain ⟨z1, z2⟩ := num_zero k
    have hz : V k.format r = 0 := by
      have := rndV_exact h3 (by rw [Rat.sub_self]; exact has_zero _)
      rw [this, Rat.sub_self]
    have := (order_spec k.format h2 z1).2.1.2 (by rw [hz, z2])
    rw [this]
    rfl

@[go_sem] theorem unary_neg_float (k : FloatKind) (b : Nat) : Op.unary .neg (.float k b) = pure (.float k (Op.negFloat k b)) := rfl

/-- Times 0 it is a zero. -/
theorem mul_zero {x : Nat} (h : fin .f32 x = true) : ∃ r, floatBits .mul .f32 x 0 = some r ∧ (r = 0 ∨ r = 2147483648) := by
  obtain ⟨s, m, e, hr⟩ := num_read (fin_num.1 h)
  have h0 : FloatKind.f32.format.read 0 = .number false 0 FloatKind.f32.format.leastPlace := by decide
  refine ⟨FloatKind.f32.format.write (.number (s ^^ false) (m * 0) (e + FloatKind.f32.format.leastPlace)), ?_, ?_⟩
  · show FloatKind.f32.format.mul x 0 = _
    unfold Format.mul
    rw [hr, h0]
    rfl
  · have key : FloatKind.f32.format.write (.number (s ^^ false) (m * 0) (e + FloatKind.f32.format.leastPlace)) = FloatKind.f32.format.word (s ^^ false) 0 := by
      show FloatKind.f32.format.nearest _ _ _ = _
      unfold Format.nearest
      rw [if_pos (by omega)]
    rw [key]
    cases s
    · left; decide
    · right; decide

/-! Conversions between the two kinds. -/

def fconv (s : FloatKind) (b : Nat) (k : FloatKind) (w : World) : Nat :=
  match floatToFloatBits s b k with
  | some r => r
  | none => match s.decode b with
    | .nan _ _ => (Question.nanConv k b).cut (w.tape w.drawn (.nanConv k b))
    | _ => (Question.floatToFloat b).cut (w.tape w.drawn (.floatToFloat b))

def fcask (s : FloatKind) (b : Nat) (k : FloatKind) : Nat := if (floatToFloatBits s b k).isSome then 0 else 1

theorem fconv_some {s : FloatKind} {b : Nat} {k : FloatKind} {r : Nat} (w : World) (h : floatToFloatBits s b k = some r) : fconv s b k w = r := by unfold fconv; rw [h]
theorem fcask_some {s : FloatKind} {b : Nat} {k : FloatKind} {r : Nat} (h : floatToFloatBits s b k = some r) : fcask s b k = 0 := by unfold fcask; rw [h]; rfl

theorem run_fconv (P : Program) (s : FloatKind) (b : Nat) (k : FloatKind) (w : World) : (Conv.floatToFloat s b k).run P w = .ok (.float k (fconv s b k w)) (w.drewN (fcask s b k)) := by
  cases h : floatToFloatBits s b k with
  | some r => rw [run_floatToFloat w h, fconv_some w h, fcask_some h]; rfl
  | none =>
    have h0 : fcask s b k = 1 := by unfold fcask; rw [h]; rfl
    rw [h0]
    unfold fconv
    rw [h]
    unfold floatToFloatBits at h
    split at h
    · cases h
    · rename_i hne
      have q1 : (Question.nanConv k b).forced = false := rfl
      have q2 : (Question.floatToFloat b).forced = false := rfl
      split at h
      · rename_i hd
        simp [Conv.floatToFloat, hne, hd, q1]; rfl
      · cases h
      · rename_i hd
        split at h
        · rename_i hi
          simp [Conv.floatToFloat, hne, hd, hi, q2]; rfl
        · cases h

@[go_sem] theorem run_convert_ff (P : Program) (src dst : TypeId) (s k : FloatKind) (b : Nat) (w : World) (hs : (P.underlying src).isSome = true) (hd : P.underlying dst = some (.float k)) :
    (convert src dst (.float s b)).run P w = .ok (.float k (fconv s b k w)) (w.drewN (fcask s b k)) := by
  obtain ⟨u, hs'⟩ := Option.isSome_iff_exists.1 hs
  cases u <;> simp [convert, run_underlying hs', run_underlying hd, run_fconv]

theorem nan_conv_cut (k : FloatKind) (b t : Nat) : (k.format.read ((Question.nanConv k b).cut t)).isNaN = true := by
  have := nan_cut k b b t
  cases k <;> exact this

theorem fconv_nan {b : Nat} (w : World) (h : (FloatKind.f32.format.read b).isNaN = true) : (FloatKind.f64.format.read (fconv .f32 b .f64 w)).isNaN = true := by
  unfold fconv
  have hd : ∃ s t, FloatKind.f32.decode b = .nan s t := by
    unfold FloatKind.decode
    cases hr : FloatKind.f32.format.read b with
    | nan s t => exact ⟨s, t, rfl⟩
    | number => rw [hr] at h; cases h
    | infinity => rw [hr] at h; cases h
  obtain ⟨s, t, hd⟩ := hd
  have hn : floatToFloatBits .f32 b .f64 = none := by
    unfold floatToFloatBits
    rw [if_neg (by decide), hd]
  rw [hn, hd]
  exact nan_conv_cut ..

theorem fconv_inf {b : Nat} {s : Bool} (h : FloatKind.f32.format.read b = .infinity s) : floatToFloatBits .f32 b .f64 = some (FloatKind.f64.format.word s FloatKind.f64.format.infRung) := by
  unfold floatToFloatBits
  have hd : FloatKind.f32.decode b = .infinity s := h
  rw [if_neg (by decide), hd]
  rfl

theorem order_self (f : Format) {x : Nat} (h : (f.read x).isNaN = false) : f.order x x = some .eq := by
  unfold Format.order
  cases hr : f.read x with
  | nan => rw [hr] at h; cases h
  | infinity s => cases s <;> rfl
  | number s m e =>
    show some (compare _ _) = _
    rw [Int.compare_eq_eq.2 rfl]

@[go_sem] theorem run_c_add (P : Program) (t : TypeId) (k : FloatKind) (a b c d : Nat) (w : World) :
    (binOp .add t (.complex k a b) (.complex k c d)).run P w = .ok (.complex k (fres .add k a c w) (fres .add k b d (w.drewN (fask .add k a c)))) (w.drewN (fask .add k a c + fask .add k b d)) := by
  have h : ∀ x y w, (Op.floatArith .add k x y).run P w = .ok (.float k (fres .add k x y w)) (w.drewN (fask .add k x y)) := by
    intro x y w
    have := run_float_add P t k x y w
    simpa [binOp] using this
  simp [binOp, Op.complexOp, Op.Complex.arith, h]

end Fl
end Go.Proofs.YthbebgnjidaokaaDoor
