/-
  What the draws of parts and of numbers come to.
-/
import Derived.Test.YthbebgnjidaokaaDoorDraw
import Derived.Outline
namespace Go.Proofs.YthbebgnjidaokaaDoor
open Go.RowKit Fl

/-- The numbers that are drawn as parts. -/
def PartOk (v : Value) : Prop := ∃ x : Int, v = .int .i64 x ∧ -25000 ≤ x ∧ x ≤ 50000

theorem step_grown (w : World) (b : Nat) (v : Value) (m : Nat) : w.grownBy ((w.setCell ⟨b, 1, none⟩ v).drewN m) (some b) := grown_drewN (Lib.grownBy_setCell w b 1 v) m

/-- The numbers that are drawn, beyond those of thousandths: one of both parts is infinite or a NaN, or very great or small, or both are zeros. -/
def Odd (x y : Nat) (re im : Int) : Prop :=
  (x = 2139095040 ∧ y = milliB re) ∨ (x = milliB im ∧ (FloatKind.f32.format.read y).isNaN = true ∧ y < 2 ^ 32) ∨ (x = 2123789977 ∧ y = 4271273625) ∨ (x = 7136239 ∧ y = 0) ∨
  ((x = 0 ∨ x = 2147483648) ∧ (y = 0 ∨ y = 2147483648)) ∨ (x = 2137108966 ∧ y = milliB re)

def NumOk (n : Int) (v : Value) : Prop := ∃ (x y : Nat) (re im : Int), v = .complex .f32 x y ∧ -25000 ≤ re ∧ re ≤ 50000 ∧ -25000 ≤ im ∧ im ≤ 50000 ∧
  ((x = milliB re ∧ y = milliB im) ∨ (n ≠ 0 ∧ Odd x y re im))

theorem huge_words : floatBits .mul .f32 2123789977 1092616192 = some 2139095040 ∧ Op.negFloat .f32 2123789977 = 4271273625 ∧ floatBits .quo .f32 1065353216 2123789977 = some 7136239 ∧
    floatBits .mul .f32 2123789977 1077936128 = some 2137108966 ∧ floatBits .sub .f32 2139095040 2139095040 = none := ⟨by decide +kernel, by decide +kernel, by decide +kernel, by decide +kernel, by decide +kernel⟩

/-- A NaN that is asked of the tape is a word. -/
theorem nan_cut_lt (x y t : Nat) : (Question.nanBits .f32 x y).cut t < 2 ^ 32 := by
  show (t % 2) * 2 ^ 31 + 0x7f800000 + 1 + (t / 2) % (2 ^ 23 - 1) < 2 ^ 32
  have : t / 2 % (2 ^ 23 - 1) < 2 ^ 23 - 1 := Nat.mod_lt _ (by decide)
  omega

theorem nan_word {x y : Nat} (w : World) (h : floatBits .sub .f32 x y = none) : (FloatKind.f32.format.read (fres .sub .f32 x y w)).isNaN = true ∧ fres .sub .f32 x y w < 2 ^ 32 := by
  refine ⟨fres_none w h, ?_⟩
  unfold fres
  rw [h]
  exact nan_cut_lt ..

end Go.Proofs.YthbebgnjidaokaaDoor
