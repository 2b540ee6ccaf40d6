/-
  Circles: blocks, the statements' comparisons, and what the model's ResistanceCircle, ReactanceCircle and OffCircle give.
-/
import Derived.Test.YteikkbmmbnihaaaWTwoOk
import Derived.Test.YteikkbmmbnihaaaSame
import Derived.Test.YteikkbmmbnihaaaTot
import Derived.Test.YteikkbmmbnihaaaInv
import Derived.Test.YteikkbmmbnihaaaPow
import Derived.Test.YteikkbmmbnihaaaAt
namespace Go.Proofs.Yteikkbmmbnihaaa
open Go.RowKit Fl


/-! What the circles' words are. -/

def addB (x y : Nat) : Nat := (floatBits .add .f32 x y).getD 0
def quoB (x y : Nat) : Nat := (floatBits .quo .f32 x y).getD 0
def one32 : Nat := 1065353216
/-- The resistance and 1. -/
def cN (m : Int) : Nat := addB (milliB m) 1065353216
def cM (m : Int) : Nat := quoB (milliB m) (cN m)
def cR (m : Int) : Nat := quoB 1065353216 (cN m)

theorem one32_spec : fin .f32 1065353216 = true ∧ V FloatKind.f32.format 1065353216 = 1 := ⟨by decide, by decide +kernel⟩

theorem quo_unit {x n : Nat} (hx : fin .f32 x = true) (hn : fin .f32 n = true) (h0 : 0 ≤ V FloatKind.f32.format x) (h1 : 1 ≤ V FloatKind.f32.format n) (h2 : V FloatKind.f32.format x ≤ 20000) :
    floatBits .quo .f32 x n = some (quoB x n) ∧ fin .f32 (quoB x n) = true ∧ ∃ X : Rat, X * V FloatKind.f32.format n = V FloatKind.f32.format x ∧ 0 ≤ X ∧ X ≤ V FloatKind.f32.format x ∧ RndV FloatKind.f32.format X (V FloatKind.f32.format (quoB x n)) := by
  have hn0 : V FloatKind.f32.format n ≠ 0 := by grind
  have hX : V FloatKind.f32.format x / V FloatKind.f32.format n * V FloatKind.f32.format n = V FloatKind.f32.format x := Rat.div_mul_cancel hn0
  generalize V FloatKind.f32.format x / V FloatKind.f32.format n = X at hX
  have x0 : 0 ≤ X := by
    rcases Rat.le_total (a := 0) (b := X) with g | g
    · exact g
    · by_cases he : X = 0
      · grind
      · have := Rat.mul_pos (show 0 < -X by grind) (show 0 < V FloatKind.f32.format n by grind)
        grind
  have x1 : X ≤ V FloatKind.f32.format x := by
    have := Rat.mul_nonneg x0 (show 0 ≤ V FloatKind.f32.format n - 1 by grind)
    grind
  have l := lim32.2
  obtain ⟨q, q1, q2, q3⟩ := quo_spec .f32 (fin_num.1 hx) (fin_num.1 hn) hn0 X hX (by grind) (by grind)
  have e : quoB x n = q := by unfold quoB; rw [q1]; rfl
  rw [e]
  exact ⟨q1, fin_num.2 q2, X, hX, x0, x1, q3⟩

theorem milli_pos {m : Int} (h0 : 0 ≤ m) (h1 : m ≤ 9999999) : fin .f32 (milliB m) = true ∧ 0 ≤ V FloatKind.f32.format (milliB m) ∧ V FloatKind.f32.format (milliB m) ≤ 20000 := by
  have hf := fin_milli (show -9999999 ≤ m by omega) h1
  have hk := sK_milli (show -9999999 ≤ m by omega) h1
  have hs := small_of_k (b := milliB m) (by rw [kOf_milli (by omega) h1]; omega)
  have hc := absR_cases (V FloatKind.f32.format (milliB m))
  refine ⟨hf, ?_, by grind⟩
  rcases hc with ⟨h, _⟩ | ⟨h, _⟩
  · have : sK (milliB m) = -(kOf (milliB m) : Int) := by unfold sK; rw [if_pos h]
    rw [hk] at this
    have hm : m = 0 := by omega
    subst hm
    have : V FloatKind.f32.format (milliB 0) = 0 := by decide +kernel
    grind
  · exact h

theorem cir_spec {m : Int} (h0 : 0 ≤ m) (h1 : m ≤ 9999999) :
    floatBits .add .f32 (milliB m) 1065353216 = some (cN m) ∧ fin .f32 (cN m) = true ∧ 1 ≤ V FloatKind.f32.format (cN m) ∧ RndV FloatKind.f32.format (V FloatKind.f32.format (milliB m) + 1) (V FloatKind.f32.format (cN m)) ∧
    floatBits .quo .f32 (milliB m) (cN m) = some (cM m) ∧ fin .f32 (cM m) = true ∧ floatBits .quo .f32 1065353216 (cN m) = some (cR m) ∧ fin .f32 (cR m) = true := by
  obtain ⟨f, v0, v1⟩ := milli_pos h0 h1
  obtain ⟨o1, o2⟩ := one32_spec
  have l := lim32.1
  obtain ⟨n, n1, n2, n3⟩ := add_spec .f32 (fin_num.1 f) (fin_num.1 o1) (by rw [o2]; grind) (by rw [o2]; grind)
  rw [o2] at n3
  have hn : 1 ≤ V FloatKind.f32.format n := rndV_ge n3 (by simpa using has_int (f := FloatKind.f32.format) (by decide) 1 (by decide)) (by grind)
  have e : cN m = n := by unfold cN addB; rw [n1]; rfl
  rw [← e] at n1 n2 n3 hn
  obtain ⟨q1, q2, _⟩ := quo_unit f (fin_num.2 n2) v0 hn v1
  obtain ⟨r1, r2, _⟩ := quo_unit o1 (fin_num.2 n2) (by rw [o2]; decide +kernel) hn (by rw [o2]; decide +kernel)
  exact ⟨n1, fin_num.2 n2, hn, n3, q1, q2, r1, r2⟩

/-! Off the circle. -/

def subB (x y : Nat) : Nat := (floatBits .sub .f32 x y).getD 0
def offB (d1 d2 r : Nat) : Nat := (floatBits .sub .f64 (powV d1 d2) (qW r)).getD 0

theorem sub_some {k : FloatKind} {x y : Nat} (hx : fin k x = true) (hy : fin k y = true) : floatBits .sub k x y = some ((floatBits .sub k x y).getD 0) := by
  obtain ⟨s, m, e, hr⟩ := num_read (fin_num.1 hx)
  obtain ⟨t, n, g, hs⟩ := num_read (fin_num.1 hy)
  cases h : floatBits .sub k x y with
  | some r => rfl
  | none =>
    exfalso
    have h' : k.format.sub x y = none := h
    unfold Ieee.Format.sub at h'
    rw [hr, hs] at h'
    obtain ⟨s', m', e', h1, _⟩ := sum_val s (!t) m n e g
    simp [Ieee.Datum.opposite, h1] at h'

def offV (z1 z2 m1 m2 r : Nat) : Value :=
  if (fin .f32 z1 && fin .f32 z2) && (fin .f32 m1 && fin .f32 m2) && (fin .f32 (subB z1 m1) && fin .f32 (subB z2 m2)) then .tuple #[.float .f64 (offB (subB z1 m1) (subB z2 m2) r), .bool true] else .tuple #[.float .f64 0, .bool false]

end Go.Proofs.Yteikkbmmbnihaaa
