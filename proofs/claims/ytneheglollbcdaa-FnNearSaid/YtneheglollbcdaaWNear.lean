/-
  The walk of FnNear: it answers true.
-/
import Derived.Test.YtneheglollbcdaaDraw3
import Derived.Test.YtneheglollbcdaaNear
import Derived.Deep.RegionWith
namespace Go.Proofs.Ytneheglollbcdaa
open Go.RowKit Fl

@[go_sem] theorem run_c_add (P : Program) (t : TypeId) (k : FloatKind) (a b c d : Nat) (w : World) :
    (binOp .add t (.complex k a b) (.complex k c d)).run P w = .ok (.complex k (fres .add k a c w) (fres .add k b d (w.drewN (fask .add k a c)))) (w.drewN (fask .add k a c + fask .add k b d)) := by
  have h : ∀ x y w, (Op.floatArith .add k x y).run P w = .ok (.float k (fres .add k x y w)) (w.drewN (fask .add k x y)) := by
    intro x y w
    have := run_float_add P t k x y w
    simpa [binOp] using this
  simp [binOp, Op.complexOp, Op.Complex.arith, h]

/-- Two numbers and a bound. -/
def NearDraw (v : Value) : Prop := ∃ x y z t d : Nat, v = .tuple #[.complex .f32 x y, .complex .f32 z t, .float .f64 d] ∧ fin .f64 d = true

set_option maxHeartbeats 1000000 in
theorem drawNear_any {a : Option Addr} {len cap : Nat} {zs : List Int} {w : World} (h : IsRow .u8 w a len cap zs) :
    Calls Try.prog 42 #[.slice a len cap] w (Got NearDraw w) := by
  go_enter Try.func42, Try.ntmps42
  go_wp2_with fail
  refine (open_any h).mono ?_
  rintro e w1 ⟨b, a1, len1, cap1, rfl, R1, hb, B1⟩
  go_wp2_with fail
  refine (num_any R1 (by omega) (by omega) (by omega)).mono ?_
  rintro e w2 ⟨v, k2, ⟨x, y, re, im, rfl, hx⟩, rfl, hk2, R2, G2⟩
  have B2 := below_drawn B1 hb B1.size G2
  clear R1 G2 B1 hx
  go_wp2_with fail
  refine (num_any R2 (by omega) (by omega) (by omega)).mono ?_
  rintro e w3 ⟨v, k3, ⟨z, t, re2, im2, rfl, hz⟩, rfl, hk3, R3, G3⟩
  have B3 := below_drawn B2 hb B2.size G3
  clear R2 G3 B2 hz
  go_wp2_with fail
  refine (pick_any R3 (by omega) (by omega) (by omega)).mono ?_
  rintro e w4 ⟨p, m4, p0, p1, rfl, hw4⟩
  have R4 : Rd w4 b a1 len1 cap1 (k3 + 1) := by rw [hw4]; exact R3.step m4
  have B4 : Below w.heap.size w w4 := by rw [hw4]; exact below_drawn B3 hb B3.size (step_grown ..)
  clear hw4 R3 B3
  go_wp2_with fail
  rotate_left
  · -- the second number as it was drawn
    have hlt := R4.lt
    go_region_with (go_at_call 49; refine Calls.mono (pick_any (a := a1) (len := len1) (cap := cap1) (k := k3 + 1) (by first | exact R4.drewN 1 | exact (R4.drewN 1).alloc _ | exact (R4.alloc _).drewN 1) (by omega) (by omega) (by omega)) ?_; rintro e w' ⟨p', m', q0, q1, rfl, rfl⟩)
    all_goals
      go_wp2_with fail
      go_ret3
      have hp : p' = 0 ∨ p' = 1 ∨ p' = 2 ∨ p' = 3 ∨ p' = 4 := by omega
      have Bs := fun v => B4.setCell (p := ⟨b, 1, none⟩) hb v
      have hsz := fun v => (Bs v).size
      rcases hp with rfl | rfl | rfl | rfl | rfl
      all_goals
        refine ⟨_, ⟨_, _, _, _, _, rfl, by decide⟩, rfl, ?_⟩
        first
          | exact below_drewN (Below.alloc (Bs _) (hsz _) _) _
          | exact Below.alloc (below_drewN (Bs _) _) (hsz _) _
  · -- the second number near the first one
    refine (pick_any R4 (by omega) (by omega) (by omega)).mono ?_
    rintro e w5 ⟨p2, m5, p20, p21, rfl, hw5⟩
    have R5 : Rd w5 b a1 len1 cap1 (k3 + 1 + 1) := by rw [hw5]; exact R4.step m5
    have B5 : Below w.heap.size w w5 := by rw [hw5]; exact below_drawn B4 hb B4.size (step_grown ..)
    clear hw5 R4 B4
    go_wp2_with fail
    refine (pick_any (R5.drewN _) (by omega) (by omega) (by omega)).mono ?_
    rintro e w6 ⟨p3, m6, p30, p31, rfl, hw6⟩
    have R6 : Rd w6 b a1 len1 cap1 (k3 + 1 + 1 + 1) := by rw [hw6]; exact (R5.drewN _).step m6
    have B6 : Below w.heap.size w w6 := by rw [hw6]; exact below_drawn (below_drewN B5 _) hb (below_drewN B5 _).size (step_grown ..)
    clear hw6 R5 B5
    go_wp2_with fail
    generalize fres BinOp.quo FloatKind.f32 (floatOfInt FloatKind.f32 p2) 1148846080 w5 = d2
    generalize fres BinOp.quo FloatKind.f32 (floatOfInt FloatKind.f32 p3) 1148846080 w6 = d3
    generalize fres BinOp.add FloatKind.f32 y d3 (w6.drewN (fask BinOp.quo FloatKind.f32 (floatOfInt FloatKind.f32 p3) 1148846080 + fask BinOp.add FloatKind.f32 x d2)) = u
    generalize fres BinOp.add FloatKind.f32 x d2 (w6.drewN (fask BinOp.quo FloatKind.f32 (floatOfInt FloatKind.f32 p3) 1148846080)) = v
    generalize fask BinOp.quo FloatKind.f32 (floatOfInt FloatKind.f32 p3) 1148846080 + (fask BinOp.add FloatKind.f32 x d2 + fask BinOp.add FloatKind.f32 y d3) = N
    have R7 := R6.drewN N
    have B7 := below_drewN B6 N
    generalize w6.drewN N = w7 at *
    clear R6 B6
    have hlt := R7.lt
    go_region_with (go_at_call 49; refine Calls.mono (pick_any (a := a1) (len := len1) (cap := cap1) (k := k3 + 1 + 1 + 1) (by first | exact R7.drewN 1 | exact (R7.drewN 1).alloc _ | exact (R7.alloc _).drewN 1) (by omega) (by omega) (by omega)) ?_; rintro e w' ⟨p', m', q0, q1, rfl, rfl⟩)
    all_goals
      go_wp2_with fail
      go_ret3
      have hp : p' = 0 ∨ p' = 1 ∨ p' = 2 ∨ p' = 3 ∨ p' = 4 := by omega
      have Bs := fun v => B7.setCell (p := ⟨b, 1, none⟩) hb v
      have hsz := fun v => (Bs v).size
      rcases hp with rfl | rfl | rfl | rfl | rfl
      all_goals
        refine ⟨_, ⟨_, _, _, _, _, rfl, by decide⟩, rfl, ?_⟩
        first
          | exact below_drewN (Below.alloc (Bs _) (hsz _) _) _
          | exact Below.alloc (below_drewN (Bs _) _) (hsz _) _

theorem near_self (x y : Nat) : nearB x y x y 0 = (fin .f32 x && fin .f32 y) := by
  have hp : ∀ a, fin .f32 a = true → nearP a a 0 = true := by
    intro a ha
    obtain ⟨_, _, _, d4⟩ := dW_spec ha ha
    have h0 : V FloatKind.f64.format (dW a a) = 0 := by
      have := rndV_exact d4 (by rw [Rat.sub_self]; exact has_zero _)
      rw [this, Rat.sub_self]
    unfold nearP
    rw [h0, zero64.2]
    decide +kernel
  unfold nearB
  cases hx : fin .f32 x
  · rfl
  · cases hy : fin .f32 y
    · rfl
    · rw [hp x hx, hp y hy]; rfl

set_option maxHeartbeats 1000000 in
theorem FnNear_walk (a : Option Addr) (len cap : Nat) (zs : List Int) (w : World) (h : IsRow .u8 w a len cap zs) :
    Calls Try.prog 11 #[.slice a len cap] w fun e w' => e = .returned (.bool true) ∧ Below w.heap.size w w' := by
  by_cases hl : (1048576 : Int) < (len : Int)
  · go_enter Try.func11, Try.ntmps11
    go_wp2_with fail
    go_ret
    exact ⟨rfl, Below.refl _ _⟩
  · go_enter Try.func11, Try.ntmps11
    go_wp2_with fail
    refine (drawNear_any h).mono ?_
    rintro e w1 ⟨v, ⟨x, y, z, t, d, rfl, hd⟩, rfl, B1⟩
    have D := Lib.hid hd
    clear h hd
    obtain ⟨β, hβ⟩ : ∃ β, nearB x y z t d = β := ⟨_, rfl⟩
    obtain ⟨γ, hγ⟩ : ∃ γ, (fin .f32 x && fin .f32 y) = γ := ⟨_, rfl⟩
    have HB := Lib.hid hβ
    have HS := Lib.hid ((nearB_swap x y z t d).trans hβ)
    have HG := Lib.hid hγ
    have HN := Lib.hid ((near_self x y).trans hγ)
    clear hβ hγ
    cases β <;> cases γ
    all_goals
      go_wp2_with fail
      refine (implNear_any _ _ _ _ _ _ D.out).mono ?_
      rw [HB.out]
      rintro e w2 ⟨rfl, n1, rfl⟩
      go_wp2_with fail
      refine (specNear_any _ _ _ _ _ _ D.out).mono ?_
      rw [HB.out]
      rintro e w2 ⟨rfl, n2, rfl⟩
      go_wp2_with fail
      refine (implNear_any _ _ _ _ _ _ D.out).mono ?_
      rw [HS.out]
      rintro e w2 ⟨rfl, n3, rfl⟩
      go_wp2_with fail
      refine (implNear_any _ _ _ _ _ _ (by decide)).mono ?_
      rw [HN.out]
      rintro e w2 ⟨rfl, n4, rfl⟩
      go_wp2_with fail
      refine (implFinite_any _ _ _).mono ?_
      rw [HG.out]
      rintro e w2 ⟨rfl, n5, rfl⟩
      go_wp2_with fail
      refine (alive_any _).mono ?_
      rintro e w2 ⟨rfl, rfl⟩
      go_wp2_with fail
      go_ret
      exact ⟨rfl, below_drewN B1 _⟩

end Go.Proofs.Ytneheglollbcdaa
