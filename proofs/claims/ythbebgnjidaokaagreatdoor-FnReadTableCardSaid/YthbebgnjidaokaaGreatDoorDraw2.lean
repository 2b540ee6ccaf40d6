/-
  What the draws of parts and of numbers come to.
-/
import Derived.Test.YthbebgnjidaokaaGreatDoorDraw
import Derived.Outline
namespace Go.Proofs.YthbebgnjidaokaaGreatDoor
open Go.RowKit Fl

/-- The numbers that are drawn as parts. -/
def PartOk (v : Value) : Prop := ∃ x : Int, v = .int .i64 x ∧ -25000 ≤ x ∧ x ≤ 50000

theorem step_grown (w : World) (b : Nat) (v : Value) (m : Nat) : w.grownBy ((w.setCell ⟨b, 1, none⟩ v).drewN m) (some b) := grown_drewN (Lib.grownBy_setCell w b 1 v) m

set_option maxHeartbeats 1000000 in
theorem part_any {b len cap k : Nat} {a : Option Addr} {w : World} (R : Rd w b a len cap k) (hk : k < 900000) :
    Calls Tryz.prog 43 #[.pointer (some ⟨b, 0, none⟩)] w (Drawn PartOk b a len cap k 3 w) := by
  go_enter Tryz.func43, Tryz.ntmps43
  go_wp2_with fail
  refine (pick_any R (by omega) (by omega) (by omega)).mono ?_
  rintro e w1 ⟨x, m, x0, x1, rfl, hw1⟩
  have R1 : Rd w1 b a len cap (k + 1) := by rw [hw1]; exact R.step m
  have G1 : w.grownBy w1 (some b) := by rw [hw1]; exact step_grown ..
  clear hw1 x0 x1
  go_wp2_with fail
  · go_ret
    exact ⟨_, k + 1, ⟨0, rfl, by omega, by omega⟩, rfl, by omega, R1, G1⟩
  · have hlt := R1.lt
    have R2 := R1.alloc (.cells #[.int .i64 1000, .int .i64 (-1000), .int .i64 50000, .int .i64 500, .int .i64 (-250)] 3)
    refine (pick_any R2 (by omega) (by omega) (by omega)).mono ?_
    rintro e w2 ⟨y, m2, y0, y1, rfl, rfl⟩
    have R3 := R2.step m2
    go_wp2_with fail
    go_ret
    have R4 := ((R1.step 0).alloc (.cells #[.int .i64 1000, .int .i64 (-1000), .int .i64 50000, .int .i64 500, .int .i64 (-250)] 3)).drewN m2
    have G4 := grown_drewN (Lib.grownBy_allocR (Lib.grownBy_setB G1 1 (.int .i64 ((k : Int) + 1 + 1))) (.cells #[.int .i64 1000, .int .i64 (-1000), .int .i64 50000, .int .i64 500, .int .i64 (-250)] 3)) m2
    have hy : y = 0 ∨ y = 1 ∨ y = 2 ∨ y = 3 ∨ y = 4 := by omega
    rcases hy with rfl | rfl | rfl | rfl | rfl
    all_goals exact ⟨_, k + 2, ⟨_, rfl, by decide, by decide⟩, rfl, by omega, R4, G4⟩
  · refine (pick_any R1 (by omega) (by omega) (by omega)).mono ?_
    rintro e w2 ⟨y, m2, y0, y1, rfl, rfl⟩
    go_wp2_with fail
    go_ret
    exact ⟨_, k + 2, ⟨_, rfl, by omega, by omega⟩, rfl, by omega, R1.step m2, grown_drewN (Lib.grownBy_setB G1 1 _) m2⟩
  · refine (pick_any R1 (by omega) (by omega) (by omega)).mono ?_
    rintro e w2 ⟨y, m2, y0, y1, rfl, hw2⟩
    have R2 : Rd w2 b a len cap (k + 1 + 1) := by rw [hw2]; exact R1.step m2
    have G2 : w.grownBy w2 (some b) := by rw [hw2]; exact grown_drewN (Lib.grownBy_setB G1 1 _) m2
    clear hw2
    go_wp2_with fail
    refine (pick_any R2 (by omega) (by omega) (by omega)).mono ?_
    rintro e w3 ⟨z, m3, z0, z1, rfl, rfl⟩
    go_wp2_with fail
    go_ret
    exact ⟨_, k + 3, ⟨_, rfl, by omega, by omega⟩, rfl, by omega, R2.step m3, grown_drewN (Lib.grownBy_setB G2 1 _) m3⟩
  · refine (pick_any R1 (by omega) (by omega) (by omega)).mono ?_
    rintro e w2 ⟨y, m2, y0, y1, rfl, rfl⟩
    go_wp2_with fail
    go_ret
    exact ⟨_, k + 2, ⟨_, rfl, by omega, by omega⟩, rfl, by omega, R1.step m2, grown_drewN (Lib.grownBy_setB G1 1 _) m2⟩

set_option maxHeartbeats 400000 in
theorem odd_any {b len cap k : Nat} {a : Option Addr} {n : Int} {w : World} (R : Rd w b a len cap k) (hk : k < 900000) (h0 : 0 ≤ n) (h1 : n ≤ 1000000) :
    Calls Tryz.prog 44 #[.pointer (some ⟨b, 0, none⟩), .int .i64 n] w (Drawn (fun v => ∃ β : Bool, v = .bool β ∧ (n = 0 → β = false)) b a len cap k 1 w) := by
  by_cases hn : n = 0
  · subst hn
    go_enter Tryz.func44, Tryz.ntmps44
    go_wp2_with fail
    go_ret
    exact ⟨_, k, ⟨false, rfl, fun _ => rfl⟩, rfl, by omega, R, grown_refl _ _⟩
  · have hp : (0 : Int) < n := by omega
    go_enter Tryz.func44, Tryz.ntmps44
    go_wp2_with fail
    refine (pick_any R (by omega) (by omega) (by omega)).mono ?_
    rintro e w1 ⟨x, m, x0, x1, rfl, hw1⟩
    have R1 : Rd w1 b a len cap (k + 1) := by rw [hw1]; exact R.step m
    have G1 : w.grownBy w1 (some b) := by rw [hw1]; exact step_grown ..
    clear hw1
    go_wp2_with fail
    go_ret
    exact ⟨_, k + 1, ⟨_, rfl, fun h => absurd h hn⟩, rfl, by omega, R1, G1⟩

/-- The numbers that are drawn, beyond those of thousandths: one of both parts is infinite or a NaN, or very great or small, or both are zeros. -/
def Odd (x y : Nat) (re im : Int) : Prop :=
  (x = 2139095040 ∧ y = milliB re) ∨ (x = milliB im ∧ (FloatKind.f32.format.read y).isNaN = true ∧ y < 2 ^ 32) ∨ (x = 2123789977 ∧ y = 4271273625) ∨ (x = 7136239 ∧ y = 0) ∨
  ((x = 0 ∨ x = 2147483648) ∧ (y = 0 ∨ y = 2147483648)) ∨ (x = 2137108966 ∧ y = milliB re)

def NumOk (n : Int) (v : Value) : Prop := ∃ (x y : Nat) (re im : Int), v = .complex .f32 x y ∧ -25000 ≤ re ∧ re ≤ 50000 ∧ -25000 ≤ im ∧ im ≤ 50000 ∧
  ((x = milliB re ∧ y = milliB im) ∨ (n ≠ 0 ∧ Odd x y re im))

theorem huge_words : floatBits .mul .f32 2123789977 1092616192 = some 2139095040 ∧ Op.negFloat .f32 2123789977 = 4271273625 ∧ floatBits .quo .f32 1065353216 2123789977 = some 7136239 ∧
    floatBits .mul .f32 2123789977 1077936128 = some 2137108966 ∧ floatBits .sub .f32 2139095040 2139095040 = none := ⟨by decide +kernel, by decide +kernel, by decide +kernel, by decide +kernel, by decide +kernel⟩

/-- A NaN that is asked of the tape is a word. -/
theorem nan_cut_lt (x y t : Nat) : (Question.nanBits .f32 x y).cut t < 2 ^ 32 := by
  show (t % 2) * 2 ^ 31 + 0x7f800000 + 1 + (t / 2) % (2 ^ 23 - 1) < 2 ^ 32
  have : t / 2 % (2 ^ 23 - 1) < 2 ^ 23 - 1 := Nat.mod_lt _ (by decide)
  omega

theorem nan_word {x y : Nat} (w : World) (h : floatBits .sub .f32 x y = none) : (FloatKind.f32.format.read (fres .sub .f32 x y w)).isNaN = true ∧ fres .sub .f32 x y w < 2 ^ 32 := by
  refine ⟨fres_none w h, ?_⟩
  unfold fres
  rw [h]
  exact nan_cut_lt ..

set_option maxHeartbeats 1000000 in
theorem num_any {b len cap k : Nat} {a : Option Addr} {n : Int} {w : World} (R : Rd w b a len cap k) (hk : k < 800000) (h0 : 0 ≤ n) (h1 : n ≤ 1000000) :
    Calls Tryz.prog 46 #[.pointer (some ⟨b, 0, none⟩), .int .i64 n] w (Drawn (NumOk n) b a len cap k 8 w) := by
  obtain ⟨u1, u2, u3, u4, u5⟩ := huge_words
  have e1 : ∀ w, fres .mul .f32 2123789977 1092616192 w = 2139095040 := fun w => fres_some w u1
  have e2 : fask .mul .f32 2123789977 1092616192 = 0 := fask_some u1
  have e3 : ∀ w, fres .quo .f32 1065353216 2123789977 w = 7136239 := fun w => fres_some w u3
  have e4 : fask .quo .f32 1065353216 2123789977 = 0 := fask_some u3
  have e5 : ∀ w, fres .mul .f32 2123789977 1077936128 w = 2137108966 := fun w => fres_some w u4
  have e6 : fask .mul .f32 2123789977 1077936128 = 0 := fask_some u4
  clear u1 u3 u4
  have U5 := Lib.hid u5
  clear u5
  go_enter Tryz.func46, Tryz.ntmps46
  go_wp2_with fail
  refine (part_any R (by omega)).mono ?_
  rintro e w1 ⟨v1, k1, ⟨re, rfl, r0, r1⟩, rfl, hk1, R1, G1⟩
  go_wp2_with fail
  refine (part_any R1 (by omega)).mono ?_
  rintro e w2 ⟨v2, k2, ⟨im, rfl, i0, i1⟩, rfl, hk2, R2, G2⟩
  have G2 := Lib.grownBy_trans G1 G2
  clear G1 R1
  have ok1 : okM re = true := okM_iff.2 ⟨by omega, by omega⟩
  have ok2 : okM im = true := okM_iff.2 ⟨by omega, by omega⟩
  have hz : milliV re im = .complex .f32 (milliB re) (milliB im) := by unfold milliV; rw [ok1, ok2]; rfl
  have fr : fin .f32 (Op.negFloat .f32 (milliB re)) = true := fin_num.2 (neg_spec .f32 (milli_lt (by omega) (by omega)) (fin_num.1 (fin_milli (by omega) (by omega)))).1
  have fi : fin .f32 (Op.negFloat .f32 (milliB im)) = true := fin_num.2 (neg_spec .f32 (milli_lt (by omega) (by omega)) (fin_num.1 (fin_milli (by omega) (by omega)))).1
  obtain ⟨zr, zr1, zr2⟩ := mul_zero fr
  obtain ⟨zi, zi1, zi2⟩ := mul_zero fi
  have e7 : ∀ w, fres .mul .f32 (Op.negFloat .f32 (milliB re)) 0 w = zr := fun w => fres_some w zr1
  have e8 : fask .mul .f32 (Op.negFloat .f32 (milliB re)) 0 = 0 := fask_some zr1
  have e9 : ∀ w, fres .mul .f32 (Op.negFloat .f32 (milliB im)) 0 w = zi := fun w => fres_some w zi1
  have e10 : fask .mul .f32 (Op.negFloat .f32 (milliB im)) 0 = 0 := fask_some zi1
  have HZ := Lib.hid hz
  clear hz ok1 ok2 fr fi zr1 zi1
  go_wp2_with fail
  refine (specMilli_any _ _ _).mono ?_
  rintro e w3 ⟨rfl, rfl⟩
  rw [HZ.out]
  go_wp2_with fail
  refine (odd_any R2 (by omega) h0 h1).mono ?_
  rintro e w3 ⟨v3, k3, ⟨β, rfl, hβ⟩, rfl, hk3, R3, G3⟩
  have G3 := Lib.grownBy_trans G2 G3
  clear G2 R2
  have Hβ := Lib.hid hβ
  clear hβ
  cases β
  · go_wp2_with fail
    go_ret
    exact ⟨_, k3, ⟨_, _, re, im, rfl, r0, r1, i0, i1, .inl ⟨rfl, rfl⟩⟩, rfl, by omega, R3, G3⟩
  · have hn0 : n ≠ 0 := fun h => by have := Hβ.out h; cases this
    go_wp2_with fail
    refine (pick_any R3 (by omega) (by omega) (by omega)).mono ?_
    rintro e w4 ⟨x, m, x0, x1, rfl, hw4⟩
    have R4 : Rd w4 b a len cap (k3 + 1) := by rw [hw4]; exact R3.step m
    have G4 : w.grownBy w4 (some b) := by rw [hw4]; exact grown_drewN (Lib.grownBy_setB G3 1 _) m
    clear hw4
    go_wp2_with fail
    · go_ret
      exact ⟨_, k3 + 1, ⟨_, _, re, im, rfl, r0, r1, i0, i1, .inr ⟨hn0, .inl ⟨rfl, rfl⟩⟩⟩, rfl, by omega, R4, G4⟩
    · go_ret
      obtain ⟨q1, q2⟩ := nan_word w4 U5.out
      exact ⟨_, k3 + 1, ⟨_, _, re, im, rfl, r0, r1, i0, i1, .inr ⟨hn0, .inr (.inl ⟨rfl, q1, q2⟩)⟩⟩, rfl, by omega, R4.drewN _, grown_drewN G4 _⟩
    · go_ret
      exact ⟨_, k3 + 1, ⟨_, _, re, im, rfl, r0, r1, i0, i1, .inr ⟨hn0, .inr (.inr (.inl ⟨rfl, rfl⟩))⟩⟩, rfl, by omega, R4, G4⟩
    · go_ret
      exact ⟨_, k3 + 1, ⟨_, _, re, im, rfl, r0, r1, i0, i1, .inr ⟨hn0, .inr (.inr (.inr (.inl ⟨rfl, rfl⟩)))⟩⟩, rfl, by omega, R4, G4⟩
    · go_ret
      exact ⟨_, k3 + 1, ⟨_, _, re, im, rfl, r0, r1, i0, i1, .inr ⟨hn0, .inr (.inr (.inr (.inr (.inl ⟨zr2, zi2⟩))))⟩⟩, rfl, by omega, R4, G4⟩
    · go_ret
      exact ⟨_, k3 + 1, ⟨_, _, re, im, rfl, r0, r1, i0, i1, .inr ⟨hn0, .inr (.inr (.inr (.inr (.inr ⟨rfl, rfl⟩))))⟩⟩, rfl, by omega, R4, G4⟩

end Go.Proofs.YthbebgnjidaokaaGreatDoor
