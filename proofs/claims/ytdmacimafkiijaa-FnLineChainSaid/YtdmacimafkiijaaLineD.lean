/-
  What DrawLineChain draws: an impedance, sixteenths and thousandths.
-/
import Derived.Test.YtdmacimafkiijaaBehD
namespace Go.Proofs.Ytdmacimafkiijaa
open Go.RowKit Fl

/-- An impedance: a whole one, or any number. -/
def ZOk (x y : Nat) : Prop := (∃ n : Int, 1 ≤ n ∧ n ≤ 100 ∧ x = milliB (1000 * n) ∧ y = 0) ∨ NumOk 3 (.complex .f32 x y)

def LineDrawn (v : Value) : Prop := ∃ x y k l, v = .tuple #[.complex .f32 x y, .int .i64 k, .int .i64 l] ∧ ZOk x y ∧ (-40 ≤ k ∧ k < 33) ∧ 0 ≤ l ∧ l ≤ 249

set_option maxHeartbeats 2000000 in
theorem drawLineChain_any {a : Option Addr} {len cap : Nat} {zs : List Int} {w : World} (h : IsRow .u8 w a len cap zs) :
    Calls Try.prog 27 #[.slice a len cap] w (Got LineDrawn w) := by
  go_enter Try.func27, Try.ntmps27
  go_wp2_with fail
  refine (open_any h).mono ?_
  rintro e w1 ⟨b, a1, len1, cap1, rfl, R1, hb, B1⟩
  clear h
  go_wp2_with fail
  refine (pick_any R1 (by omega) (by omega) (by omega)).mono ?_
  rintro e w2 ⟨n, m2, n0, n1, rfl, hw2⟩
  have R2 : Rd w2 b a1 len1 cap1 (0 + 1) := by rw [hw2]; exact R1.step m2
  have B2 : Below w.heap.size w w2 := by rw [hw2]; exact below_drawn B1 hb B1.size (step_grown ..)
  have hz : milliV ((1 + n) * 1000) 0 = .complex .f32 (milliB (1000 * (1 + n))) 0 := by
    have e2 : milliB 0 = 0 := by decide +kernel
    unfold milliV
    rw [okM_iff.2 ⟨by omega, by omega⟩, e2, Int.mul_comm]
    rfl
  have HZ := Lib.hid hz
  have HQ := Lib.hid (show ZOk (milliB (1000 * (1 + n))) 0 from .inl ⟨1 + n, by omega, by omega, rfl, rfl⟩)
  generalize milliB (1000 * (1 + n)) = x at *
  clear hw2 R1 B1 hz
  go_wp2_with fail
  refine (specMilli_any _ _ _).mono ?_
  rw [HZ.out]
  rintro e w3 ⟨rfl, rfl⟩
  go_wp2_with fail
  refine (odd_any R2 (by omega) (by omega) (by omega)).mono ?_
  rintro z w4 ⟨v, k4, ⟨γ, rfl, _⟩, rfl, hk4, R4, G4⟩
  have B4 := below_drawn B2 hb B2.size G4
  clear R2 G4 B2
  cases γ
  · go_wp2_with fail
    refine (pick_any R4 (by omega) (by omega) (by omega)).mono ?_
    rintro e w5 ⟨k, m5, k0, k1, rfl, hw5⟩
    have R5 : Rd w5 b a1 len1 cap1 (k4 + 1) := by rw [hw5]; exact R4.step m5
    have B5 : Below w.heap.size w w5 := by rw [hw5]; exact below_drawn B4 hb B4.size (step_grown ..)
    clear hw5 R4 B4
    go_wp2_with fail
    refine (pick_any R5 (by omega) (by omega) (by omega)).mono ?_
    rintro e w6 ⟨s, m6, s0, s1, rfl, hw6⟩
    have R6 : Rd w6 b a1 len1 cap1 (k4 + 1 + 1) := by rw [hw6]; exact R5.step m6
    have B6 : Below w.heap.size w w6 := by rw [hw6]; exact below_drawn B5 hb B5.size (step_grown ..)
    clear hw6 R5 B5
    go_wp2_with fail
    refine (pick_any R6 (by omega) (by omega) (by omega)).mono ?_
    rintro e w7 ⟨t, m7, t0, t1, rfl, hw7⟩
    have R7 : Rd w7 b a1 len1 cap1 (k4 + 1 + 1 + 1) := by rw [hw7]; exact R6.step m7
    have B7 : Below w.heap.size w w7 := by rw [hw7]; exact below_drawn B6 hb B6.size (step_grown ..)
    clear hw7 R6 B6
    have hs : s = 0 ∨ s = 1 := by omega
    rcases hs with rfl | rfl
    all_goals
      go_wp2_with fail
      refine (pick_any R7 (by omega) (by omega) (by omega)).mono ?_
      rintro e w8 ⟨u, m8, u0, u1, rfl, hw8⟩
      have B8 : Below w.heap.size w w8 := by rw [hw8]; exact below_drawn B7 hb B7.size (step_grown ..)
      clear hw8 R7 B7
      go_wp2_with fail
      go_ret3
      exact ⟨_, ⟨_, _, _, _, rfl, HQ.out, by omega, by omega, by omega⟩, rfl, B8⟩
  · go_wp2_with fail
    refine (num_any R4 (by omega) (by omega) (by omega)).mono ?_
    rintro e w5 ⟨v, k5, hv, rfl, hk5, R5, G5⟩
    have HV := Lib.hid hv
    obtain ⟨x', y', re, im, rfl, hrest⟩ := hv
    have HQ' := Lib.hid (show ZOk x' y' from .inr HV.out)
    have B5 := below_drawn B4 hb B4.size G5
    clear hrest R4 B4 G5 HV
    go_wp2_with fail
    refine (pick_any R5 (by omega) (by omega) (by omega)).mono ?_
    rintro e w5 ⟨k, m5, k0, k1, rfl, hw5⟩
    have R5 : Rd w5 b a1 len1 cap1 (k5 + 1) := by rw [hw5]; exact R5.step m5
    have B5 : Below w.heap.size w w5 := by rw [hw5]; exact below_drawn B5 hb B5.size (step_grown ..)
    clear hw5
    go_wp2_with fail
    refine (pick_any R5 (by omega) (by omega) (by omega)).mono ?_
    rintro e w6 ⟨s, m6, s0, s1, rfl, hw6⟩
    have R6 : Rd w6 b a1 len1 cap1 (k5 + 1 + 1) := by rw [hw6]; exact R5.step m6
    have B6 : Below w.heap.size w w6 := by rw [hw6]; exact below_drawn B5 hb B5.size (step_grown ..)
    clear hw6 R5 B5
    go_wp2_with fail
    refine (pick_any R6 (by omega) (by omega) (by omega)).mono ?_
    rintro e w7 ⟨t, m7, t0, t1, rfl, hw7⟩
    have R7 : Rd w7 b a1 len1 cap1 (k5 + 1 + 1 + 1) := by rw [hw7]; exact R6.step m7
    have B7 : Below w.heap.size w w7 := by rw [hw7]; exact below_drawn B6 hb B6.size (step_grown ..)
    clear hw7 R6 B6
    have hs : s = 0 ∨ s = 1 := by omega
    rcases hs with rfl | rfl
    all_goals
      go_wp2_with fail
      refine (pick_any R7 (by omega) (by omega) (by omega)).mono ?_
      rintro e w8 ⟨u, m8, u0, u1, rfl, hw8⟩
      have B8 : Below w.heap.size w w8 := by rw [hw8]; exact below_drawn B7 hb B7.size (step_grown ..)
      clear hw8 R7 B7
      go_wp2_with fail
      go_ret3
      exact ⟨_, ⟨_, _, _, _, rfl, HQ'.out, by omega, by omega, by omega⟩, rfl, B8⟩

end Go.Proofs.Ytdmacimafkiijaa
