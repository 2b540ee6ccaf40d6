/-
  The walk of FnMilli: it answers true.
-/
import Derived.Test.YtneheglollbcdaaDraw3
import Derived.Test.YtneheglollbcdaaMo
namespace Go.Proofs.Ytneheglollbcdaa
open Go.RowKit Fl

/-- Two whole numbers, of which nothing matters but that they are small. -/
def TwoInts (v : Value) : Prop := ∃ x y : Int, v = .tuple #[.int .i64 x, .int .i64 y] ∧ -20000000 ≤ x ∧ x ≤ 20000000 ∧ -20000000 ≤ y ∧ y ≤ 20000000

set_option maxHeartbeats 1000000 in
theorem drawMilli_any {a : Option Addr} {len cap : Nat} {zs : List Int} {w : World} (h : IsRow .u8 w a len cap zs) :
    Calls Try.prog 18 #[.slice a len cap] w (Got TwoInts w) := by
  go_enter Try.func18, Try.ntmps18
  go_wp2_with fail
  refine (open_any h).mono ?_
  rintro e w1 ⟨b, a1, len1, cap1, rfl, R1, hb, B1⟩
  go_wp2_with fail
  refine (part_any R1 (by omega)).mono ?_
  rintro e w2 ⟨v, k2, ⟨x, rfl, x0, x1⟩, rfl, hk2, R2, G2⟩
  have B2 := below_drawn B1 hb B1.size G2
  clear R1 G2 B1
  go_wp2_with fail
  refine (pick_any R2 (by omega) (by omega) (by omega)).mono ?_
  rintro e w3 ⟨y, m3, y0, y1, rfl, hw3⟩
  have R3 : Rd w3 b a1 len1 cap1 (k2 + 1) := by rw [hw3]; exact R2.step m3
  have B3 : Below w.heap.size w w3 := by rw [hw3]; exact below_drawn B2 hb B2.size (step_grown ..)
  clear hw3 R2 B2
  go_wp2_with fail
  refine (part_any R3 (by omega)).mono ?_
  rintro e w4 ⟨v, k4, ⟨z, rfl, z0, z1⟩, rfl, hk4, R4, G4⟩
  have B4 := below_drawn B3 hb B3.size G4
  clear R3 G4 B3
  go_wp2_with fail
  refine (pick_any R4 (by omega) (by omega) (by omega)).mono ?_
  rintro e w5 ⟨t, m5, t0, t1, rfl, hw5⟩
  have B5 : Below w.heap.size w w5 := by rw [hw5]; exact below_drawn B4 hb B4.size (step_grown ..)
  clear hw5 R4 B4
  go_wp2_with fail
  go_ret2
  exact ⟨_, ⟨_, _, rfl, by omega, by omega, by omega, by omega⟩, rfl, B5⟩

set_option maxHeartbeats 1000000 in
theorem FnMilli_walk (a : Option Addr) (len cap : Nat) (zs : List Int) (w : World) (h : IsRow .u8 w a len cap zs) :
    Calls Try.prog 4 #[.slice a len cap] w fun e w' => e = .returned (.bool true) ∧ Below w.heap.size w w' := by
  by_cases hl : (1048576 : Int) < (len : Int)
  · go_enter Try.func4, Try.ntmps4
    go_wp2_with fail
    go_ret
    exact ⟨rfl, Below.refl _ _⟩
  · have oz := order_eq fin_zero32
    go_enter Try.func4, Try.ntmps4
    go_wp2_with fail
    refine (drawMilli_any h).mono ?_
    rintro e w1 ⟨v, ⟨re, im, rfl, r0, r1, i0, i1⟩, rfl, B1⟩
    clear h
    go_wp2_with fail
    refine (implMilli_any _ _ _).mono ?_
    by_cases hm : (-9999999 ≤ re ∧ re ≤ 9999999) ∧ (-9999999 ≤ im ∧ im ≤ 9999999)
    · obtain ⟨⟨r2, r3⟩, i2, i3⟩ := hm
      have o1 : okM re = true := okM_iff.2 ⟨r2, r3⟩
      have o2 : okM im = true := okM_iff.2 ⟨i2, i3⟩
      have hz : milliV re im = .complex .f32 (milliB re) (milliB im) := by unfold milliV; rw [o1, o2]; rfl
      have hk : mOf (milliB re) (milliB im) = .tuple #[.int .i64 re, .int .i64 im, .bool true] := by
        have k1 : okK (milliB re) = true := by unfold okK; rw [kOf_milli r2 r3]; simp; omega
        have k2 : okK (milliB im) = true := by unfold okK; rw [kOf_milli i2 i3]; simp; omega
        unfold mOf
        rw [fin_milli r2 r3, fin_milli i2 i3, k1, k2, sK_milli r2 r3, sK_milli i2 i3]
        rfl
      have Z := Lib.hid hz
      have K := Lib.hid hk
      have F1 := Lib.hid (fin_milli r2 r3)
      have F2 := Lib.hid (fin_milli i2 i3)
      clear o1 o2 hz hk
      rw [Z.out]
      rintro e w2 ⟨rfl, rfl⟩
      go_wp2_with fail
      refine (specMilli_any _ _ _).mono ?_
      rw [Z.out]
      rintro e w2 ⟨rfl, rfl⟩
      go_wp2_with fail
      refine (sameBits_same _ _ _).mono ?_
      rintro e w2 ⟨rfl, n2, rfl⟩
      go_wp2_with fail
      refine (implMilliOf_any _ _ _).mono ?_
      rw [K.out]
      rintro e w2 ⟨rfl, n3, rfl⟩
      go_wp2_with fail
      refine (implFinite_any _ _ _).mono ?_
      rw [F1.out, F2.out]
      rintro e w2 ⟨rfl, n4, rfl⟩
      go_wp2_with fail
      go_ret
      exact ⟨rfl, below_drewN B1 _⟩
    · have hz : milliV re im = .complex .f32 0 0 := by
        unfold milliV
        cases h1 : okM re
        · rfl
        · cases h2 : okM im
          · rfl
          · exact absurd ⟨okM_iff.1 h1, okM_iff.1 h2⟩ hm
      have Z := Lib.hid hz
      clear hz
      rw [Z.out]
      rintro e w2 ⟨rfl, rfl⟩
      have hway : re < -9999999 ∨ (-9999999 ≤ re ∧ 9999999 < re) ∨ (-9999999 ≤ re ∧ re ≤ 9999999 ∧ im < -9999999) ∨ (-9999999 ≤ re ∧ re ≤ 9999999 ∧ -9999999 ≤ im ∧ 9999999 < im) := by omega
      clear hm
      rcases hway with hw | ⟨hw1, hw2⟩ | ⟨hw1, hw2, hw3⟩ | ⟨hw1, hw2, hw3, hw4⟩
      all_goals
        go_wp2_with fail
        refine (specMilli_any _ _ _).mono ?_
        rw [Z.out]
        rintro e w2 ⟨rfl, rfl⟩
        go_wp2_with fail
        refine (sameBits_same _ _ _).mono ?_
        rintro e w2 ⟨rfl, n2, rfl⟩
        go_wp2_with fail
        refine (alive_any _).mono ?_
        rintro e w2 ⟨rfl, rfl⟩
        go_wp2_with fail
        go_ret
        exact ⟨rfl, below_drewN B1 _⟩

end Go.Proofs.Ytneheglollbcdaa
