/-
  What the draws of loads and of references come to.
-/
import Derived.Test.YteikkbmmbnihaaaDraw3
namespace Go.Proofs.Yteikkbmmbnihaaa
open Go.RowKit Fl

/-- A load: thousandths, the resistance not less than 0; or any number. -/
def LoadOk (v : Value) : Prop := (∃ re im : Int, v = .complex .f32 (milliB re) (milliB im) ∧ 0 ≤ re ∧ re ≤ 50000 ∧ -25000 ≤ im ∧ im ≤ 50000) ∨ NumOk 2 v

/-- A reference: one of these, or any number. -/
def RefOk (v : Value) : Prop := (v = .complex .f32 1065353216 0 ∨ v = .complex .f32 1112014848 0 ∨ v = .complex .f32 1117126656 0 ∨ v = .complex .f32 1112014848 1092616192 ∨ v = .complex .f32 0 0) ∨ NumOk 1 v

theorem re4 (x y : Int) (q : Nat) (h : q < 4) (x0 : 0 ≤ x) (x1 : x < 200) (y0 : 0 ≤ y) (y1 : y < 250) : ∃ m : Int, #[Value.int .i64 0, .int .i64 1000, .int .i64 (x * 250), .int .i64 y][q]'h = .int .i64 m ∧ 0 ≤ m ∧ m ≤ 50000 := by
  have hq : q = 0 ∨ q = 1 ∨ q = 2 ∨ q = 3 := by omega
  rcases hq with rfl | rfl | rfl | rfl
  · exact ⟨_, rfl, by omega, by omega⟩
  · exact ⟨_, rfl, by omega, by omega⟩
  · exact ⟨_, rfl, by omega, by omega⟩
  · exact ⟨_, rfl, by omega, by omega⟩
theorem im5 (x y : Int) (q : Nat) (h : q < 5) (x0 : 0 ≤ x) (x1 : x < 200) (y0 : 0 ≤ y) (y1 : y < 250) : ∃ m : Int, #[Value.int .i64 0, .int .i64 1000, .int .i64 (-1000), .int .i64 (x * 250 - 25000), .int .i64 (y - 125)][q]'h = .int .i64 m ∧ -25000 ≤ m ∧ m ≤ 50000 := by
  have hq : q = 0 ∨ q = 1 ∨ q = 2 ∨ q = 3 ∨ q = 4 := by omega
  rcases hq with rfl | rfl | rfl | rfl | rfl
  · exact ⟨_, rfl, by omega, by omega⟩
  · exact ⟨_, rfl, by omega, by omega⟩
  · exact ⟨_, rfl, by omega, by omega⟩
  · exact ⟨_, rfl, by omega, by omega⟩
  · exact ⟨_, rfl, by omega, by omega⟩

theorem Rd.pickedA' {w : World} {b : Nat} {a : Option Addr} {len cap k : Nat} (R : Rd w b a len cap k) (o : Obj) (m : Nat) : Rd (((w.setCell ⟨b, 1, none⟩ (.int .i64 ((k : Int) + 1))).alloc o).drewN m) b a len cap (k + 1) :=
  ((R.step 0).alloc o).drewN m
theorem grown_pickedA' {a w : World} {b k : Nat} (h : a.grownBy w (some b)) (o : Obj) (m : Nat) : a.grownBy (((w.setCell ⟨b, 1, none⟩ (.int .i64 ((k : Int) + 1))).alloc o).drewN m) (some b) :=
  grown_drewN (Lib.grownBy_allocR (Lib.grownBy_setB h 1 _) o) m

set_option maxHeartbeats 4000000 in
theorem load_any {b len cap k : Nat} {a : Option Addr} {n : Int} {w : World} (R : Rd w b a len cap k) (hk : k < 700000) (h0 : 0 ≤ n) (h1 : n ≤ 1000000) :
    Calls Try.prog 50 #[.pointer (some ⟨b, 0, none⟩), .int .i64 n] w (Drawn LoadOk b a len cap k 10 w) := by
  go_enter Try.func50, Try.ntmps50
  go_wp2_with fail
  refine (odd_any R (by omega) h0 h1).mono ?_
  rintro e w1 ⟨v, k1, ⟨β, rfl, _⟩, rfl, hk1, R1, G1⟩
  cases β
  · go_wp2_with fail
    refine (pick_any R1 (by omega) (by omega) (by omega)).mono ?_
    rintro e w2 ⟨x1, m1, x1a, x1b, rfl, hw2⟩
    have R2 : Rd w2 b a len cap (k1 + 1) := by rw [hw2]; exact R1.step m1
    have G2 : w.grownBy w2 (some b) := by rw [hw2]; exact grown_drewN (Lib.grownBy_setB G1 1 _) m1
    clear hw2 R1 G1
    go_wp2_with fail
    refine (pick_any R2 (by omega) (by omega) (by omega)).mono ?_
    rintro e w3 ⟨x2, m2, x2a, x2b, rfl, hw3⟩
    have R3 : Rd w3 b a len cap (k1 + 1 + 1) := by rw [hw3]; exact R2.step m2
    have G3 : w.grownBy w3 (some b) := by rw [hw3]; exact grown_drewN (Lib.grownBy_setB G2 1 _) m2
    clear hw3 R2 G2
    go_wp2_with fail
    have hlt := R3.lt
    obtain ⟨K, hK⟩ : ∃ K, k1 + 1 + 1 = K := ⟨_, rfl⟩
    rw [hK] at R3
    refine (pick_any (R3.alloc _) (by omega) (by omega) (by omega)).mono ?_
    rintro e w4 ⟨q, m3, q0, q1, rfl, rfl⟩
    go_wp2_with fail
    have hq : q.toNat < 4 := by omega
    obtain ⟨re, hM, M0, M1⟩ := re4 x1 x2 q.toNat hq x1a x1b x2a x2b
    simp only [List.getElem_toArray] at hM
    rw [hM]
    have R4 := R3.pickedA' (.cells #[.int .i64 0, .int .i64 1000, .int .i64 (x1 * 250), .int .i64 x2] 3) m3
    have G4 := grown_pickedA' (k := K) G3 (.cells #[.int .i64 0, .int .i64 1000, .int .i64 (x1 * 250), .int .i64 x2] 3) m3
    generalize ((w3.setCell ⟨b, 1, none⟩ (.int .i64 ((K : Int) + 1))).alloc (.cells #[.int .i64 0, .int .i64 1000, .int .i64 (x1 * 250), .int .i64 x2] 3)).drewN m3 = w4 at R4 G4 ⊢
    clear R3 G3 hM hq q0 q1 hlt x1a x1b x2a x2b
    refine (pick_any R4 (by omega) (by omega) (by omega)).mono ?_
    rintro e w5 ⟨x3, m4, x3a, x3b, rfl, hw5⟩
    have R5 : Rd w5 b a len cap (K + 1 + 1) := by rw [hw5]; exact R4.step m4
    have G5 : w.grownBy w5 (some b) := by rw [hw5]; exact grown_drewN (Lib.grownBy_setB G4 1 _) m4
    clear hw5 R4 G4
    go_wp2_with fail
    refine (pick_any R5 (by omega) (by omega) (by omega)).mono ?_
    rintro e w6 ⟨x4, m5, x4a, x4b, rfl, hw6⟩
    have R6 : Rd w6 b a len cap (K + 1 + 1 + 1) := by rw [hw6]; exact R5.step m5
    have G6 : w.grownBy w6 (some b) := by rw [hw6]; exact grown_drewN (Lib.grownBy_setB G5 1 _) m5
    clear hw6 R5 G5
    go_wp2_with fail
    have hlt := R6.lt
    obtain ⟨J, hJ⟩ : ∃ J, K + 1 + 1 + 1 = J := ⟨_, rfl⟩
    rw [hJ] at R6
    refine (pick_any (R6.alloc _) (by omega) (by omega) (by omega)).mono ?_
    rintro e w7 ⟨q, m6, q0, q1, rfl, rfl⟩
    go_wp2_with fail
    have hq : q.toNat < 5 := by omega
    obtain ⟨im, hM, N0, N1⟩ := im5 x3 x4 q.toNat hq x3a x3b x4a x4b
    simp only [List.getElem_toArray] at hM
    rw [hM]
    have R7 := R6.pickedA' (.cells #[.int .i64 0, .int .i64 1000, .int .i64 (-1000), .int .i64 (x3 * 250 - 25000), .int .i64 (x4 - 125)] 3) m6
    have G7 := grown_pickedA' (k := J) G6 (.cells #[.int .i64 0, .int .i64 1000, .int .i64 (-1000), .int .i64 (x3 * 250 - 25000), .int .i64 (x4 - 125)] 3) m6
    generalize ((w6.setCell ⟨b, 1, none⟩ (.int .i64 ((J : Int) + 1))).alloc (.cells #[.int .i64 0, .int .i64 1000, .int .i64 (-1000), .int .i64 (x3 * 250 - 25000), .int .i64 (x4 - 125)] 3)).drewN m6 = w7 at R7 G7 ⊢
    clear R6 G6 hM hq q0 q1 hlt x3a x3b x4a x4b
    refine (specMilli_any _ _ _).mono ?_
    have hz : milliV re im = .complex .f32 (milliB re) (milliB im) := by
      unfold milliV
      rw [okM_iff.2 ⟨by omega, by omega⟩, okM_iff.2 ⟨by omega, by omega⟩]
      rfl
    rw [hz]
    rintro e w8 ⟨rfl, rfl⟩
    go_wp2_with fail
    go_ret
    exact ⟨_, J + 1, .inl ⟨re, im, rfl, M0, M1, N0, N1⟩, rfl, by omega, R7, G7⟩
  · go_wp2_with fail
    refine (num_any R1 (by omega) (by omega) (by omega)).mono ?_
    rintro e w2 ⟨v, k2, hv, rfl, hk2, R2, G2⟩
    have HV := Lib.hid hv
    obtain ⟨x, y, re, im, rfl, hrest⟩ := hv
    clear hrest
    go_wp2_with fail
    go_ret
    exact ⟨_, k2, .inr HV.out, rfl, by omega, R2, Lib.grownBy_trans G1 G2⟩

end Go.Proofs.Yteikkbmmbnihaaa
