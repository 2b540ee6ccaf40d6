/-
  The draws of scatterings, and ExchangedPorts.
-/
import Derived.Test.YthbebgnjidaokaaGreatDoorScatD
namespace Go.Proofs.YthbebgnjidaokaaGreatDoor
open Go.RowKit Fl

def IsCx (v : Value) : Prop := ∃ x y : Nat, v = .complex .f32 x y

set_option maxHeartbeats 1000000 in
theorem quarter_any {b len cap k : Nat} {a : Option Addr} {w : World} (R : Rd w b a len cap k) (hk : k < 700000) :
    Calls Tryz.prog 58 #[.pointer (some ⟨b, 0, none⟩)] w (Drawn IsCx b a len cap k 2 w) := by
  go_enter Tryz.func58, Tryz.ntmps58
  go_wp2_with fail
  refine (pick_any R (by omega) (by omega) (by omega)).mono ?_
  rintro e w1 ⟨p, m1, p0, p1, rfl, hw1⟩
  have R1 : Rd w1 b a len cap (k + 1) := by rw [hw1]; exact R.step m1
  have G1 : w.grownBy w1 (some b) := by rw [hw1]; exact grown_drewN (Lib.grownBy_setB (grown_refl _ _) 1 _) m1
  clear hw1
  go_wp2_with fail
  refine (pick_any R1 (by omega) (by omega) (by omega)).mono ?_
  rintro e w2 ⟨q, m2, q0, q1, rfl, hw2⟩
  have R2 : Rd w2 b a len cap (k + 1 + 1) := by rw [hw2]; exact R1.step m2
  have G2 : w.grownBy w2 (some b) := by rw [hw2]; exact grown_drewN (Lib.grownBy_setB G1 1 _) m2
  clear hw2 R1 G1
  go_wp2_with fail
  obtain ⟨x, y, hv⟩ : ∃ x y, milliV ((p - 4) * 250) ((q - 4) * 250) = .complex .f32 x y := by
    unfold milliV
    split
    · exact ⟨_, _, rfl⟩
    · exact ⟨_, _, rfl⟩
  refine (specMilli_any _ _ _).mono ?_
  rw [hv]
  rintro e w3 ⟨rfl, rfl⟩
  clear hv
  go_wp2_with fail
  go_ret
  exact ⟨_, k + 1 + 1, ⟨x, y, rfl⟩, rfl, by omega, R2, G2⟩

theorem Rd.calmE {w w' : World} {b : Nat} {a : Option Addr} {len cap k : Nat} (h : Rd w b a len cap k) (C : Calm w w') : Rd w' b a len cap k := by
  have hlt := h.lt
  obtain ⟨T, hb⟩ := h.blk
  refine ⟨⟨T, by rw [C.block b hlt (fun e => by cases e)]; exact hb⟩, h.lim, ?_⟩
  intro i hi
  obtain ⟨ab, off, x, h1, h2, h3, h4, h5⟩ := h.data i hi
  refine ⟨ab, off, x, h1, h2, h3, h4, ?_⟩
  rw [World.cell?_of_block (w := w) (C.block ab (by omega) (fun e => by cases e))]
  exact h5
theorem calm_rowE {w w' : World} {b : Nat} (C : Calm w w') : w.grownBy w' (some b) := ⟨C.os, C.tape, C.output, C.size, fun B h _ => C.block B h (fun e => by cases e)⟩

set_option maxRecDepth 8000 in
set_option maxHeartbeats 4000000 in
theorem scattering_any {b len cap k : Nat} {a : Option Addr} {n : Int} {w : World} (R : Rd w b a len cap k) (hk : k < 600000) (h0 : 0 ≤ n) (h1 : n ≤ 1000000) :
    Calls Tryz.prog 45 #[.pointer (some ⟨b, 0, none⟩), .int .i64 n] w (Drawn IsTwo b a len cap k 120 w) := by
  have hlt := R.lt
  have Z0 := Blk.new w 0 0 0 0 0 0 0 0
  go_enter Tryz.func45, Tryz.ntmps45
  go_wp2_with fail
  refine (pick_any (R.alloc _) (by omega) (by omega) (by omega)).mono ?_
  rintro e w1 ⟨q, m1, q0, q1, rfl, hw1⟩
  have R1 : Rd w1 b a len cap (k + 1) := by rw [hw1]; exact (R.alloc _).step m1
  have G1 : w.grownBy w1 (some b) := by rw [hw1]; exact grown_drewN (Lib.grownBy_setB (World.grownBy_alloc w _ _) 1 _) m1
  have Z1 : Blk w1 w.heap.size 0 0 0 0 0 0 0 0 := by
    rw [hw1]
    exact (Z0.other (r := ⟨b, 1, none⟩) (by show w.heap.size ≠ b; omega) _).drewN m1
  clear hw1 Z0
  by_cases hq : q = 0
  · subst hq
    go_wp2_with fail
    refine (quarter_any R1 (by omega)).mono ?_
    rintro e w2 ⟨v, k2, ⟨x2, y2, rfl⟩, rfl, hk2, R2, H⟩
    have G2 := Lib.grownBy_trans G1 H
    have Z2 := Z1.grown H (by omega)
    clear R1 G1 Z1 H
    go_wp2_with fail
    refine (quarter_any R2 (by omega)).mono ?_
    rintro e w3 ⟨v, k3, ⟨x3, y3, rfl⟩, rfl, hk3, R3, H⟩
    have G3 := Lib.grownBy_trans G2 H
    have Z3 := Z2.grown H (by omega)
    clear R2 G2 Z2 H
    go_wp2_with fail
    refine (quarter_any R3 (by omega)).mono ?_
    rintro e w4 ⟨v, k4, ⟨x4, y4, rfl⟩, rfl, hk4, R4, H⟩
    have G4 := Lib.grownBy_trans G3 H
    have Z4 := Z3.grown H (by omega)
    clear R3 G3 Z3 H
    go_wp2_with fail
    refine (quarter_any R4 (by omega)).mono ?_
    rintro e w5 ⟨v, k5, ⟨x5, y5, rfl⟩, rfl, hk5, R5, H⟩
    have G5 := Lib.grownBy_trans G4 H
    have Z5 := Z4.grown H (by omega)
    clear R4 G4 Z4 H
    have zz0 := Z5.c0
    have zz1 := Z5.c1
    have zz2 := Z5.c2
    have zz3 := Z5.c3
    have ff0 := Z5.fr 0
    have ff1 := Z5.fr 1
    have ff2 := Z5.fr 2
    have ff3 := Z5.fr 3
    have HZ := Lib.hid Z5
    have HR := Lib.hid R5
    have HG := Lib.hid G5
    clear Z5 R5 G5
    go_wp2_with fail
    refine bodyPost_ret (results_two rfl _ rfl ((((HZ.out.s0 _ _).s1 _ _).s2 _ _).s3 _ _)) rfl ?_
    exact ⟨_, k5, ⟨_, _, _, _, _, _, _, _, rfl⟩, rfl, by omega, (((HR.out.above hlt 0 _).above hlt 1 _).above hlt 2 _).above hlt 3 _, grown_above (grown_above (grown_above (grown_above HG.out (Nat.le_refl _) 0 _) (Nat.le_refl _) 1 _) (Nat.le_refl _) 2 _) (Nat.le_refl _) 3 _⟩
  · have hq1 : q = 1 := by omega
    subst hq1
    go_wp2_with fail
    refine (two_any R1 (by omega) h0 h1).mono ?_
    rintro e w2 ⟨v, k2, ⟨x1, y1, x2, y2, x3, y3, x4, y4, rfl⟩, rfl, hk2, R2, H⟩
    have G2 := Lib.grownBy_trans G1 H
    have Z2 := Z1.grown H (by omega)
    have M2 := Blk.new w2 x1 y1 x2 y2 x3 y3 x4 y4
    have Z3 := Z2.alloc (.cells #[.complex .f32 x1 y1, .complex .f32 x2 y2, .complex .f32 x3 y3, .complex .f32 x4 y4] 32)
    have R3 := R2.alloc (.cells #[.complex .f32 x1 y1, .complex .f32 x2 y2, .complex .f32 x3 y3, .complex .f32 x4 y4] 32)
    have G3 := Lib.grownBy_allocR G2 (.cells #[.complex .f32 x1 y1, .complex .f32 x2 y2, .complex .f32 x3 y3, .complex .f32 x4 y4] 32)
    clear R1 G1 Z1 H R2 G2 Z2
    go_wp2_with fail
    refine (specScat_any _ _ _ _ _ _ _ _ _ _ _).mono ?_
    rintro e w3 ⟨⟨s1, s2, s3, s4, s5, s6, s7, s8, β, rfl⟩, C⟩
    have Z4 := (Z3.calm C).alloc (.cells #[.complex .f32 s1 s2, .complex .f32 s3 s4, .complex .f32 s5 s6, .complex .f32 s7 s8] 32)
    have M4 := (M2.calm C).alloc (.cells #[.complex .f32 s1 s2, .complex .f32 s3 s4, .complex .f32 s5 s6, .complex .f32 s7 s8] 32)
    have HR := Lib.hid ((R3.calmE C).alloc (.cells #[.complex .f32 s1 s2, .complex .f32 s3 s4, .complex .f32 s5 s6, .complex .f32 s7 s8] 32))
    have HG := Lib.hid (Lib.grownBy_allocR (Lib.grownBy_trans G3 (calm_rowE C)) (.cells #[.complex .f32 s1 s2, .complex .f32 s3 s4, .complex .f32 s5 s6, .complex .f32 s7 s8] 32))
    clear C R3 G3 Z3 M2
    have zz0 := Z4.c0
    have zz1 := Z4.c1
    have zz2 := Z4.c2
    have zz3 := Z4.c3
    have ff0 := Z4.fr 0
    have ff1 := Z4.fr 1
    have ff2 := Z4.fr 2
    have ff3 := Z4.fr 3
    have m0 := M4.c0
    have m1 := M4.c1
    have m2 := M4.c2
    have m3 := M4.c3
    have ml := M4.lt
    have HZ := Lib.hid Z4
    clear Z4 M4
    cases β
    all_goals
      go_wp2_with fail
      refine bodyPost_ret (results_two rfl _ rfl ((((HZ.out.s0 _ _).s1 _ _).s2 _ _).s3 _ _)) rfl ?_
      exact ⟨_, k2, ⟨_, _, _, _, _, _, _, _, rfl⟩, rfl, by omega, (((HR.out.above hlt 0 _).above hlt 1 _).above hlt 2 _).above hlt 3 _, grown_above (grown_above (grown_above (grown_above HG.out (Nat.le_refl _) 0 _) (Nat.le_refl _) 1 _) (Nat.le_refl _) 2 _) (Nat.le_refl _) 3 _⟩

end Go.Proofs.YthbebgnjidaokaaGreatDoor
