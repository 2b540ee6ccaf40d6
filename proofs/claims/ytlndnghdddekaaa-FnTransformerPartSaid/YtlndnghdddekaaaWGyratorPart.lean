/-
  The walk of FnGyratorPart: it answers true.
-/
import Derived.Test.YtlndnghdddekaaaDraw5
import Derived.Test.YtlndnghdddekaaaChain3
namespace Go.Proofs.Ytlndnghdddekaaa
open Go.RowKit Fl

theorem inv_u0 : Inv 1065353216 0 1065353216 0 true := .inr (.inr ⟨rfl, by decide, by decide, run_pInv (by decide) (by decide) (by decide +kernel), by decide, by decide⟩)
theorem inv_u1 : Inv 1073741824 0 1056964608 0 true := .inr (.inr ⟨rfl, by decide, by decide, run_pInv (by decide) (by decide) (by decide +kernel), by decide, by decide⟩)
theorem inv_u2 : Inv 3229614080 0 3196059648 2147483648 true := .inr (.inr ⟨rfl, by decide, by decide, run_pInv (by decide) (by decide) (by decide +kernel), by decide, by decide⟩)
theorem inv_u3 : Inv 1056964608 0 1073741824 0 true := .inr (.inr ⟨rfl, by decide, by decide, run_pInv (by decide) (by decide) (by decide +kernel), by decide, by decide⟩)

theorem inv_fin {x y e f : Nat} (h : Inv x y e f true) : (fin .f32 x && fin .f32 y) = true ∧ (fin .f32 e && fin .f32 f) = true := by
  rcases h with ⟨h, _⟩ | ⟨h, _⟩ | ⟨_, h1, _, _, h2, h3⟩
  · cases h
  · cases h
  · exact ⟨h1, by rw [h2, h3]; rfl⟩
theorem finTwo_gyr {x y e f : Nat} (h : Inv x y e f true) : finTwo 0 0 x y e f 0 0 = true := by
  unfold finTwo
  rw [(inv_fin h).1, (inv_fin h).2]
  decide

set_option maxRecDepth 8000 in
set_option maxHeartbeats 40000000 in
theorem FnGyratorPart_walk (a : Option Addr) (len cap : Nat) (zs : List Int) (w : World) (h : IsRow .u8 w a len cap zs) :
    Calls Try.prog 6 #[.slice a len cap] w fun e w' => e = .returned (.bool true) ∧ Below w.heap.size w w' := by
  by_cases hl : (1048576 : Int) < (len : Int)
  · go_enter Try.func6, Try.ntmps6
    go_wp2_with fail
    go_ret
    exact ⟨rfl, Below.refl _ _⟩
  · go_enter Try.func6, Try.ntmps6
    go_wp2_with fail
    refine (drawGyratorPart_any h).mono ?_
    rintro z w1 ⟨v, ⟨x, y, rfl, e, f, β, hI⟩, rfl, B1⟩
    clear h
    have HI := Lib.hid hI
    clear hI
    cases β
    · -- it is not told
      go_wp2_with fail
      refine (implGyr_inv HI.out _).mono ?_
      rw [ifV_false]
      rintro z w2 ⟨rfl, C⟩
      have B2 := below_calm B1 B1.size C
      clear C
      go_wp2_with fail
      refine (specGyr_inv HI.out _).mono ?_
      rw [ifV_false]
      rintro z w3 ⟨rfl, C⟩
      have M3 := (Blk.new w2 0 0 0 0 0 0 0 0).calm C
      have B3 := Lib.hid (below_calm (B2.alloc B2.size _) (B2.alloc B2.size _).size C)
      clear C
      have A3 := M3.alloc (.cells #[.complex .f32 0 0, .complex .f32 0 0, .complex .f32 0 0, .complex .f32 0 0] 26)
      have c0 := A3.c0
      have c1 := A3.c1
      have c2 := A3.c2
      have c3 := A3.c3
      have HM := Lib.hid M3
      clear M3 A3 B2
      go_wp2_with fail
      refine (sameTwo_same _ _ _ _ _ _ _ _ _).mono ?_
      rintro z w4 ⟨rfl, C⟩
      have M := Lib.hid (((HM.out.alloc _).calm C).alloc (.cells #[.complex .f32 1065353216 0, .complex .f32 1073741824 0, .complex .f32 3229614080 0, .complex .f32 1056964608 0] 23))
      have K := Lib.hid (At.new w4 (.cells #[.complex .f32 1065353216 0, .complex .f32 1073741824 0, .complex .f32 3229614080 0, .complex .f32 1056964608 0] 23))
      have B := Lib.hid ((below_calm (B3.out.alloc B3.out.size _) (B3.out.alloc B3.out.size _).size C).alloc (below_calm (B3.out.alloc B3.out.size _) (B3.out.alloc B3.out.size _).size C).size (.cells #[.complex .f32 1065353216 0, .complex .f32 1073741824 0, .complex .f32 3229614080 0, .complex .f32 1056964608 0] 23))
      clear C c0 c1 c2 c3 HM B3
      go_wp2_with fail
      refine wp_loop_rounds 5 ?_
      -- round 1
      have t0 := K.out.cell (i := 0) rfl
      rw [rounds_succ]
      go_wp2_with fail
      refine (implGyr_inv inv_u0 _).mono ?_
      rw [ifV_true]
      rintro z v0 ⟨rfl, C⟩
      have M1 := Lib.hid ((M.out.calm C).alloc (.cells #[.complex .f32 0 0, .complex .f32 1065353216 0, .complex .f32 1065353216 0, .complex .f32 0 0] 26))
      have K1 := Lib.hid ((K.out.calm C).alloc (.cells #[.complex .f32 0 0, .complex .f32 1065353216 0, .complex .f32 1065353216 0, .complex .f32 0 0] 26))
      have B1 := Lib.hid ((below_calm B.out B.out.size C).alloc (below_calm B.out B.out.size C).size (.cells #[.complex .f32 0 0, .complex .f32 1065353216 0, .complex .f32 1065353216 0, .complex .f32 0 0] 26))
      clear C M K B t0
      go_wp2_with fail
      refine (cascade_check (m := ⟨0, 0, 1065353216, 0, 1065353216, 0, 0, 0⟩) (n := ⟨0, 0, 1065353216, 0, 1065353216, 0, 0, 0⟩) (t := ⟨1065353216, 0, 0, 0, 0, 0, 1065353216, 0⟩) (by decide +kernel) _).mono ?_
      rintro z u0 ⟨⟨⟨p1, q1, p2, q2, p3, q3, p4, q4⟩, rfl, _, hE⟩, C⟩
      have HE := Lib.hid hE
      have M2 := Lib.hid ((M1.out.calm C).alloc (.cells #[.complex .f32 p1 q1, .complex .f32 p2 q2, .complex .f32 p3 q3, .complex .f32 p4 q4] 26))
      have K2 := Lib.hid ((K1.out.calm C).alloc (.cells #[.complex .f32 p1 q1, .complex .f32 p2 q2, .complex .f32 p3 q3, .complex .f32 p4 q4] 26))
      have B2 := Lib.hid ((below_calm B1.out B1.out.size C).alloc (below_calm B1.out B1.out.size C).size (.cells #[.complex .f32 p1 q1, .complex .f32 p2 q2, .complex .f32 p3 q3, .complex .f32 p4 q4] 26))
      clear C M1 K1 B1 hE
      unfold Words.v
      go_wp2_with fail
      obtain ⟨j1, j2, j3, j4⟩ := HE.out
      refine (equalTwo_of j1 j2 j3 j4 _).mono ?_
      clear j1 j2 j3 j4 HE
      rintro z x0 ⟨rfl, C⟩
      have M := Lib.hid (M2.out.calm C)
      have K := Lib.hid (K2.out.calm C)
      have B := Lib.hid (below_calm B2.out B2.out.size C)
      clear C M2 K2 B2
      go_wp2_with fail
      -- round 2
      have t0 := K.out.cell (i := 1) rfl
      rw [rounds_succ]
      go_wp2_with fail
      refine (implGyr_inv inv_u1 _).mono ?_
      rw [ifV_true]
      rintro z v1 ⟨rfl, C⟩
      have M1 := Lib.hid ((M.out.calm C).alloc (.cells #[.complex .f32 0 0, .complex .f32 1073741824 0, .complex .f32 1056964608 0, .complex .f32 0 0] 26))
      have K1 := Lib.hid ((K.out.calm C).alloc (.cells #[.complex .f32 0 0, .complex .f32 1073741824 0, .complex .f32 1056964608 0, .complex .f32 0 0] 26))
      have B1 := Lib.hid ((below_calm B.out B.out.size C).alloc (below_calm B.out B.out.size C).size (.cells #[.complex .f32 0 0, .complex .f32 1073741824 0, .complex .f32 1056964608 0, .complex .f32 0 0] 26))
      clear C M K B t0
      go_wp2_with fail
      refine (cascade_check (m := ⟨0, 0, 1073741824, 0, 1056964608, 0, 0, 0⟩) (n := ⟨0, 0, 1073741824, 0, 1056964608, 0, 0, 0⟩) (t := ⟨1065353216, 0, 0, 0, 0, 0, 1065353216, 0⟩) (by decide +kernel) _).mono ?_
      rintro z u1 ⟨⟨⟨p1, q1, p2, q2, p3, q3, p4, q4⟩, rfl, _, hE⟩, C⟩
      have HE := Lib.hid hE
      have M2 := Lib.hid ((M1.out.calm C).alloc (.cells #[.complex .f32 p1 q1, .complex .f32 p2 q2, .complex .f32 p3 q3, .complex .f32 p4 q4] 26))
      have K2 := Lib.hid ((K1.out.calm C).alloc (.cells #[.complex .f32 p1 q1, .complex .f32 p2 q2, .complex .f32 p3 q3, .complex .f32 p4 q4] 26))
      have B2 := Lib.hid ((below_calm B1.out B1.out.size C).alloc (below_calm B1.out B1.out.size C).size (.cells #[.complex .f32 p1 q1, .complex .f32 p2 q2, .complex .f32 p3 q3, .complex .f32 p4 q4] 26))
      clear C M1 K1 B1 hE
      unfold Words.v
      go_wp2_with fail
      obtain ⟨j1, j2, j3, j4⟩ := HE.out
      refine (equalTwo_of j1 j2 j3 j4 _).mono ?_
      clear j1 j2 j3 j4 HE
      rintro z x1 ⟨rfl, C⟩
      have M := Lib.hid (M2.out.calm C)
      have K := Lib.hid (K2.out.calm C)
      have B := Lib.hid (below_calm B2.out B2.out.size C)
      clear C M2 K2 B2
      go_wp2_with fail
      -- round 3
      have t0 := K.out.cell (i := 2) rfl
      rw [rounds_succ]
      go_wp2_with fail
      refine (implGyr_inv inv_u2 _).mono ?_
      rw [ifV_true]
      rintro z v2 ⟨rfl, C⟩
      have M1 := Lib.hid ((M.out.calm C).alloc (.cells #[.complex .f32 0 0, .complex .f32 3229614080 0, .complex .f32 3196059648 2147483648, .complex .f32 0 0] 26))
      have K1 := Lib.hid ((K.out.calm C).alloc (.cells #[.complex .f32 0 0, .complex .f32 3229614080 0, .complex .f32 3196059648 2147483648, .complex .f32 0 0] 26))
      have B1 := Lib.hid ((below_calm B.out B.out.size C).alloc (below_calm B.out B.out.size C).size (.cells #[.complex .f32 0 0, .complex .f32 3229614080 0, .complex .f32 3196059648 2147483648, .complex .f32 0 0] 26))
      clear C M K B t0
      go_wp2_with fail
      refine (cascade_check (m := ⟨0, 0, 3229614080, 0, 3196059648, 2147483648, 0, 0⟩) (n := ⟨0, 0, 3229614080, 0, 3196059648, 2147483648, 0, 0⟩) (t := ⟨1065353216, 0, 0, 0, 0, 0, 1065353216, 0⟩) (by decide +kernel) _).mono ?_
      rintro z u2 ⟨⟨⟨p1, q1, p2, q2, p3, q3, p4, q4⟩, rfl, _, hE⟩, C⟩
      have HE := Lib.hid hE
      have M2 := Lib.hid ((M1.out.calm C).alloc (.cells #[.complex .f32 p1 q1, .complex .f32 p2 q2, .complex .f32 p3 q3, .complex .f32 p4 q4] 26))
      have K2 := Lib.hid ((K1.out.calm C).alloc (.cells #[.complex .f32 p1 q1, .complex .f32 p2 q2, .complex .f32 p3 q3, .complex .f32 p4 q4] 26))
      have B2 := Lib.hid ((below_calm B1.out B1.out.size C).alloc (below_calm B1.out B1.out.size C).size (.cells #[.complex .f32 p1 q1, .complex .f32 p2 q2, .complex .f32 p3 q3, .complex .f32 p4 q4] 26))
      clear C M1 K1 B1 hE
      unfold Words.v
      go_wp2_with fail
      obtain ⟨j1, j2, j3, j4⟩ := HE.out
      refine (equalTwo_of j1 j2 j3 j4 _).mono ?_
      clear j1 j2 j3 j4 HE
      rintro z x2 ⟨rfl, C⟩
      have M := Lib.hid (M2.out.calm C)
      have K := Lib.hid (K2.out.calm C)
      have B := Lib.hid (below_calm B2.out B2.out.size C)
      clear C M2 K2 B2
      go_wp2_with fail
      -- round 4
      have t0 := K.out.cell (i := 3) rfl
      rw [rounds_succ]
      go_wp2_with fail
      refine (implGyr_inv inv_u3 _).mono ?_
      rw [ifV_true]
      rintro z v3 ⟨rfl, C⟩
      have M1 := Lib.hid ((M.out.calm C).alloc (.cells #[.complex .f32 0 0, .complex .f32 1056964608 0, .complex .f32 1073741824 0, .complex .f32 0 0] 26))
      have K1 := Lib.hid ((K.out.calm C).alloc (.cells #[.complex .f32 0 0, .complex .f32 1056964608 0, .complex .f32 1073741824 0, .complex .f32 0 0] 26))
      have B1 := Lib.hid ((below_calm B.out B.out.size C).alloc (below_calm B.out B.out.size C).size (.cells #[.complex .f32 0 0, .complex .f32 1056964608 0, .complex .f32 1073741824 0, .complex .f32 0 0] 26))
      clear C M K B t0
      go_wp2_with fail
      refine (cascade_check (m := ⟨0, 0, 1056964608, 0, 1073741824, 0, 0, 0⟩) (n := ⟨0, 0, 1056964608, 0, 1073741824, 0, 0, 0⟩) (t := ⟨1065353216, 0, 0, 0, 0, 0, 1065353216, 0⟩) (by decide +kernel) _).mono ?_
      rintro z u3 ⟨⟨⟨p1, q1, p2, q2, p3, q3, p4, q4⟩, rfl, _, hE⟩, C⟩
      have HE := Lib.hid hE
      have M2 := Lib.hid ((M1.out.calm C).alloc (.cells #[.complex .f32 p1 q1, .complex .f32 p2 q2, .complex .f32 p3 q3, .complex .f32 p4 q4] 26))
      have K2 := Lib.hid ((K1.out.calm C).alloc (.cells #[.complex .f32 p1 q1, .complex .f32 p2 q2, .complex .f32 p3 q3, .complex .f32 p4 q4] 26))
      have B2 := Lib.hid ((below_calm B1.out B1.out.size C).alloc (below_calm B1.out B1.out.size C).size (.cells #[.complex .f32 p1 q1, .complex .f32 p2 q2, .complex .f32 p3 q3, .complex .f32 p4 q4] 26))
      clear C M1 K1 B1 hE
      unfold Words.v
      go_wp2_with fail
      obtain ⟨j1, j2, j3, j4⟩ := HE.out
      refine (equalTwo_of j1 j2 j3 j4 _).mono ?_
      clear j1 j2 j3 j4 HE
      rintro z x3 ⟨rfl, C⟩
      have M := Lib.hid (M2.out.calm C)
      have K := Lib.hid (K2.out.calm C)
      have B := Lib.hid (below_calm B2.out B2.out.size C)
      clear C M2 K2 B2
      go_wp2_with fail
      rw [rounds_succ]
      have c0 := M.out.c0
      have c1 := M.out.c1
      have c2 := M.out.c2
      have c3 := M.out.c3
      go_wp2_with fail
      refine (noTwo_zero _).mono ?_
      rintro z y1 ⟨rfl, C⟩
      have B' := Lib.hid (below_calm B.out B.out.size C)
      clear C M K B c0 c1 c2 c3
      go_wp2_with fail
      refine (alive_any _).mono ?_
      rintro z y2 ⟨rfl, rfl⟩
      go_wp2_with fail
      go_ret
      exact ⟨rfl, B'.out⟩
    · -- it is told
      go_wp2_with fail
      refine (implGyr_inv HI.out _).mono ?_
      rw [ifV_true]
      rintro z w2 ⟨rfl, C⟩
      have B2 := below_calm B1 B1.size C
      clear C
      go_wp2_with fail
      refine (specGyr_inv HI.out _).mono ?_
      rw [ifV_true]
      rintro z w3 ⟨rfl, C⟩
      have M3 := (Blk.new w2 0 0 x y e f 0 0).calm C
      have B3 := Lib.hid (below_calm (B2.alloc B2.size _) (B2.alloc B2.size _).size C)
      clear C
      have A3 := M3.alloc (.cells #[.complex .f32 0 0, .complex .f32 x y, .complex .f32 e f, .complex .f32 0 0] 26)
      have c0 := A3.c0
      have c1 := A3.c1
      have c2 := A3.c2
      have c3 := A3.c3
      have HM := Lib.hid M3
      clear M3 A3 B2
      go_wp2_with fail
      refine (sameTwo_same _ _ _ _ _ _ _ _ _).mono ?_
      rintro z w4 ⟨rfl, C⟩
      have M := Lib.hid (((HM.out.alloc _).calm C).alloc (.cells #[.complex .f32 1065353216 0, .complex .f32 1073741824 0, .complex .f32 3229614080 0, .complex .f32 1056964608 0] 23))
      have K := Lib.hid (At.new w4 (.cells #[.complex .f32 1065353216 0, .complex .f32 1073741824 0, .complex .f32 3229614080 0, .complex .f32 1056964608 0] 23))
      have B := Lib.hid ((below_calm (B3.out.alloc B3.out.size _) (B3.out.alloc B3.out.size _).size C).alloc (below_calm (B3.out.alloc B3.out.size _) (B3.out.alloc B3.out.size _).size C).size (.cells #[.complex .f32 1065353216 0, .complex .f32 1073741824 0, .complex .f32 3229614080 0, .complex .f32 1056964608 0] 23))
      clear C c0 c1 c2 c3 HM B3
      go_wp2_with fail
      refine wp_loop_rounds 5 ?_
      -- round 1
      have t0 := K.out.cell (i := 0) rfl
      rw [rounds_succ]
      go_wp2_with fail
      refine (implGyr_inv inv_u0 _).mono ?_
      rw [ifV_true]
      rintro z v0 ⟨rfl, C⟩
      have M1 := Lib.hid ((M.out.calm C).alloc (.cells #[.complex .f32 0 0, .complex .f32 1065353216 0, .complex .f32 1065353216 0, .complex .f32 0 0] 26))
      have K1 := Lib.hid ((K.out.calm C).alloc (.cells #[.complex .f32 0 0, .complex .f32 1065353216 0, .complex .f32 1065353216 0, .complex .f32 0 0] 26))
      have B1 := Lib.hid ((below_calm B.out B.out.size C).alloc (below_calm B.out B.out.size C).size (.cells #[.complex .f32 0 0, .complex .f32 1065353216 0, .complex .f32 1065353216 0, .complex .f32 0 0] 26))
      clear C M K B t0
      go_wp2_with fail
      refine (cascade_check (m := ⟨0, 0, 1065353216, 0, 1065353216, 0, 0, 0⟩) (n := ⟨0, 0, 1065353216, 0, 1065353216, 0, 0, 0⟩) (t := ⟨1065353216, 0, 0, 0, 0, 0, 1065353216, 0⟩) (by decide +kernel) _).mono ?_
      rintro z u0 ⟨⟨⟨p1, q1, p2, q2, p3, q3, p4, q4⟩, rfl, _, hE⟩, C⟩
      have HE := Lib.hid hE
      have M2 := Lib.hid ((M1.out.calm C).alloc (.cells #[.complex .f32 p1 q1, .complex .f32 p2 q2, .complex .f32 p3 q3, .complex .f32 p4 q4] 26))
      have K2 := Lib.hid ((K1.out.calm C).alloc (.cells #[.complex .f32 p1 q1, .complex .f32 p2 q2, .complex .f32 p3 q3, .complex .f32 p4 q4] 26))
      have B2 := Lib.hid ((below_calm B1.out B1.out.size C).alloc (below_calm B1.out B1.out.size C).size (.cells #[.complex .f32 p1 q1, .complex .f32 p2 q2, .complex .f32 p3 q3, .complex .f32 p4 q4] 26))
      clear C M1 K1 B1 hE
      unfold Words.v
      go_wp2_with fail
      obtain ⟨j1, j2, j3, j4⟩ := HE.out
      refine (equalTwo_of j1 j2 j3 j4 _).mono ?_
      clear j1 j2 j3 j4 HE
      rintro z x0 ⟨rfl, C⟩
      have M := Lib.hid (M2.out.calm C)
      have K := Lib.hid (K2.out.calm C)
      have B := Lib.hid (below_calm B2.out B2.out.size C)
      clear C M2 K2 B2
      go_wp2_with fail
      -- round 2
      have t0 := K.out.cell (i := 1) rfl
      rw [rounds_succ]
      go_wp2_with fail
      refine (implGyr_inv inv_u1 _).mono ?_
      rw [ifV_true]
      rintro z v1 ⟨rfl, C⟩
      have M1 := Lib.hid ((M.out.calm C).alloc (.cells #[.complex .f32 0 0, .complex .f32 1073741824 0, .complex .f32 1056964608 0, .complex .f32 0 0] 26))
      have K1 := Lib.hid ((K.out.calm C).alloc (.cells #[.complex .f32 0 0, .complex .f32 1073741824 0, .complex .f32 1056964608 0, .complex .f32 0 0] 26))
      have B1 := Lib.hid ((below_calm B.out B.out.size C).alloc (below_calm B.out B.out.size C).size (.cells #[.complex .f32 0 0, .complex .f32 1073741824 0, .complex .f32 1056964608 0, .complex .f32 0 0] 26))
      clear C M K B t0
      go_wp2_with fail
      refine (cascade_check (m := ⟨0, 0, 1073741824, 0, 1056964608, 0, 0, 0⟩) (n := ⟨0, 0, 1073741824, 0, 1056964608, 0, 0, 0⟩) (t := ⟨1065353216, 0, 0, 0, 0, 0, 1065353216, 0⟩) (by decide +kernel) _).mono ?_
      rintro z u1 ⟨⟨⟨p1, q1, p2, q2, p3, q3, p4, q4⟩, rfl, _, hE⟩, C⟩
      have HE := Lib.hid hE
      have M2 := Lib.hid ((M1.out.calm C).alloc (.cells #[.complex .f32 p1 q1, .complex .f32 p2 q2, .complex .f32 p3 q3, .complex .f32 p4 q4] 26))
      have K2 := Lib.hid ((K1.out.calm C).alloc (.cells #[.complex .f32 p1 q1, .complex .f32 p2 q2, .complex .f32 p3 q3, .complex .f32 p4 q4] 26))
      have B2 := Lib.hid ((below_calm B1.out B1.out.size C).alloc (below_calm B1.out B1.out.size C).size (.cells #[.complex .f32 p1 q1, .complex .f32 p2 q2, .complex .f32 p3 q3, .complex .f32 p4 q4] 26))
      clear C M1 K1 B1 hE
      unfold Words.v
      go_wp2_with fail
      obtain ⟨j1, j2, j3, j4⟩ := HE.out
      refine (equalTwo_of j1 j2 j3 j4 _).mono ?_
      clear j1 j2 j3 j4 HE
      rintro z x1 ⟨rfl, C⟩
      have M := Lib.hid (M2.out.calm C)
      have K := Lib.hid (K2.out.calm C)
      have B := Lib.hid (below_calm B2.out B2.out.size C)
      clear C M2 K2 B2
      go_wp2_with fail
      -- round 3
      have t0 := K.out.cell (i := 2) rfl
      rw [rounds_succ]
      go_wp2_with fail
      refine (implGyr_inv inv_u2 _).mono ?_
      rw [ifV_true]
      rintro z v2 ⟨rfl, C⟩
      have M1 := Lib.hid ((M.out.calm C).alloc (.cells #[.complex .f32 0 0, .complex .f32 3229614080 0, .complex .f32 3196059648 2147483648, .complex .f32 0 0] 26))
      have K1 := Lib.hid ((K.out.calm C).alloc (.cells #[.complex .f32 0 0, .complex .f32 3229614080 0, .complex .f32 3196059648 2147483648, .complex .f32 0 0] 26))
      have B1 := Lib.hid ((below_calm B.out B.out.size C).alloc (below_calm B.out B.out.size C).size (.cells #[.complex .f32 0 0, .complex .f32 3229614080 0, .complex .f32 3196059648 2147483648, .complex .f32 0 0] 26))
      clear C M K B t0
      go_wp2_with fail
      refine (cascade_check (m := ⟨0, 0, 3229614080, 0, 3196059648, 2147483648, 0, 0⟩) (n := ⟨0, 0, 3229614080, 0, 3196059648, 2147483648, 0, 0⟩) (t := ⟨1065353216, 0, 0, 0, 0, 0, 1065353216, 0⟩) (by decide +kernel) _).mono ?_
      rintro z u2 ⟨⟨⟨p1, q1, p2, q2, p3, q3, p4, q4⟩, rfl, _, hE⟩, C⟩
      have HE := Lib.hid hE
      have M2 := Lib.hid ((M1.out.calm C).alloc (.cells #[.complex .f32 p1 q1, .complex .f32 p2 q2, .complex .f32 p3 q3, .complex .f32 p4 q4] 26))
      have K2 := Lib.hid ((K1.out.calm C).alloc (.cells #[.complex .f32 p1 q1, .complex .f32 p2 q2, .complex .f32 p3 q3, .complex .f32 p4 q4] 26))
      have B2 := Lib.hid ((below_calm B1.out B1.out.size C).alloc (below_calm B1.out B1.out.size C).size (.cells #[.complex .f32 p1 q1, .complex .f32 p2 q2, .complex .f32 p3 q3, .complex .f32 p4 q4] 26))
      clear C M1 K1 B1 hE
      unfold Words.v
      go_wp2_with fail
      obtain ⟨j1, j2, j3, j4⟩ := HE.out
      refine (equalTwo_of j1 j2 j3 j4 _).mono ?_
      clear j1 j2 j3 j4 HE
      rintro z x2 ⟨rfl, C⟩
      have M := Lib.hid (M2.out.calm C)
      have K := Lib.hid (K2.out.calm C)
      have B := Lib.hid (below_calm B2.out B2.out.size C)
      clear C M2 K2 B2
      go_wp2_with fail
      -- round 4
      have t0 := K.out.cell (i := 3) rfl
      rw [rounds_succ]
      go_wp2_with fail
      refine (implGyr_inv inv_u3 _).mono ?_
      rw [ifV_true]
      rintro z v3 ⟨rfl, C⟩
      have M1 := Lib.hid ((M.out.calm C).alloc (.cells #[.complex .f32 0 0, .complex .f32 1056964608 0, .complex .f32 1073741824 0, .complex .f32 0 0] 26))
      have K1 := Lib.hid ((K.out.calm C).alloc (.cells #[.complex .f32 0 0, .complex .f32 1056964608 0, .complex .f32 1073741824 0, .complex .f32 0 0] 26))
      have B1 := Lib.hid ((below_calm B.out B.out.size C).alloc (below_calm B.out B.out.size C).size (.cells #[.complex .f32 0 0, .complex .f32 1056964608 0, .complex .f32 1073741824 0, .complex .f32 0 0] 26))
      clear C M K B t0
      go_wp2_with fail
      refine (cascade_check (m := ⟨0, 0, 1056964608, 0, 1073741824, 0, 0, 0⟩) (n := ⟨0, 0, 1056964608, 0, 1073741824, 0, 0, 0⟩) (t := ⟨1065353216, 0, 0, 0, 0, 0, 1065353216, 0⟩) (by decide +kernel) _).mono ?_
      rintro z u3 ⟨⟨⟨p1, q1, p2, q2, p3, q3, p4, q4⟩, rfl, _, hE⟩, C⟩
      have HE := Lib.hid hE
      have M2 := Lib.hid ((M1.out.calm C).alloc (.cells #[.complex .f32 p1 q1, .complex .f32 p2 q2, .complex .f32 p3 q3, .complex .f32 p4 q4] 26))
      have K2 := Lib.hid ((K1.out.calm C).alloc (.cells #[.complex .f32 p1 q1, .complex .f32 p2 q2, .complex .f32 p3 q3, .complex .f32 p4 q4] 26))
      have B2 := Lib.hid ((below_calm B1.out B1.out.size C).alloc (below_calm B1.out B1.out.size C).size (.cells #[.complex .f32 p1 q1, .complex .f32 p2 q2, .complex .f32 p3 q3, .complex .f32 p4 q4] 26))
      clear C M1 K1 B1 hE
      unfold Words.v
      go_wp2_with fail
      obtain ⟨j1, j2, j3, j4⟩ := HE.out
      refine (equalTwo_of j1 j2 j3 j4 _).mono ?_
      clear j1 j2 j3 j4 HE
      rintro z x3 ⟨rfl, C⟩
      have M := Lib.hid (M2.out.calm C)
      have K := Lib.hid (K2.out.calm C)
      have B := Lib.hid (below_calm B2.out B2.out.size C)
      clear C M2 K2 B2
      go_wp2_with fail
      rw [rounds_succ]
      have c0 := M.out.c0
      have c1 := M.out.c1
      have c2 := M.out.c2
      have c3 := M.out.c3
      go_wp2_with fail
      refine (implTwoOk_any _ _ _ _ _ _ _ _ _).mono ?_
      rw [finTwo_gyr HI.out]
      rintro z y1 ⟨rfl, C⟩
      have B' := Lib.hid (below_calm B.out B.out.size C)
      clear C M K B c0 c1 c2 c3
      go_wp2_with fail
      refine (alive_any _).mono ?_
      rintro z y2 ⟨rfl, rfl⟩
      go_wp2_with fail
      go_ret
      exact ⟨rfl, B'.out⟩

end Go.Proofs.Ytlndnghdddekaaa
