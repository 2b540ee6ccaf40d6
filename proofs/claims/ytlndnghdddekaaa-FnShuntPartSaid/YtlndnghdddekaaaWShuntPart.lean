/-
  The walk of FnShuntPart: it answers true.
-/
import Derived.Test.YtlndnghdddekaaaDraw4
import Derived.Test.YtlndnghdddekaaaChain3
namespace Go.Proofs.Ytlndnghdddekaaa
open Go.RowKit Fl

theorem finTwo_shunt (x y : Nat) (h : (fin .f32 x && fin .f32 y) = true) : finTwo 1065353216 0 0 0 x y 1065353216 0 = true := by
  unfold finTwo
  rw [h]
  decide

theorem inv_one : Inv 1065353216 0 1065353216 0 true :=
  .inr (.inr ⟨rfl, by decide, by decide, run_pInv (by decide) (by decide) (by decide +kernel), by decide, by decide⟩)

def gyr1 : Ints := ⟨0, 0, 1, 0, 1, 0, 0, 0⟩
theorem gyr1_is : (⟨0, 0, 1065353216, 0, 1065353216, 0, 0, 0⟩ : Words).Is gyr1 := ⟨zero_int, one_int, one_int, zero_int⟩
theorem gyr1_small : gyr1.small ∧ (wire.mul gyr1).small := by
  constructor
  · unfold gyr1; exact ⟨by simp, by simp, by simp, by simp, by simp, by simp, by simp, by simp⟩
  · simp [wire, gyr1, Ints.mul, Ints.small]
theorem gyr1_between {i j : Int} (bi : i.natAbs ≤ 1000) (bj : j.natAbs ≤ 1000) : ((wire.mul gyr1).mul ⟨1, 0, 0, 0, i, j, 1, 0⟩).small ∧ ((wire.mul gyr1).mul ⟨1, 0, 0, 0, i, j, 1, 0⟩).mul gyr1 = ⟨1, 0, i, j, 0, 0, 1, 0⟩ := by
  constructor
  · simp [wire, gyr1, Ints.mul, Ints.small]
    omega
  · simp [wire, gyr1, Ints.mul]

set_option maxHeartbeats 1000000 in
theorem FnShuntPart_walk (a : Option Addr) (len cap : Nat) (zs : List Int) (w : World) (h : IsRow .u8 w a len cap zs) :
    Calls Try.prog 4 #[.slice a len cap] w fun e w' => e = .returned (.bool true) ∧ Below w.heap.size w w' := by
  by_cases hl : (1048576 : Int) < (len : Int)
  · go_enter Try.func4, Try.ntmps4
    go_wp2_with fail
    go_ret
    exact ⟨rfl, Below.refl _ _⟩
  · go_enter Try.func4, Try.ntmps4
    go_wp2_with fail
    refine (drawShuntPart_any h).mono ?_
    rintro e w1 ⟨v, ⟨x, y, re, im, rfl, _⟩, rfl, B1⟩
    clear h
    obtain ⟨β, hβ⟩ : ∃ β, (fin .f32 x && fin .f32 y) = β := ⟨_, rfl⟩
    have HB := Lib.hid hβ
    clear hβ
    cases β
    · go_wp2_with fail
      refine (implShunt_any _ _ _).mono ?_
      rw [HB.out, ifV_false]
      rintro e w2 ⟨rfl, C⟩
      have B2 := below_calm B1 B1.size C
      clear C
      go_wp2_with fail
      refine (specShunt_any _ _ _).mono ?_
      rw [HB.out, ifV_false]
      rintro e w3 ⟨rfl, C⟩
      have M3 := (Blk.new w2 0 0 0 0 0 0 0 0).calm C
      have B3 := Lib.hid (below_calm (B2.alloc B2.size _) (B2.alloc B2.size _).size C)
      clear C
      have A3 := M3.alloc (.cells #[.complex .f32 0 0, .complex .f32 0 0, .complex .f32 0 0, .complex .f32 0 0] 26)
      have c0 := A3.c0
      have c1 := A3.c1
      have c2 := A3.c2
      have c3 := A3.c3
      have HM := Lib.hid M3
      clear A3
      clear M3
      go_wp2_with fail
      refine (sameTwo_same _ _ _ _ _ _ _ _ _).mono ?_
      rintro e w4 ⟨rfl, C⟩
      have M4 := (HM.out.alloc _).calm C
      have B4 := Lib.hid (below_calm (B3.out.alloc B3.out.size _) (B3.out.alloc B3.out.size _).size C)
      clear C c0 c1 c2 c3 HM B3
      have c0 := M4.c0
      have c1 := M4.c1
      have c2 := M4.c2
      have c3 := M4.c3
      clear M4
      go_wp2_with fail
      refine (noTwo_zero _).mono ?_
      rintro e w5 ⟨rfl, C⟩
      have B5 := Lib.hid (below_calm B4.out B4.out.size C)
      clear C c0 c1 c2 c3 B4
      go_wp2_with fail
      refine (implFinite_any _ _ _).mono ?_
      rw [HB.out]
      rintro e w6 ⟨rfl, n, rfl⟩
      go_wp2_with fail
      refine (alive_any _).mono ?_
      rintro e w6 ⟨rfl, rfl⟩
      go_wp2_with fail
      go_ret
      exact ⟨rfl, below_drewN B5.out _⟩
    · go_wp2_with fail
      refine (implShunt_any _ _ _).mono ?_
      rw [HB.out, ifV_true]
      rintro e w2 ⟨rfl, C⟩
      have B2 := below_calm B1 B1.size C
      clear C
      go_wp2_with fail
      refine (specShunt_any _ _ _).mono ?_
      rw [HB.out, ifV_true]
      rintro e w3 ⟨rfl, C⟩
      have M3 := (Blk.new w2 1065353216 0 0 0 x y 1065353216 0).calm C
      have B3 := Lib.hid (below_calm (B2.alloc B2.size _) (B2.alloc B2.size _).size C)
      clear C
      have A3 := M3.alloc (.cells #[.complex .f32 1065353216 0, .complex .f32 0 0, .complex .f32 x y, .complex .f32 1065353216 0] 26)
      have c0 := A3.c0
      have c1 := A3.c1
      have c2 := A3.c2
      have c3 := A3.c3
      have HM := Lib.hid M3
      clear A3
      clear M3
      go_wp2_with fail
      refine (sameTwo_same _ _ _ _ _ _ _ _ _).mono ?_
      rintro e w4 ⟨rfl, C⟩
      have M4 := Lib.hid ((HM.out.alloc _).calm C)
      have B4 := Lib.hid (below_calm (B3.out.alloc B3.out.size _) (B3.out.alloc B3.out.size _).size C)
      clear C c0 c1 c2 c3 HM B3
      go_wp2_with fail
      refine (whole_any _ _ _ _ (by omega) (by omega)).mono ?_
      rintro e w5 ⟨γ, n5, rfl, rfl, hγ⟩
      have HG := Lib.hid hγ
      clear hγ
      have c0 := M4.out.c0
      have c1 := M4.out.c1
      have c2 := M4.out.c2
      have c3 := M4.out.c3
      cases γ
      · go_wp2_with fail
        refine (implTwoOk_any _ _ _ _ _ _ _ _ _).mono ?_
        rw [finTwo_shunt x y HB.out]
        rintro e w6 ⟨rfl, C⟩
        go_wp2_with fail
        go_ret
        exact ⟨rfl, below_calm (below_drewN B4.out _) B4.out.size C⟩
      · obtain ⟨i, j, hI, bi, bj⟩ := whole_int (HG.out rfl) (by omega)
        have hM : (⟨1065353216, 0, 0, 0, x, y, 1065353216, 0⟩ : Words).Is ⟨1, 0, 0, 0, i, j, 1, 0⟩ := ⟨one_int, zero_int, hI, one_int⟩
        have hb : (⟨1, 0, 0, 0, i, j, 1, 0⟩ : Ints).small := ⟨by simp, by simp, by simp, by simp, bi, bj, by simp, by simp⟩
        have hf : (fin .f32 x && fin .f32 y) = true := by rw [hI.1, hI.2.1]; rfl
        have HM := Lib.hid hM
        have HB' := Lib.hid hb
        have HI := Lib.hid hI
        have HF := Lib.hid hf
        have HS1 := Lib.hid (gyr1_between bi bj)
        clear hM hb hI bi bj hf
        go_wp2_with fail
        refine (implGyr_inv inv_one _).mono ?_
        rw [ifV_true]
        rintro e w6 ⟨rfl, C⟩
        have M6 := (M4.out.drewN n5).calm C
        have B6 := Lib.hid (below_calm (below_drewN B4.out _) B4.out.size C)
        clear C c0 c1 c2 c3
        have A6 := M6.alloc (.cells #[.complex .f32 0 0, .complex .f32 1065353216 0, .complex .f32 1065353216 0, .complex .f32 0 0] 26)
        have c0 := A6.c0
        have c1 := A6.c1
        have c2 := A6.c2
        have c3 := A6.c3
        go_wp2_with fail
        have hs : (w6.alloc (.cells #[.complex .f32 0 0, .complex .f32 1065353216 0, .complex .f32 1065353216 0, .complex .f32 0 0] 26)).heap.size = w6.heap.size + 1 := by simp
        have H := At.new (w6.alloc (.cells #[.complex .f32 0 0, .complex .f32 1065353216 0, .complex .f32 1065353216 0, .complex .f32 0 0] 26)) (.cells #[.complex .f32 0 0, .complex .f32 1065353216 0, .complex .f32 1065353216 0, .complex .f32 0 0, .complex .f32 1065353216 0, .complex .f32 0 0, .complex .f32 x y, .complex .f32 1065353216 0, .complex .f32 0 0, .complex .f32 1065353216 0, .complex .f32 1065353216 0, .complex .f32 0 0] 26)
        rw [hs] at H
        refine (chainAll_three (i := gyr1) (k := gyr1) H gyr1_is HM.out gyr1_is gyr1_small.1 HB'.out gyr1_small.1 gyr1_small.2 HS1.out.1).mono ?_
        rw [HS1.out.2]
        rintro e w7 ⟨⟨⟨p1, q1, p2, q2, p3, q3, p4, q4⟩, rfl, hO⟩, C⟩
        have HO := Lib.hid hO
        have B7 := Lib.hid (below_calm ((B6.out.alloc B6.out.size _).alloc (B6.out.alloc B6.out.size _).size _) ((B6.out.alloc B6.out.size _).alloc (B6.out.alloc B6.out.size _).size _).size C)
        clear hO C c0 c1 c2 c3 H hs A6 M6 B6
        unfold Words.v
        go_wp2_with fail
        refine (implSeries_any _ _ _).mono ?_
        rw [HF.out, ifV_true]
        rintro e w8 ⟨rfl, C⟩
        have M8 := ((Blk.new w7 p1 q1 p2 q2 p3 q3 p4 q4).calm C).alloc (.cells #[.complex .f32 1065353216 0, .complex .f32 x y, .complex .f32 0 0, .complex .f32 1065353216 0] 26)
        have B8 := Lib.hid (below_calm (B7.out.alloc B7.out.size _) (B7.out.alloc B7.out.size _).size C)
        have c0 := M8.c0
        have c1 := M8.c1
        have c2 := M8.c2
        have c3 := M8.c3
        clear C M8 B7
        go_wp2_with fail
        obtain ⟨j1, j2, j3, j4⟩ := HO.out
        refine (equalTwo_of (eqs_int j1 one_int rfl rfl) (eqs_int j2 HI.out rfl rfl) (eqs_int j3 zero_int rfl rfl) (eqs_int j4 one_int rfl rfl) _).mono ?_
        clear j1 j2 j3 j4
        rintro e w9 ⟨rfl, C⟩
        have B9 := Lib.hid (below_calm (B8.out.alloc B8.out.size _) (B8.out.alloc B8.out.size _).size C)
        clear C c0 c1 c2 c3
        go_wp2_with fail
        go_ret
        exact ⟨rfl, B9.out⟩

end Go.Proofs.Ytlndnghdddekaaa
