/-
  The walk of FnSeriesPart: it answers true.
-/
import Derived.Test.YtlndnghdddekaaaDraw4
import Derived.Test.YtlndnghdddekaaaC3
namespace Go.Proofs.Ytlndnghdddekaaa
open Go.RowKit Fl

theorem ifV_true (a b c d e f g h : Nat) : ifV true a b c d e f g h = .tuple #[twoV a b c d e f g h, .bool true] := rfl
theorem ifV_false (a b c d e f g h : Nat) : ifV false a b c d e f g h = .tuple #[twoV 0 0 0 0 0 0 0 0, .bool false] := rfl

theorem one_int : IsInt 1065353216 0 1 0 := ⟨by decide, by decide, by decide +kernel, by decide +kernel⟩
theorem zero_int : IsInt 0 0 0 0 := ⟨by decide, by decide, by decide +kernel, by decide +kernel⟩

theorem eqs_int {a b c d : Nat} {i j k l : Int} (h1 : IsInt a b i j) (h2 : IsInt c d k l) (e1 : i = k) (e2 : j = l) : Eqs a b c d := by
  obtain ⟨ha, hb, va, vb⟩ := h1
  obtain ⟨hc, hd, vc, vd⟩ := h2
  exact ⟨(order_spec _ (fin_num.1 ha) (fin_num.1 hc)).2.1.2 (by rw [va, vc, e1]), (order_spec _ (fin_num.1 hb) (fin_num.1 hd)).2.1.2 (by rw [vb, vd, e2])⟩

theorem whole_int {x y : Nat} {most : Int} (h : Whole x y most) (hm : most ≤ 1000) : ∃ i j : Int, IsInt x y i j ∧ i.natAbs ≤ 1000 ∧ j.natAbs ≤ 1000 := by
  obtain ⟨hx, hy, i, j, vx, vy, i0, i1, j0, j1⟩ := h
  exact ⟨i, j, ⟨hx, hy, vx, vy⟩, by omega, by omega⟩

theorem finTwo_series (x y : Nat) (h : (fin .f32 x && fin .f32 y) = true) : finTwo 1065353216 0 x y 0 0 1065353216 0 = true := by
  unfold finTwo
  rw [h]
  decide

set_option maxHeartbeats 1000000 in
theorem FnSeriesPart_walk (a : Option Addr) (len cap : Nat) (zs : List Int) (w : World) (h : IsRow .u8 w a len cap zs) :
    Calls Try.prog 3 #[.slice a len cap] w fun e w' => e = .returned (.bool true) ∧ Below w.heap.size w w' := by
  by_cases hl : (1048576 : Int) < (len : Int)
  · go_enter Try.func3, Try.ntmps3
    go_wp2_with fail
    go_ret
    exact ⟨rfl, Below.refl _ _⟩
  · go_enter Try.func3, Try.ntmps3
    go_wp2_with fail
    refine (drawSeriesPart_any h).mono ?_
    rintro e w1 ⟨v, ⟨x, y, re, im, rfl, _⟩, rfl, B1⟩
    clear h
    obtain ⟨β, hβ⟩ : ∃ β, (fin .f32 x && fin .f32 y) = β := ⟨_, rfl⟩
    have HB := Lib.hid hβ
    clear hβ
    cases β
    · go_wp2_with fail
      refine (implSeries_any _ _ _).mono ?_
      rw [HB.out, ifV_false]
      rintro e w2 ⟨rfl, C⟩
      have B2 := below_calm B1 B1.size C
      clear C
      go_wp2_with fail
      refine (specSeries_any _ _ _).mono ?_
      rw [HB.out, ifV_false]
      rintro e w3 ⟨rfl, C⟩
      have M3 := (Blk.new w2 0 0 0 0 0 0 0 0).calm C
      have B3 := Lib.hid (below_calm (B2.alloc B2.size _) (B2.alloc B2.size _).size C)
      clear C
      have A3 := M3.alloc (.cells #[.complex .f32 0 0, .complex .f32 0 0, .complex .f32 0 0, .complex .f32 0 0] 26)
      have c0 := A3.c0
      have c1 := A3.c1
      have c2 := A3.c2
      have c3 := A3.c3
      have HM := Lib.hid M3
      clear A3
      clear M3
      go_wp2_with fail
      refine (sameTwo_same _ _ _ _ _ _ _ _ _).mono ?_
      rintro e w4 ⟨rfl, C⟩
      have M4 := (HM.out.alloc _).calm C
      have B4 := Lib.hid (below_calm (B3.out.alloc B3.out.size _) (B3.out.alloc B3.out.size _).size C)
      clear C c0 c1 c2 c3 HM B3
      have c0 := M4.c0
      have c1 := M4.c1
      have c2 := M4.c2
      have c3 := M4.c3
      clear M4
      go_wp2_with fail
      refine (noTwo_zero _).mono ?_
      rintro e w5 ⟨rfl, C⟩
      have B5 := Lib.hid (below_calm B4.out B4.out.size C)
      clear C c0 c1 c2 c3 B4
      go_wp2_with fail
      refine (implFinite_any _ _ _).mono ?_
      rw [HB.out]
      rintro e w6 ⟨rfl, n, rfl⟩
      go_wp2_with fail
      refine (alive_any _).mono ?_
      rintro e w6 ⟨rfl, rfl⟩
      go_wp2_with fail
      go_ret
      exact ⟨rfl, below_drewN B5.out _⟩
    · go_wp2_with fail
      refine (implSeries_any _ _ _).mono ?_
      rw [HB.out, ifV_true]
      rintro e w2 ⟨rfl, C⟩
      have B2 := below_calm B1 B1.size C
      clear C
      go_wp2_with fail
      refine (specSeries_any _ _ _).mono ?_
      rw [HB.out, ifV_true]
      rintro e w3 ⟨rfl, C⟩
      have M3 := (Blk.new w2 1065353216 0 x y 0 0 1065353216 0).calm C
      have B3 := Lib.hid (below_calm (B2.alloc B2.size _) (B2.alloc B2.size _).size C)
      clear C
      have A3 := M3.alloc (.cells #[.complex .f32 1065353216 0, .complex .f32 x y, .complex .f32 0 0, .complex .f32 1065353216 0] 26)
      have c0 := A3.c0
      have c1 := A3.c1
      have c2 := A3.c2
      have c3 := A3.c3
      have HM := Lib.hid M3
      clear A3
      clear M3
      go_wp2_with fail
      refine (sameTwo_same _ _ _ _ _ _ _ _ _).mono ?_
      rintro e w4 ⟨rfl, C⟩
      have M4 := Lib.hid ((HM.out.alloc _).calm C)
      have B4 := Lib.hid (below_calm (B3.out.alloc B3.out.size _) (B3.out.alloc B3.out.size _).size C)
      clear C c0 c1 c2 c3 HM B3
      go_wp2_with fail
      refine (whole_any _ _ _ _ (by omega) (by omega)).mono ?_
      rintro e w5 ⟨γ, n5, rfl, rfl, hγ⟩
      have HG := Lib.hid hγ
      clear hγ
      have c0 := M4.out.c0
      have c1 := M4.out.c1
      have c2 := M4.out.c2
      have c3 := M4.out.c3
      cases γ
      · go_wp2_with fail
        refine (implTwoOk_any _ _ _ _ _ _ _ _ _).mono ?_
        rw [finTwo_series x y HB.out]
        rintro e w6 ⟨rfl, C⟩
        go_wp2_with fail
        go_ret
        exact ⟨rfl, below_calm (below_drewN B4.out _) B4.out.size C⟩
      · obtain ⟨i, j, hI, bi, bj⟩ := whole_int (HG.out rfl) (by omega)
        have hM : (⟨1065353216, 0, x, y, 0, 0, 1065353216, 0⟩ : Words).Is ⟨1, 0, i, j, 0, 0, 1, 0⟩ := ⟨one_int, hI, zero_int, one_int⟩
        have hb : (⟨1, 0, i, j, 0, 0, 1, 0⟩ : Ints).small := ⟨by simp, by simp, bi, bj, by simp, by simp, by simp, by simp⟩
        obtain ⟨s, t, g1, g2, g3, g4, hS⟩ := sum_int hI hI (by omega) (by omega) (by omega) (by omega)
        have HM := Lib.hid hM
        have HB' := Lib.hid hb
        have HS := Lib.hid hS
        clear hM hb hS hI bi bj
        go_wp2_with fail
        refine (cascade_int (m := ⟨1065353216, 0, x, y, 0, 0, 1065353216, 0⟩) (n := ⟨1065353216, 0, x, y, 0, 0, 1065353216, 0⟩) HM.out HM.out HB'.out HB'.out _).mono ?_
        rintro e w6 ⟨⟨⟨p1, q1, p2, q2, p3, q3, p4, q4⟩, rfl, hO⟩, C⟩
        have HO := Lib.hid hO
        have B6 := Lib.hid (below_calm (below_drewN B4.out _) B4.out.size C)
        clear hO C c0 c1 c2 c3
        unfold Words.v
        go_wp2_with fail
        refine (implSeries_any _ _ _).mono ?_
        have hf : (fin .f32 s && fin .f32 t) = true := by rw [HS.out.1, HS.out.2.1]; rfl
        rw [hf, ifV_true]
        clear hf
        rintro e w7 ⟨rfl, C⟩
        have M7 := (Blk.new w6 p1 q1 p2 q2 p3 q3 p4 q4).calm C
        have B7 := Lib.hid (below_calm (B6.out.alloc B6.out.size _) (B6.out.alloc B6.out.size _).size C)
        have A7 := M7.alloc (.cells #[.complex .f32 1065353216 0, .complex .f32 s t, .complex .f32 0 0, .complex .f32 1065353216 0] 26)
        have c0 := A7.c0
        have c1 := A7.c1
        have c2 := A7.c2
        have c3 := A7.c3
        clear C M7 B6 A7
        go_wp2_with fail
        obtain ⟨j1, j2, j3, j4⟩ := HO.out
        refine (equalTwo_of (eqs_int j1 one_int (by simp [Ints.mul]) (by simp [Ints.mul])) (eqs_int j2 HS.out (by simp [Ints.mul]) (by simp [Ints.mul])) (eqs_int j3 zero_int (by simp [Ints.mul]) (by simp [Ints.mul])) (eqs_int j4 one_int (by simp [Ints.mul]) (by simp [Ints.mul])) _).mono ?_
        clear j1 j2 j3 j4
        rintro e w8 ⟨rfl, C⟩
        have B8 := Lib.hid (below_calm (B7.out.alloc B7.out.size _) (B7.out.alloc B7.out.size _).size C)
        clear C c0 c1 c2 c3
        go_wp2_with fail
        go_ret
        exact ⟨rfl, B8.out⟩

end Go.Proofs.Ytlndnghdddekaaa
