/-
  The walk of FnTurnedChain: it answers true.
-/
import Derived.Test.YtlndnghdddekaaaDraw4
import Derived.Test.YtlndnghdddekaaaC3b
import Derived.Test.YtlndnghdddekaaaWSeriesPart
import Derived.Deep.RegionHeld3
namespace Go.Proofs.Ytlndnghdddekaaa
open Go.RowKit Fl

theorem okTwo_true {a b c d e f g h : Nat} (H : finTwo a b c d e f g h = true) : okTwo a b c d e f g h = .tuple #[twoV a b c d e f g h, .bool true] := by unfold okTwo; rw [H]; rfl
theorem okTwo_false {a b c d e f g h : Nat} (H : finTwo a b c d e f g h = false) : okTwo a b c d e f g h = .tuple #[twoV 0 0 0 0 0 0 0 0, .bool false] := by unfold okTwo; rw [H]; rfl
theorem finTwo_turn (a b c d e f g h : Nat) : finTwo g h c d e f a b = finTwo a b c d e f g h := by
  unfold finTwo
  cases (fin .f32 a && fin .f32 b) <;> cases (fin .f32 c && fin .f32 d) <;> cases (fin .f32 e && fin .f32 f) <;> cases (fin .f32 g && fin .f32 h) <;> rfl

set_option maxRecDepth 8000 in
set_option maxHeartbeats 40000000 in
theorem FnTurnedChain_walk (a : Option Addr) (len cap : Nat) (zs : List Int) (w : World) (h : IsRow .u8 w a len cap zs) :
    Calls Try.prog 9 #[.slice a len cap] w fun e w' => e = .returned (.bool true) ∧ Below w.heap.size w w' := by
  by_cases hl : (1048576 : Int) < (len : Int)
  · go_enter Try.func9, Try.ntmps9
    go_wp2_with fail
    go_ret
    exact ⟨rfl, Below.refl _ _⟩
  · go_enter Try.func9, Try.ntmps9
    go_wp2_with fail
    refine (drawTurnedChain_any h).mono ?_
    rintro e w1 ⟨v, ⟨x1, y1, x2, y2, x3, y3, x4, y4, rfl⟩, rfl, B1⟩
    clear h
    obtain ⟨β, hβ⟩ : ∃ β, finTwo x1 y1 x2 y2 x3 y3 x4 y4 = β := ⟨_, rfl⟩
    have HB := Lib.hid hβ
    have HT := Lib.hid ((finTwo_turn x1 y1 x2 y2 x3 y3 x4 y4).trans hβ)
    clear hβ
    cases β
    · go_wp2_with fail
      refine (implTurned_two _ _ _ _ _ _ _ _ _).mono ?_
      rw [okTwo_false HT.out]
      rintro e w2 ⟨rfl, C⟩
      have M2 := (Blk.new w1 x1 y1 x2 y2 x3 y3 x4 y4).calm C
      have B2 := below_calm (B1.alloc B1.size _) (B1.alloc B1.size _).size C
      clear C
      have A2 := M2.alloc (.cells #[.complex .f32 0 0, .complex .f32 0 0, .complex .f32 0 0, .complex .f32 0 0] 26)
      have c0 := A2.c0
      have c1 := A2.c1
      have c2 := A2.c2
      have c3 := A2.c3
      go_wp2_with fail
      refine (specTurned_two _ _ _ _ _ _ _ _ _).mono ?_
      rw [okTwo_false HT.out]
      rintro e w3 ⟨rfl, C⟩
      have M3 := (Blk.new w2 0 0 0 0 0 0 0 0).calm C
      have B3 := Lib.hid (below_calm (B2.alloc B2.size _) (B2.alloc B2.size _).size C)
      clear C c0 c1 c2 c3 A2 M2 B2
      have A3 := M3.alloc (.cells #[.complex .f32 0 0, .complex .f32 0 0, .complex .f32 0 0, .complex .f32 0 0] 26)
      have c0 := A3.c0
      have c1 := A3.c1
      have c2 := A3.c2
      have c3 := A3.c3
      go_wp2_with fail
      refine (sameTwo_same _ _ _ _ _ _ _ _ _).mono ?_
      rintro e w4 ⟨rfl, C⟩
      have M4 := A3.calm C
      have B4 := Lib.hid (below_calm (B3.out.alloc B3.out.size _) (B3.out.alloc B3.out.size _).size C)
      clear C c0 c1 c2 c3 A3 M3 B3
      have c0 := M4.c0
      have c1 := M4.c1
      have c2 := M4.c2
      have c3 := M4.c3
      go_wp2_with fail
      refine (noTwo_zero _).mono ?_
      rintro e w5 ⟨rfl, C⟩
      have B5 := Lib.hid (below_calm B4.out B4.out.size C)
      clear C c0 c1 c2 c3 M4 B4
      go_wp2_with fail
      refine (alive_any _).mono ?_
      rintro e w6 ⟨rfl, rfl⟩
      go_wp2_with fail
      go_ret
      exact ⟨rfl, B5.out⟩
    · go_wp2_with fail
      refine (implTurned_two _ _ _ _ _ _ _ _ _).mono ?_
      rw [okTwo_true HT.out]
      rintro e w2 ⟨rfl, C⟩
      have M2 := (Blk.new w1 x1 y1 x2 y2 x3 y3 x4 y4).calm C
      have B2 := below_calm (B1.alloc B1.size _) (B1.alloc B1.size _).size C
      clear C
      have A2 := M2.alloc (.cells #[.complex .f32 x4 y4, .complex .f32 x2 y2, .complex .f32 x3 y3, .complex .f32 x1 y1] 26)
      have c0 := A2.c0
      have c1 := A2.c1
      have c2 := A2.c2
      have c3 := A2.c3
      go_wp2_with fail
      refine (specTurned_two _ _ _ _ _ _ _ _ _).mono ?_
      rw [okTwo_true HT.out]
      rintro e w3 ⟨rfl, C⟩
      have M3 := A2.calm C
      have T3 := (Blk.new w2 x4 y4 x2 y2 x3 y3 x1 y1).calm C
      have B3 := Lib.hid (below_calm (B2.alloc B2.size _) (B2.alloc B2.size _).size C)
      clear C c0 c1 c2 c3 A2 M2 B2
      have U3 := T3.alloc (.cells #[.complex .f32 x4 y4, .complex .f32 x2 y2, .complex .f32 x3 y3, .complex .f32 x1 y1] 26)
      have A3 := M3.alloc (.cells #[.complex .f32 x4 y4, .complex .f32 x2 y2, .complex .f32 x3 y3, .complex .f32 x1 y1] 26)
      have c0 := U3.c0
      have c1 := U3.c1
      have c2 := U3.c2
      have c3 := U3.c3
      go_wp2_with fail
      refine (sameTwo_same _ _ _ _ _ _ _ _ _).mono ?_
      rintro e w4 ⟨rfl, C⟩
      have M4 := A3.calm C
      have T4 := U3.calm C
      have B4 := Lib.hid (below_calm (B3.out.alloc B3.out.size _) (B3.out.alloc B3.out.size _).size C)
      clear C c0 c1 c2 c3 A3 U3 M3 T3 B3
      have c0 := T4.c0
      have c1 := T4.c1
      have c2 := T4.c2
      have c3 := T4.c3
      go_wp2_with fail
      refine (implTurned_two _ _ _ _ _ _ _ _ _).mono ?_
      rw [okTwo_true HB.out]
      rintro e w5 ⟨rfl, C⟩
      have M5 := (M4.calm C).alloc (.cells #[.complex .f32 x1 y1, .complex .f32 x2 y2, .complex .f32 x3 y3, .complex .f32 x4 y4] 26)
      have T5 := (T4.calm C).alloc (.cells #[.complex .f32 x1 y1, .complex .f32 x2 y2, .complex .f32 x3 y3, .complex .f32 x4 y4] 26)
      have K5 := Blk.new w5 x1 y1 x2 y2 x3 y3 x4 y4
      have B5 := Lib.hid ((below_calm B4.out B4.out.size C).alloc (below_calm B4.out B4.out.size C).size (.cells #[.complex .f32 x1 y1, .complex .f32 x2 y2, .complex .f32 x3 y3, .complex .f32 x4 y4] 26))
      clear C c0 c1 c2 c3 M4 T4 B4
      have c0 := M5.c0
      have c1 := M5.c1
      have c2 := M5.c2
      have c3 := M5.c3
      go_wp2_with fail
      -- the determinants
      by_cases hw : Whole x1 y1 1000 ∧ Whole x2 y2 1000 ∧ Whole x3 y3 1000 ∧ Whole x4 y4 1000
      · obtain ⟨g1, g2, g3, g4⟩ := hw
        obtain ⟨i1, j1, I1, b1, d1⟩ := whole_int g1 (by omega)
        obtain ⟨i2, j2, I2, b2, d2⟩ := whole_int g2 (by omega)
        obtain ⟨i3, j3, I3, b3, d3⟩ := whole_int g3 (by omega)
        obtain ⟨i4, j4, I4, b4, d4⟩ := whole_int g4 (by omega)
        have hM : (⟨x1, y1, x2, y2, x3, y3, x4, y4⟩ : Words).Is ⟨i1, j1, i2, j2, i3, j3, i4, j4⟩ := ⟨I1, I2, I3, I4⟩
        have hT : (⟨x4, y4, x2, y2, x3, y3, x1, y1⟩ : Words).Is ⟨i4, j4, i2, j2, i3, j3, i1, j1⟩ := ⟨I4, I2, I3, I1⟩
        have hb : (⟨i1, j1, i2, j2, i3, j3, i4, j4⟩ : Ints).small := ⟨b1, d1, b2, d2, b3, d3, b4, d4⟩
        have ht : (⟨i4, j4, i2, j2, i3, j3, i1, j1⟩ : Ints).small := ⟨b4, d4, b2, d2, b3, d3, b1, d1⟩
        have HM := Lib.hid hM
        have HT' := Lib.hid hT
        have Hb := Lib.hid hb
        have Ht := Lib.hid ht
        clear hM hT hb ht g1 g2 g3 g4 I1 I2 I3 I4 b1 b2 b3 b4 d1 d2 d3 d4
        refine (implDeterminant_int (m := ⟨x1, y1, x2, y2, x3, y3, x4, y4⟩) HM.out Hb.out _).mono ?_
        rintro e w6 ⟨⟨p, q, rfl, hp⟩, C⟩
        have M6 := M5.calm C
        have T6 := T5.calm C
        have K6 := K5.calm C
        have B6 := Lib.hid (below_calm B5.out B5.out.size C)
        have HP := Lib.hid hp
        clear C hp c0 c1 c2 c3 M5 T5 K5 B5
        have c0 := T6.c0
        have c1 := T6.c1
        have c2 := T6.c2
        have c3 := T6.c3
        go_wp2_with fail
        refine (implDeterminant_int (m := ⟨x4, y4, x2, y2, x3, y3, x1, y1⟩) HT'.out Ht.out _).mono ?_
        rintro e w7 ⟨⟨r, s, rfl, hr⟩, C⟩
        have hE := eqs_int HP.out hr (by dsimp only; rw [Int.mul_comm i4 i1, Int.mul_comm j4 j1]) (by dsimp only; rw [Int.mul_comm i4 j1, Int.mul_comm j4 i1]; omega)
        have o1 := hE.1
        have o2 := hE.2
        have M7 := M6.calm C
        have K7 := K6.calm C
        have B7 := Lib.hid (below_calm B6.out B6.out.size C)
        clear C hr hE c0 c1 c2 c3 M6 T6 K6 B6
        have c0 := M7.c0
        have c1 := M7.c1
        have c2 := M7.c2
        have c3 := M7.c3
        have s0 := K7.c0
        have s1 := K7.c1
        have s2 := K7.c2
        have s3 := K7.c3
        go_wp2_with fail
        refine (sameTwo_same _ _ _ _ _ _ _ _ _).mono ?_
        rintro e w8 ⟨rfl, C⟩
        have M8 := M7.calm C
        have B8 := Lib.hid (below_calm B7.out B7.out.size C)
        clear C c0 c1 c2 c3 s0 s1 s2 s3 M7 K7 B7
        have c0 := M8.c0
        have c1 := M8.c1
        have c2 := M8.c2
        have c3 := M8.c3
        go_wp2_with fail
        refine (wholeTwo_any _ _ _ _ _ _ _ _ _ _ (by omega) (by omega)).mono ?_
        rintro e w9 ⟨δ, rfl, C, hδ⟩
        have B9 := Lib.hid (below_calm B8.out B8.out.size C)
        have HD := Lib.hid hδ
        clear C hδ c0 c1 c2 c3 M8 B8
        cases δ
        · go_wp2_with fail
          go_ret
          exact ⟨rfl, B9.out⟩
        · go_wp2_with fail
          go_ret
          exact ⟨rfl, B9.out⟩
      · have HW := Lib.hid hw
        clear hw
        refine (implDeterminant_any _ _ _ _ _ _ _ _ _).mono ?_
        rintro e w6 ⟨⟨p, q, β, rfl⟩, C⟩
        have M6 := M5.calm C
        have T6 := T5.calm C
        have K6 := K5.calm C
        have B6 := Lib.hid (below_calm B5.out B5.out.size C)
        clear C c0 c1 c2 c3 M5 T5 K5 B5
        have c0 := T6.c0
        have c1 := T6.c1
        have c2 := T6.c2
        have c3 := T6.c3
        go_wp2_with fail
        refine (implDeterminant_any _ _ _ _ _ _ _ _ _).mono ?_
        rintro e w7 ⟨⟨r, s, γ, rfl⟩, C⟩
        have M7 := M6.calm C
        have K7 := K6.calm C
        have B7 := Lib.hid (below_calm B6.out B6.out.size C)
        clear C c0 c1 c2 c3 M6 T6 K6 B6
        have c0 := M7.c0
        have c1 := M7.c1
        have c2 := M7.c2
        have c3 := M7.c3
        have s0 := K7.c0
        have s1 := K7.c1
        have s2 := K7.c2
        have s3 := K7.c3
        go_wp2_with fail
        refine (sameTwo_same _ _ _ _ _ _ _ _ _).mono ?_
        rintro e w8 ⟨rfl, C⟩
        have M8 := M7.calm C
        have B8 := Lib.hid (below_calm B7.out B7.out.size C)
        clear C c0 c1 c2 c3 s0 s1 s2 s3 M7 K7 B7
        have c0 := M8.c0
        have c1 := M8.c1
        have c2 := M8.c2
        have c3 := M8.c3
        go_wp2_with fail
        refine (wholeTwo_any _ _ _ _ _ _ _ _ _ _ (by omega) (by omega)).mono ?_
        rintro e w9 ⟨δ, rfl, C, hδ⟩
        have B9 := Lib.hid (below_calm B8.out B8.out.size C)
        have HD := Lib.hid hδ
        clear C hδ c0 c1 c2 c3 M8 B8
        cases δ
        · go_wp2_with fail
          go_ret
          exact ⟨rfl, B9.out⟩
        · exact absurd (HD.out rfl) HW.out

end Go.Proofs.Ytlndnghdddekaaa
