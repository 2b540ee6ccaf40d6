/-
  The walk of FnTwoOk: it answers true.
-/
import Derived.Test.YtdellcgnclliaaaDrawT
import Derived.Test.YtdellcgnclliaaaTwo
namespace Go.Proofs.Ytdellcgnclliaaa
open Go.RowKit Fl

theorem IsRow.alloc {k : IntKind} {w : World} {a : Option Addr} {len cap : Nat} {zs : List Int} (h : IsRow k w a len cap zs) (o : Obj) : IsRow k (w.alloc o) a len cap zs := by
  rcases h with h | ⟨x, h1, h2, h3, h4, h5, h6⟩
  · exact .inl h
  · refine .inr ⟨x, h1, h2, h3, h4, fun i hi => ?_, h6⟩
    have hc := h5 i hi
    rw [World.cell?_of_block (w := w) (Below.heap_alloc _ _ _ (World.block_lt_of_cell? w _ hc))]
    exact hc

theorem Blk.below {w w' : World} {S B a b c d e f g h : Nat} (H : Blk w B a b c d e f g h) (L : Below S w w') (hB : B < S) : Blk w' B a b c d e f g h := by
  unfold Blk
  rw [L.block B hB]
  exact H
theorem Blk.calm {w w' : World} {B a b c d e f g h : Nat} (H : Blk w B a b c d e f g h) (L : Calm w w') : Blk w' B a b c d e f g h := by
  unfold Blk
  rw [L.block B H.lt (fun e => by cases e)]
  exact H

/-- Nothing below is written by a store into a block above. -/
theorem below_set4 {S : Nat} {w w' : World} (h : Below S w w') {B : Nat} (hB : S ≤ B) (v0 v1 v2 v3 : Value) :
    Below S w ((((w'.setCell ⟨B, 0, none⟩ v0).setCell ⟨B, 1, none⟩ v1).setCell ⟨B, 2, none⟩ v2).setCell ⟨B, 3, none⟩ v3) :=
  (((h.setCell (p := ⟨B, 0, none⟩) hB v0).setCell (p := ⟨B, 1, none⟩) hB v1).setCell (p := ⟨B, 2, none⟩) hB v2).setCell (p := ⟨B, 3, none⟩) hB v3

set_option maxHeartbeats 400000 in
theorem drawTwoOk_any {a : Option Addr} {len cap : Nat} {zs : List Int} {w : World} (h : IsRow .u8 w a len cap zs) :
    Calls Try.prog 10 #[.slice a len cap] w (Got IsTwo w) := by
  go_enter Try.func10, Try.ntmps10
  go_wp2_with fail
  refine (open_any (h.alloc _)).mono ?_
  rintro e w1 ⟨b, a1, len1, cap1, rfl, R1, hb, B1⟩
  have hs : (w.alloc (.cells #[.complex .f32 0 0, .complex .f32 0 0, .complex .f32 0 0, .complex .f32 0 0] 25)).heap.size = w.heap.size + 1 := by simp
  have A1 := (Blk.new w 0 0 0 0 0 0 0 0).below B1 (by omega)
  have B2 := (((Below.refl w.heap.size w).alloc (Nat.le_refl _) (.cells #[.complex .f32 0 0, .complex .f32 0 0, .complex .f32 0 0, .complex .f32 0 0] 25))).trans (B1.mono (B' := w.heap.size) (by omega))
  clear B1
  go_wp2_with fail
  refine (two_any R1 (by omega) (by omega) (by omega)).mono ?_
  rintro e w2 ⟨v, k2, ⟨x1, y1, x2, y2, x3, y3, x4, y4, rfl⟩, rfl, _, R2, G2⟩
  have A2 := A1.grown G2 (by omega)
  have B3 := Lib.hid (below_drawn B2 (show w.heap.size ≤ b by omega) B2.size G2)
  have r0 := A2.c0
  have r1 := A2.c1
  have r2 := A2.c2
  have r3 := A2.c3
  have q0 := A2.fr 0
  have q1 := A2.fr 1
  have q2 := A2.fr 2
  have q3 := A2.fr 3
  have HA := Lib.hid A2
  clear R1 R2 G2 B2 A1 A2 hs
  go_wp2_with fail
  refine bodyPost_ret (results_two rfl _ rfl ((((HA.out.s0 _ _).s1 _ _).s2 _ _).s3 _ _)) rfl ?_
  exact ⟨_, ⟨_, _, _, _, _, _, _, _, rfl⟩, rfl, below_set4 B3.out (Nat.le_refl _) _ _ _ _⟩

theorem below_calm {B : Nat} {w w1 w2 : World} (h1 : Below B w w1) (hs : B ≤ w1.heap.size) (h2 : Calm w1 w2) : Below B w w2 :=
  h1.grown h2 hs (fun k hk => by cases hk)

theorem finTwo_swap (a b c d e f g h : Nat) : finTwo e f g h a b c d = finTwo a b c d e f g h := by
  unfold finTwo
  cases (fin .f32 a && fin .f32 b) <;> cases (fin .f32 c && fin .f32 d) <;> cases (fin .f32 e && fin .f32 f) <;> cases (fin .f32 g && fin .f32 h) <;> rfl

theorem finTwo_zero : finTwo 0 0 0 0 0 0 0 0 = true := by decide

set_option maxHeartbeats 1000000 in
theorem FnTwoOk_walk (a : Option Addr) (len cap : Nat) (zs : List Int) (w : World) (h : IsRow .u8 w a len cap zs) :
    Calls Try.prog 3 #[.slice a len cap] w fun e w' => e = .returned (.bool true) ∧ Below w.heap.size w w' := by
  by_cases hl : (1048576 : Int) < (len : Int)
  · go_enter Try.func3, Try.ntmps3
    go_wp2_with fail
    go_ret
    exact ⟨rfl, Below.refl _ _⟩
  · go_enter Try.func3, Try.ntmps3
    go_wp2_with fail
    refine (drawTwoOk_any h).mono ?_
    rintro e w1 ⟨v, ⟨x1, y1, x2, y2, x3, y3, x4, y4, rfl⟩, rfl, B1⟩
    clear h
    obtain ⟨β, hβ⟩ : ∃ β, finTwo x1 y1 x2 y2 x3 y3 x4 y4 = β := ⟨_, rfl⟩
    have HS := Lib.hid ((finTwo_swap x1 y1 x2 y2 x3 y3 x4 y4).trans hβ)
    have HB := Lib.hid hβ
    clear hβ
    cases β
    all_goals
      go_wp2_with fail
      refine (implTwoOk_any _ _ _ _ _ _ _ _ _).mono ?_
      rw [HB.out]
      rintro e w2 ⟨rfl, C⟩
      have M2 := Lib.hid ((Blk.new w1 x1 y1 x2 y2 x3 y3 x4 y4).calm C)
      have B2 := Lib.hid (below_calm (B1.alloc B1.size _) (B1.alloc B1.size _).size C)
      clear C
      have c0 := M2.out.c0
      have c1 := M2.out.c1
      have c2 := M2.out.c2
      have c3 := M2.out.c3
      go_wp2_with fail
      refine (specTwoOk_any _ _ _ _ _ _ _ _ _).mono ?_
      rw [HB.out]
      rintro e w3 ⟨rfl, C⟩
      have M3 := Lib.hid (M2.out.calm C)
      have B3 := Lib.hid (below_calm B2.out B2.out.size C)
      clear C M2 B2 c0 c1 c2 c3
      have c0 := M3.out.c0
      have c1 := M3.out.c1
      have c2 := M3.out.c2
      have c3 := M3.out.c3
      go_wp2_with fail
      refine (implTwoOk_any _ _ _ _ _ _ _ _ _).mono ?_
      rw [finTwo_zero]
      rintro e w4 ⟨rfl, C⟩
      have M4 := Lib.hid (M3.out.calm C)
      have B4 := Lib.hid (below_calm B3.out B3.out.size C)
      clear C M3 B3 c0 c1 c2 c3
      have c0 := M4.out.c0
      have c1 := M4.out.c1
      have c2 := M4.out.c2
      have c3 := M4.out.c3
      go_wp2_with fail
      refine (implTwoOk_any _ _ _ _ _ _ _ _ _).mono ?_
      rw [HS.out]
      rintro e w5 ⟨rfl, C⟩
      have M5 := Lib.hid (M4.out.calm C)
      have B5 := Lib.hid (below_calm B4.out B4.out.size C)
      clear C M4 B4 c0 c1 c2 c3
      have c0 := M5.out.c0
      have c1 := M5.out.c1
      have c2 := M5.out.c2
      have c3 := M5.out.c3
      go_wp2_with fail
      refine (alive_any _).mono ?_
      rintro e w6 ⟨rfl, rfl⟩
      go_wp2_with fail
      go_ret
      exact ⟨rfl, B5.out⟩

end Go.Proofs.Ytdellcgnclliaaa
