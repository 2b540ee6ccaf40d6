/-
  The walk of FnTwoOk: it answers true.
-/
import Derived.Test.YthbebgnjidaokaaDoorDrawT
import Derived.Test.YthbebgnjidaokaaDoorTwo
namespace Go.Proofs.YthbebgnjidaokaaDoor
open Go.RowKit Fl

theorem IsRow.alloc {k : IntKind} {w : World} {a : Option Addr} {len cap : Nat} {zs : List Int} (h : IsRow k w a len cap zs) (o : Obj) : IsRow k (w.alloc o) a len cap zs := by
  rcases h with h | ⟨x, h1, h2, h3, h4, h5, h6⟩
  · exact .inl h
  · refine .inr ⟨x, h1, h2, h3, h4, fun i hi => ?_, h6⟩
    have hc := h5 i hi
    rw [World.cell?_of_block (w := w) (Below.heap_alloc _ _ _ (World.block_lt_of_cell? w _ hc))]
    exact hc

theorem Blk.below {w w' : World} {S B a b c d e f g h : Nat} (H : Blk w B a b c d e f g h) (L : Below S w w') (hB : B < S) : Blk w' B a b c d e f g h := by
  unfold Blk
  rw [L.block B hB]
  exact H
theorem Blk.calm {w w' : World} {B a b c d e f g h : Nat} (H : Blk w B a b c d e f g h) (L : Calm w w') : Blk w' B a b c d e f g h := by
  unfold Blk
  rw [L.block B H.lt (fun e => by cases e)]
  exact H

/-- Nothing below is written by a store into a block above. -/
theorem below_set4 {S : Nat} {w w' : World} (h : Below S w w') {B : Nat} (hB : S ≤ B) (v0 v1 v2 v3 : Value) :
    Below S w ((((w'.setCell ⟨B, 0, none⟩ v0).setCell ⟨B, 1, none⟩ v1).setCell ⟨B, 2, none⟩ v2).setCell ⟨B, 3, none⟩ v3) :=
  (((h.setCell (p := ⟨B, 0, none⟩) hB v0).setCell (p := ⟨B, 1, none⟩) hB v1).setCell (p := ⟨B, 2, none⟩) hB v2).setCell (p := ⟨B, 3, none⟩) hB v3

theorem below_calm {B : Nat} {w w1 w2 : World} (h1 : Below B w w1) (hs : B ≤ w1.heap.size) (h2 : Calm w1 w2) : Below B w w2 :=
  h1.grown h2 hs (fun k hk => by cases hk)

theorem finTwo_swap (a b c d e f g h : Nat) : finTwo e f g h a b c d = finTwo a b c d e f g h := by
  unfold finTwo
  cases (fin .f32 a && fin .f32 b) <;> cases (fin .f32 c && fin .f32 d) <;> cases (fin .f32 e && fin .f32 f) <;> cases (fin .f32 g && fin .f32 h) <;> rfl

theorem finTwo_zero : finTwo 0 0 0 0 0 0 0 0 = true := by decide

end Go.Proofs.YthbebgnjidaokaaDoor
