/-
  ReadTable in the model: the loops.
-/
import Derived.Test.YthbebgnjidaokaaDoorReadTb
namespace Go.Proofs.YthbebgnjidaokaaDoor
open Go.RowKit Fl

def cellsZ (zs : List (Nat × Nat)) : List Value := zs.map fun z => .complex .f32 z.1 z.2
/-- What the loops of ReadTable hold: rows, and numbers. -/
structure RdHold (w wr : World) (v : Value) (rs : List RowW) : Prop where
  own : wr.ownsRow w.heap.size 40 5 v rs.length (cells5 rs)
  nn : v ≠ .slice none 0 0
  c : Calm w wr
theorem RdHold.calm {w wr wx : World} {v : Value} {rs : List RowW} (H : RdHold w wr v rs) (C : Calm wr wx) : RdHold w wx v rs :=
  ⟨H.own.kept C (by cases v.ownBlock <;> simp), H.nn, calm_trans H.c C⟩
theorem calm_over {w wr wx : World} {o : Option Nat} (c : Calm w wr) (G : wr.grownBy wx o) (ho : ∀ g, o = some g → w.heap.size ≤ g) : Calm w wx := by
  refine ⟨G.os.trans c.os, G.tape.trans c.tape, G.output.trans c.output, Nat.le_trans c.size G.size, fun k hk hne => ?_⟩
  have hs := c.size
  rw [G.block k (by omega) (fun h => by have := ho k h.symm; omega)]
  exact c.block k hk hne
theorem RdHold.app {w wr wx : World} {v v' : Value} {rs : List RowW} {r : RowW} (H : RdHold w wr v rs) (O : wx.ownsRow w.heap.size 40 5 v' (rs.length + 1) (cells5 rs ++ r.cells)) (G : wr.grownBy wx v.ownBlock) (hn : v' ≠ .slice none 0 0) : RdHold w wx v' (rs ++ [r]) :=
  ⟨by rw [cells5_add, List.length_append]; exact O, hn, calm_over H.c G (fun g e => (H.own.lt g e).1)⟩
structure LHold (w wr : World) (v : Value) (zs : List (Nat × Nat)) : Prop where
  own : wr.ownsRow w.heap.size 33 1 v zs.length (cellsZ zs)
  nn : v ≠ .slice none 0 0
  c : Calm w wr
theorem LHold.calm {w wr wx : World} {v : Value} {zs : List (Nat × Nat)} (H : LHold w wr v zs) (C : Calm wr wx) : LHold w wx v zs :=
  ⟨H.own.kept C (by cases v.ownBlock <;> simp), H.nn, calm_trans H.c C⟩
theorem LHold.app {w wr wx : World} {v v' : Value} {zs : List (Nat × Nat)} {z : Nat × Nat} (H : LHold w wr v zs) (O : wx.ownsRow w.heap.size 33 1 v' (zs.length + 1) (cellsZ zs ++ [.complex .f32 z.1 z.2])) (G : wr.grownBy wx v.ownBlock) (hn : v' ≠ .slice none 0 0) : LHold w wx v' (zs ++ [z]) :=
  ⟨by rw [List.length_append]; unfold cellsZ at *; rw [List.map_append]; exact O, hn, calm_over H.c G (fun g e => (H.own.lt g e).1)⟩

/-- A list of strings in a block of its own kind. -/
structure SL (w : World) (g : Nat) (ps : List ByteArray) : Prop where
  l : SList w g ps
  b : ∃ cs, w.heap[g]? = some (.cells cs 9 (0, 0))
theorem SL.lt {w : World} {g : Nat} {ps : List ByteArray} (H : SL w g ps) : g < w.heap.size := by
  obtain ⟨cs, h⟩ := H.b
  exact (Array.getElem?_eq_some_iff.1 h).1
theorem SL.block {w w' : World} {g : Nat} {ps : List ByteArray} (H : SL w g ps) (h : w'.heap[g]? = w.heap[g]?) : SL w' g ps := by
  refine ⟨fun i hi => ?_, ?_⟩
  · rw [World.cell?_of_block (w := w) h]
    exact H.l i hi
  · rw [h]
    exact H.b
theorem SL.calm {w w' : World} {g : Nat} {ps : List ByteArray} (H : SL w g ps) (C : Calm w w') : SL w' g ps := H.block (C.block g H.lt (fun e => by cases e))
theorem SL.own {w w' : World} {g base n : Nat} {ps : List ByteArray} {v : Value} {xs : List Value} (H : SL w g ps) (O : w.ownsRow base 40 5 v n xs) (G : w.grownBy w' v.ownBlock) : SL w' g ps := by
  refine H.block (G.block g H.lt ?_)
  intro e
  obtain ⟨cs, hb⟩ := H.b
  rcases O.2 with ⟨rfl, _⟩ | ⟨g', cap', cur, rfl, _, hh, _⟩
  · cases e
  · have e' : some g = some g' := by first | exact e | exact e.symm
    injection e' with e'
    subst e'
    rw [hb] at hh
    injection hh with hh
    injection hh with _ ht _
    exact absurd ht (by decide)
theorem row5_ofR {w : World} {base g cap : Nat} {rs : List RowW} (h : w.ownsRow base 40 5 (.slice (some ⟨g, 0, none⟩) rs.length cap) rs.length (cells5 rs)) : Row5 w g rs := by
  intro i hi
  obtain ⟨a, b, c, d, e⟩ := cells5_at rs i hi
  have hl := cells5_length rs
  exact ⟨by show w.cell? _ = _; rw [h.cellAt _ (by omega)]; exact a, by show w.cell? _ = _; rw [h.cellAt _ (by omega)]; exact b, by show w.cell? _ = _; rw [h.cellAt _ (by omega)]; exact c, by show w.cell? _ = _; rw [h.cellAt _ (by omega)]; exact d, by show w.cell? _ = _; rw [h.cellAt _ (by omega)]; exact e⟩

def wordOk (p : ByteArray) : Bool := (Tx.numV (byt p)).isSome
/-- Whether a line's words are told so far. -/
def okJ (f : Bool) (qs : List ByteArray) (j : Nat) : Bool := f && ((qs.take j).drop 1).all wordOk
theorem okJ_one (f : Bool) (qs : List ByteArray) (h : 1 ≤ qs.length) : okJ f qs 1 = f := by
  unfold okJ
  cases qs with
  | nil => simp at h
  | cons q t => simp
theorem okJ_step (f : Bool) (qs : List ByteArray) {j : Nat} (h1 : 1 ≤ j) (h : j < qs.length) : okJ f qs (j + 1) = (okJ f qs j && wordOk qs[j]) := by
  unfold okJ
  rw [← List.take_append_getElem h, List.drop_append_of_le_length (by rw [List.length_take]; omega), List.all_append, Bool.and_assoc]
  simp

theorem take_map_lines {ps : List ByteArray} {rI : List Tx.RowI} {k : Nat} (h : k < ps.length) {r : Tx.RowI} (H : (ps.take k).map (fun p => Tx.lineV (byt p)) = rI.map some) (hr : Tx.lineV (byt ps[k]) = some r) : (ps.take (k + 1)).map (fun p => Tx.lineV (byt p)) = (rI ++ [r]).map some := by
  rw [← List.take_append_getElem h, List.map_append, List.map_append, H]
  simp [hr]

/-- Where a line is none, the text is none. -/
theorem readT_bad {l : Tx.Bs} {ps : List ByteArray} (hps : ps.map byt = Tx.cutL 10 l) {k : Nat} (hk : k + 1 < ps.length) (hb : Tx.lineV (byt ps[k]) = none) : readT l = none := by
  have hne : ps ≠ [] := by rintro rfl; simp at hk
  have e : ps = ps.dropLast ++ [ps.getLast hne] := (List.dropLast_concat_getLast hne).symm
  have hm : byt ps[k] ∈ ps.dropLast.map byt := by
    refine List.mem_map_of_mem ?_
    have : k < ps.dropLast.length := by rw [List.length_dropLast]; omega
    have e2 : ps.dropLast[k] = ps[k] := by rw [List.getElem_dropLast]
    rw [← e2]
    exact List.getElem_mem this
  have : Tx.rowsV l = none := by
    unfold Tx.rowsV
    rw [← hps, e, List.map_append]
    exact linesV_bad hm hb _
  unfold readT
  rw [this]
/-- Where all lines are told. -/
theorem readT_all {l : Tx.Bs} {ps : List ByteArray} (hps : ps.map byt = Tx.cutL 10 l) {rI : List Tx.RowI} (hne : ps ≠ []) (H : (ps.take (ps.length - 1)).map (fun p => Tx.lineV (byt p)) = rI.map some) : readT l = if byt (ps.getLast hne) = [] then (if tabB (rI.map rowM) then some rI else none) else none := by
  have e : ps = ps.dropLast ++ [ps.getLast hne] := (List.dropLast_concat_getLast hne).symm
  have : Tx.rowsV l = if byt (ps.getLast hne) = [] then some rI else none := by
    unfold Tx.rowsV
    rw [← hps]
    conv => lhs; rw [e, List.map_append]
    refine linesV_all ?_ _
    rw [← H, List.dropLast_eq_take, List.map_map]
    rfl
  unfold readT
  rw [this]
  by_cases h : byt (ps.getLast hne) = []
  · rw [if_pos h, if_pos h]
  · rw [if_neg h, if_neg h]

end Go.Proofs.YthbebgnjidaokaaDoor
