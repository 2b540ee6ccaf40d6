/-
  Columns: of a table, in the model.
-/
import Derived.Test.YthbebgnjidaokaaDoorTbl
import Derived.Laws.OwnMore
namespace Go.Proofs.YthbebgnjidaokaaDoor
open Go.RowKit Fl

/-- A list of complex numbers. -/
def CRow (w : World) (a : Option Addr) (zs : List (Nat × Nat)) : Prop :=
  zs = [] ∨ ∃ g, a = some ⟨g, 0, none⟩ ∧ ∀ i, (h : i < zs.length) → w.cell? ⟨g, i, none⟩ = some (.complex .f32 zs[i].1 zs[i].2)
theorem CRow.calm {w w' : World} {a : Option Addr} {zs : List (Nat × Nat)} (H : CRow w a zs) (C : Calm w w') : CRow w' a zs := by
  rcases H with h | ⟨g, h1, h2⟩
  · exact .inl h
  · refine .inr ⟨g, h1, fun i hi => ?_⟩
    have := h2 i hi
    rw [World.cell?_of_block (w := w) (C.block g (World.block_lt_of_cell? w _ this) (fun e => by cases e))]
    exact this

def cellsC (zs : List (Nat × Nat)) : List Value := zs.map fun z => .complex .f32 z.1 z.2
theorem own_formC {w : World} {base : Nat} {e : TypeId} {size : Nat} {v : Value} {n : Nat} {xs : List Value} (h : w.ownsRow base e size v n xs) (hv : v ≠ .slice none 0 0) : ∃ g cap, v = .slice (some ⟨g, 0, none⟩) n cap := by
  rcases h.2 with ⟨h, _⟩ | ⟨g, cap, cur, h, hb, _⟩
  · exact absurd h hv
  · exact ⟨g, cap, h⟩
theorem crow_of {w : World} {base g n cap : Nat} {e : TypeId} {zs : List (Nat × Nat)} (h : w.ownsRow base e 1 (.slice (some ⟨g, 0, none⟩) n cap) n (cellsC zs)) (hn : zs.length = n) : CRow w (some ⟨g, 0, none⟩) zs := by
  refine .inr ⟨g, rfl, fun i hi => ?_⟩
  rw [h.cellAt _ (by omega)]
  unfold cellsC
  rw [List.getElem?_map, List.getElem?_eq_getElem hi]
  rfl

/-- One of the four numbers of a row. -/
def RowW.num (r : RowW) (k : Int) : Nat × Nat := if k = 0 then (r.m.a, r.m.b) else if k = 1 then (r.m.c, r.m.d) else if k = 2 then (r.m.e, r.m.f) else (r.m.g, r.m.h)
/-- The first numbers of a column. -/
def colP (rs : List RowW) (k : Int) (n : Nat) : List (Nat × Nat) := (rs.take n).map fun r => r.num k
theorem colP_step {rs : List RowW} {k : Int} {n : Nat} (h : n < rs.length) : colP rs k (n + 1) = colP rs k n ++ [rs[n].num k] := by
  unfold colP
  rw [← List.take_append_getElem h, List.map_append]
  rfl
theorem colP_len {rs : List RowW} {k : Int} {n : Nat} (h : n ≤ rs.length) : (colP rs k n).length = n := by
  unfold colP
  rw [List.length_map, List.length_take]
  omega
theorem colP_end (rs : List RowW) (k : Int) : colP rs k rs.length = rs.map fun r => r.num k := by
  unfold colP
  rw [List.take_length]
/-- What ColumnOf gives. -/
def colB (rs : List RowW) (k : Int) : List (Nat × Nat) := if tabB rs && (decide (0 ≤ k) && decide (k ≤ 3)) then rs.map fun r => r.num k else []

theorem Tryd.infoC : (Tryd.prog.info? 33).map (fun i => (i.zero, i.size, i.bytes)) = some (some (.complex .f32 0 0), 1, 8) := by kernel_rfl

/-- What the loop of ColumnOf holds. -/
structure ColHold (w wr : World) (v : Value) (zs : List (Nat × Nat)) : Prop where
  own : wr.ownsRow w.heap.size 33 1 v zs.length (cellsC zs)
  nn : v ≠ .slice none 0 0
  c : Calm w wr
theorem ColHold.calm {w wr wx : World} {v : Value} {zs : List (Nat × Nat)} (H : ColHold w wr v zs) (C : Calm wr wx) : ColHold w wx v zs :=
  ⟨H.own.kept C (by cases v.ownBlock <;> simp), H.nn, calm_trans H.c C⟩
theorem ColHold.app {w wr wx : World} {v v' : Value} {zs : List (Nat × Nat)} {z : Nat × Nat} (H : ColHold w wr v zs) (O : wx.ownsRow w.heap.size 33 1 v' (zs.length + 1) (cellsC zs ++ [.complex .f32 z.1 z.2])) (G : wr.grownBy wx v.ownBlock) (hn : v' ≠ .slice none 0 0) : ColHold w wx v' (zs ++ [z]) := by
  refine ⟨by rw [List.length_append]; unfold cellsC at *; rw [List.map_append]; exact O, hn, ?_⟩
  refine ⟨G.os.trans H.c.os, G.tape.trans H.c.tape, G.output.trans H.c.output, Nat.le_trans H.c.size G.size, fun k hk hne => ?_⟩
  have hs := H.c.size
  rw [G.block k (by omega) (fun h => by have := (H.own.lt _ h.symm).1; omega)]
  exact H.c.block k hk hne

end Go.Proofs.YthbebgnjidaokaaDoor
