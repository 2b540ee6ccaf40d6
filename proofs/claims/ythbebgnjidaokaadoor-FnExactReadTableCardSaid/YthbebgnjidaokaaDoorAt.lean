/-
  A block that holds a known row of cells.
-/
import Derived.Test.YthbebgnjidaokaaDoorDrawT
import Derived.Test.YthbebgnjidaokaaDoorC3
namespace Go.Proofs.YthbebgnjidaokaaDoor
open Go.RowKit Fl

/-- This block holds this. -/
def At (w : World) (S : Nat) (o : Obj) : Prop := w.heap[S]? = some o
theorem At.lt {w : World} {S : Nat} {o : Obj} (H : At w S o) : S < w.heap.size := (Array.getElem?_eq_some_iff.1 H).1
theorem At.new (w : World) (o : Obj) : At (w.alloc o) w.heap.size o := heap_alloc_new w o
theorem At.alloc {w : World} {S : Nat} {o : Obj} (H : At w S o) (x : Obj) : At (w.alloc x) S o := by
  unfold At
  rw [Below.heap_alloc _ _ _ H.lt]
  exact H
theorem At.drewN {w : World} {S : Nat} {o : Obj} (H : At w S o) (n : Nat) : At (w.drewN n) S o := H
theorem At.calm {w w' : World} {S : Nat} {o : Obj} (H : At w S o) (L : Calm w w') : At w' S o := by
  unfold At
  rw [L.block S H.lt (fun e => by cases e)]
  exact H
theorem At.other {w : World} {S : Nat} {o : Obj} (H : At w S o) {r : Addr} (hr : S ≠ r.block) (v : Value) : At (w.setCell r v) S o := by
  unfold At
  rw [Below.heap_setCell _ _ _ _ hr]
  exact H
theorem At.cell {w : World} {S : Nat} {cs : Array Value} {T : TypeId} (H : At w S (.cells cs T)) {i : Nat} {v : Value} (h : cs[i]? = some v) : w.cell? ⟨S, i, none⟩ = some v := by
  unfold At at H
  simp [World.cell?, H, h]
theorem At.fr {w : World} {S : Nat} {cs : Array Value} {T : TypeId} (H : At w S (.cells cs T)) (i : Nat) : w.frozen? ⟨S, i, none⟩ = false := by
  unfold At at H
  simp [World.frozen?, H]
theorem At.grown {w w' : World} {S b : Nat} {o : Obj} (H : At w S o) (G : w.grownBy w' (some b)) (hn : S ≠ b) : At w' S o := by
  unfold At
  rw [G.block S H.lt (fun e => by injection e with e; exact hn e)]
  exact H

@[go_sem] theorem run_store_float (P : Program) (w : World) (a : Addr) (m : Mode) (k : FloatKind) (x : Nat) : (store a (.float k x) m).run P w = stored P w a (.float k x) m := run_store P w a _ m rfl

theorem At.set2 {w : World} {S : Nat} {u v : Value} {T : TypeId} (H : At w S (.cells #[u, v] T)) (x y : Value) : At ((w.setCell ⟨S, 0, none⟩ x).setCell ⟨S, 1, none⟩ y) S (.cells #[x, y] T) := by
  unfold At at *
  simp [World.setCell, Array.getElem?_modify, H]
theorem At.set0 {w : World} {S : Nat} {u v : Value} {T : TypeId} (H : At w S (.cells #[u, v] T)) (x : Value) : At (w.setCell ⟨S, 0, none⟩ x) S (.cells #[x, v] T) := by
  unfold At at *
  simp [World.setCell, Array.getElem?_modify, H]
theorem At.set1 {w : World} {S : Nat} {u v : Value} {T : TypeId} (H : At w S (.cells #[u, v] T)) (y : Value) : At (w.setCell ⟨S, 1, none⟩ y) S (.cells #[u, y] T) := by
  unfold At at *
  simp [World.setCell, Array.getElem?_modify, H]

end Go.Proofs.YthbebgnjidaokaaDoor
