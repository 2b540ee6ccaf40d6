/-
  The draws of scatterings, and ExchangedPorts.
-/
import Derived.Test.YthbebgnjidaokaaDoorScatD
namespace Go.Proofs.YthbebgnjidaokaaDoor
open Go.RowKit Fl

def IsCx (v : Value) : Prop := ∃ x y : Nat, v = .complex .f32 x y

theorem Rd.calmE {w w' : World} {b : Nat} {a : Option Addr} {len cap k : Nat} (h : Rd w b a len cap k) (C : Calm w w') : Rd w' b a len cap k := by
  have hlt := h.lt
  obtain ⟨T, hb⟩ := h.blk
  refine ⟨⟨T, by rw [C.block b hlt (fun e => by cases e)]; exact hb⟩, h.lim, ?_⟩
  intro i hi
  obtain ⟨ab, off, x, h1, h2, h3, h4, h5⟩ := h.data i hi
  refine ⟨ab, off, x, h1, h2, h3, h4, ?_⟩
  rw [World.cell?_of_block (w := w) (C.block ab (by omega) (fun e => by cases e))]
  exact h5
theorem calm_rowE {w w' : World} {b : Nat} (C : Calm w w') : w.grownBy w' (some b) := ⟨C.os, C.tape, C.output, C.size, fun B h _ => C.block B h (fun e => by cases e)⟩

end Go.Proofs.YthbebgnjidaokaaDoor
