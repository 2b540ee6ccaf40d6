/-
  The draw of a table.
-/
import Derived.Test.YthbebgnjidaokaaDoorScatE
import Derived.Test.YthbebgnjidaokaaDoorTbl
namespace Go.Proofs.YthbebgnjidaokaaDoor
open Go.RowKit Fl

theorem Tryd.infoRow : (Tryd.prog.info? 40).map (fun i => (i.zero, i.size, i.bytes)) = some (some (.agg #[.int .i64 0, .complex .f32 0 0, .complex .f32 0 0, .complex .f32 0 0, .complex .f32 0 0]), 5, 40) := by kernel_rfl

theorem milliV_is (p q : Int) : ∃ x y, milliV p q = .complex .f32 x y := by
  unfold milliV
  split
  · exact ⟨_, _, rfl⟩
  · exact ⟨_, _, rfl⟩

theorem grown_over {w wr wx : World} {b : Nat} {o : Option Nat} (G : w.grownBy wr (some b)) (H : wr.grownBy wx o) (ho : ∀ g, o = some g → w.heap.size ≤ g) : w.grownBy wx (some b) := by
  refine ⟨H.os.trans G.os, H.tape.trans G.tape, H.output.trans G.output, Nat.le_trans G.size H.size, fun k hk hne => ?_⟩
  have hkr : k < wr.heap.size := Nat.lt_of_lt_of_le hk G.size
  rw [H.block k hkr (fun e => by have := ho k e.symm; omega)]
  exact G.block k hk hne

/-- What the draw of a table holds: the rows so far. -/
structure TbHold (w wr : World) (b : Nat) (v : Value) (rs : List RowW) : Prop where
  own : wr.ownsRow w.heap.size 40 5 v rs.length (cells5 rs)
  nn : v ≠ .slice none 0 0
  g : w.grownBy wr (some b)
  bb : b < w.heap.size
theorem TbHold.grown {w wr wx : World} {b : Nat} {v : Value} {rs : List RowW} (H : TbHold w wr b v rs) (G : wr.grownBy wx (some b)) : TbHold w wx b v rs :=
  ⟨H.own.kept G (.inr (by intro e; have := (H.own.lt _ e).1; have := H.bb; omega)), H.nn, Lib.grownBy_trans H.g G, H.bb⟩
theorem TbHold.alloc {w wr : World} {b : Nat} {v : Value} {rs : List RowW} (H : TbHold w wr b v rs) (o : Obj) : TbHold w (wr.alloc o) b v rs := H.grown (World.grownBy_alloc wr o _)
theorem TbHold.calm {w wr wx : World} {b : Nat} {v : Value} {rs : List RowW} (H : TbHold w wr b v rs) (C : Calm wr wx) : TbHold w wx b v rs := H.grown (calm_rowE C)
theorem TbHold.app {w wr wx : World} {b : Nat} {v v' : Value} {rs : List RowW} {r : RowW} (H : TbHold w wr b v rs) (O : wx.ownsRow w.heap.size 40 5 v' (rs.length + 1) (cells5 rs ++ r.cells)) (G : wr.grownBy wx v.ownBlock) (hn : v' ≠ .slice none 0 0) : TbHold w wx b v' (rs ++ [r]) :=
  ⟨by rw [cells5_add, List.length_append]; exact O, hn, grown_over H.g G (fun g e => (H.own.lt g e).1), H.bb⟩
theorem At.setAtT {w : World} {S : Nat} {cs : Array Value} {T : TypeId} (H : At w S (.cells cs T)) (i : Nat) (v : Value) : At (w.setCell ⟨S, i, none⟩ v) S (.cells (cs.setIfInBounds i v) T) := by
  unfold At at *
  simp [World.setCell, Array.getElem?_modify, H]
theorem TbHold.free {w wr : World} {b : Nat} {v : Value} {rs : List RowW} (H : TbHold w wr b v rs) {X : Nat} (hX : wr.heap.size ≤ X) : v.ownBlock ≠ some X := by
  intro h
  have := (H.own.lt X h).2
  omega
theorem TbHold.set {w wr : World} {b : Nat} {v : Value} {rs : List RowW} (H : TbHold w wr b v rs) {X : Nat} (hX : w.heap.size ≤ X) (hv : v.ownBlock ≠ some X) (_hb : b ≠ X) (i : Nat) (u : Value) : TbHold w (wr.setCell ⟨X, i, none⟩ u) b v rs := by
  have G : wr.grownBy (wr.setCell ⟨X, i, none⟩ u) (some X) := Lib.grownBy_setB (grown_refl _ _) i _
  exact ⟨H.own.kept G (.inr hv), H.nn, grown_over H.g G (fun g e => by injection e with e; omega), H.bb⟩
theorem Rd.keptT {w w' : World} {b g : Nat} {a : Option Addr} {len cap k : Nat} (h : Rd w b a len cap k) (G : w.grownBy w' (some g)) (hg : b < g) : Rd w' b a len cap k := by
  have hlt := h.lt
  obtain ⟨T, hb⟩ := h.blk
  refine ⟨⟨T, by rw [G.block b hlt (fun e => by injection e with e; omega)]; exact hb⟩, h.lim, ?_⟩
  intro i hi
  obtain ⟨ab, off, x, h1, h2, h3, h4, h5⟩ := h.data i hi
  refine ⟨ab, off, x, h1, h2, h3, h4, ?_⟩
  rw [World.cell?_of_block (w := w) (G.block ab (by omega) (fun e => by injection e with e; omega))]
  exact h5
theorem TbHold.rd {w wr wx : World} {b : Nat} {v : Value} {rs : List RowW} {a : Option Addr} {len cap k : Nat} (H : TbHold w wr b v rs) (R : Rd wr b a len cap k) (G : wr.grownBy wx v.ownBlock) : Rd wx b a len cap k := by
  cases he : v.ownBlock with
  | none =>
    rw [he] at G
    exact R.calmE G
  | some g =>
    rw [he] at G
    have := (H.own.lt g he).1
    exact R.keptT G (by have := H.bb; omega)

theorem at_newsT {w : World} {g : Nat} {cs : List Value} {T : TypeId} (H : At w g (.cells cs.toArray T)) : ∀ j u, cs[j]? = some u → w.cell? ((⟨g, 0, none⟩ : Addr).add j) = some u := by
  intro j u hu
  have e : (⟨g, 0, none⟩ : Addr).add j = ⟨g, j, none⟩ := by
    simp [Addr.add]
    try omega
  rw [e]
  exact H.cell (by simpa using hu)

theorem numOk_is {n : Int} {v : Value} (h : NumOk n v) : ∃ x y, v = .complex .f32 x y := by
  obtain ⟨x, y, _, _, rfl, _⟩ := h
  exact ⟨x, y, rfl⟩
theorem own_set {w : World} {base g n cap : Nat} {e : TypeId} {size : Nat} {xs : List Value} (H : w.ownsRow base e size (.slice (some ⟨g, 0, none⟩) n cap) n xs) (i : Nat) (u : Value) : (w.setCell ⟨g, i, none⟩ u).ownsRow base e size (.slice (some ⟨g, 0, none⟩) n cap) n (xs.set i u) := by
  refine ⟨by rw [List.length_set]; exact H.1, ?_⟩
  rcases H.2 with ⟨h, _⟩ | ⟨g', cap', cur, hv, hb, hh, h1, h2, h3, h4⟩
  · cases h
  · injection hv with hv _ hc
    injection hv with hv
    injection hv with hg _ _
    subst hg hc
    refine .inr ⟨g, cap, cur.setIfInBounds i u, rfl, hb, ?_, h1, h2, by simp [h3], ?_⟩
    · have A : At w g (.cells cur e) := hh
      exact A.setAtT i u
    · rw [← h4]
      simp [List.take_set]
theorem own_cells {w : World} {base g n cap : Nat} {e : TypeId} {size : Nat} {xs : List Value} (H : w.ownsRow base e size (.slice (some ⟨g, 0, none⟩) n cap) n xs) : (∀ i, i < n * size → ∃ u, w.cell? ⟨g, i, none⟩ = some u) ∧ (∀ i, w.frozen? ⟨g, i, none⟩ = false) ∧ g < w.heap.size ∧ base ≤ g ∧ n ≤ cap := by
  rcases H.2 with ⟨h, _⟩ | ⟨g', cap', cur, hv, hb, hh, h1, h2, h3, h4⟩
  · cases h
  · injection hv with hv _ hc
    injection hv with hv
    injection hv with hg _ _
    subst hg hc
    have A : At w g (.cells cur e) := hh
    refine ⟨fun i hi => ?_, A.fr, A.lt, hb, h1⟩
    have : i < cur.size := by
      rw [h3]
      exact Nat.lt_of_lt_of_le hi (Nat.mul_le_mul_right _ h1)
    exact ⟨_, A.cell (Array.getElem?_eq_getElem this)⟩
theorem own_formT {w : World} {base : Nat} {e : TypeId} {size : Nat} {v : Value} {n : Nat} {xs : List Value} (h : w.ownsRow base e size v n xs) (hv : v ≠ .slice none 0 0) : ∃ g cap, v = .slice (some ⟨g, 0, none⟩) n cap := by
  rcases h.2 with ⟨h, _⟩ | ⟨g, cap, cur, h, hb, _⟩
  · exact absurd h hv
  · exact ⟨g, cap, h⟩
theorem zeros5 : (madeCells #[Value.int .i64 0, .complex .f32 0 0, .complex .f32 0 0, .complex .f32 0 0, .complex .f32 0 0] 45).toList = cells5 (List.replicate 9 ⟨0, ⟨0, 0, 0, 0, 0, 0, 0, 0⟩⟩) := by kernel_rfl

end Go.Proofs.YthbebgnjidaokaaDoor
