/-
  What the draws of whole numbers and of matrices come to.
-/
import Derived.Test.YthbebgnjidaokaaDoorDraw3
import Derived.Deep.RegionWith
import Derived.Test.YthbebgnjidaokaaDoorWhole
import Derived.Deep.CutBlock
import Derived.Deep.DeepCutAuto
namespace Go.Proofs.YthbebgnjidaokaaDoor
open Go.RowKit Fl

theorem Rd.re {w : World} {b : Nat} {a : Option Addr} {len cap k : Nat} (h : Rd w b a len cap k) (z : Int) (k' : Nat) (hz : z = (k' : Int)) : Rd (w.setCell ⟨b, 1, none⟩ (.int .i64 z)) b a len cap k' := by
  subst hz
  obtain ⟨T, hb⟩ := h.blk
  refine ⟨⟨T, ?_⟩, h.lim, ?_⟩
  · simp only [World.setCell, Array.getElem?_modify, if_true, hb, Option.map_some]
    simp
  · intro i hi
    obtain ⟨ab, off, x, h1, h2, h3, h4, h5⟩ := h.data i hi
    refine ⟨ab, off, x, h1, h2, h3, h4, ?_⟩
    rw [World.cell?_setCell_other (h := by intro he; injection he; omega)]
    exact h5

/-- A number with whole parts, in thousandths. -/
def WholeOk (most : Int) (v : Value) : Prop := ∃ p q : Int, v = .complex .f32 (milliB (1000 * p)) (milliB (1000 * q)) ∧ -most ≤ p ∧ p ≤ most ∧ -most ≤ q ∧ q ≤ most

theorem setCell_twice (w : World) (b i : Nat) (u v : Value) (m m2 : Nat) : ((((w.setCell ⟨b, i, none⟩ u).drewN m).setCell ⟨b, i, none⟩ v).drewN m2) = (w.setCell ⟨b, i, none⟩ v).drewN (m + m2) := by
  have h : ((w.setCell ⟨b, i, none⟩ u).drewN m).setCell ⟨b, i, none⟩ v = (w.setCell ⟨b, i, none⟩ v).drewN m := by
    simp only [World.setCell, World.drewN]
    congr 1
    apply Array.ext
    · simp
    · intro j h1 h2
      simp only [Array.getElem_modify]
      split
      · have hj : j < w.heap.size := by simpa using h2
        generalize w.heap[j]'hj = o
        cases o <;> simp
      · rfl
  rw [h]
  simp [World.drewN, Nat.add_assoc]

@[go_sem] theorem run_store_complex (P : Program) (w : World) (a : Addr) (m : Mode) (k : FloatKind) (x y : Nat) : (store a (.complex k x y) m).run P w = stored P w a (.complex k x y) m := run_store P w a _ m rfl

/-- A matrix. -/
def IsTwo (v : Value) : Prop := ∃ a b c d e f g h : Nat, v = .agg #[.complex .f32 a b, .complex .f32 c d, .complex .f32 e f, .complex .f32 g h]

/-- The block of a matrix. -/
def Blk (w : World) (B : Nat) (a b c d e f g h : Nat) : Prop :=
  w.heap[B]? = some (.cells #[.complex .f32 a b, .complex .f32 c d, .complex .f32 e f, .complex .f32 g h] 37 (0, 0))

theorem Blk.lt {w : World} {B a b c d e f g h : Nat} (H : Blk w B a b c d e f g h) : B < w.heap.size := (Array.getElem?_eq_some_iff.1 H).1
theorem Blk.new (w : World) (a b c d e f g h : Nat) : Blk (w.alloc (.cells #[.complex .f32 a b, .complex .f32 c d, .complex .f32 e f, .complex .f32 g h] 37)) w.heap.size a b c d e f g h := heap_alloc_new w _
theorem Blk.alloc {w : World} {B a b c d e f g h : Nat} (H : Blk w B a b c d e f g h) (o : Obj) : Blk (w.alloc o) B a b c d e f g h := by
  unfold Blk
  rw [Below.heap_alloc _ _ _ H.lt]
  exact H
theorem Blk.drewN {w : World} {B a b c d e f g h : Nat} (H : Blk w B a b c d e f g h) (n : Nat) : Blk (w.drewN n) B a b c d e f g h := H
theorem Blk.grown {w w' : World} {B a b c d e f g h r : Nat} (H : Blk w B a b c d e f g h) (G : w.grownBy w' (some r)) (hr : B ≠ r) : Blk w' B a b c d e f g h := by
  unfold Blk
  rw [G.block B H.lt (fun e => by injection e with e; exact hr e)]
  exact H
theorem Blk.other {w : World} {B a b c d e f g h : Nat} (H : Blk w B a b c d e f g h) {r : Addr} (hr : B ≠ r.block) (v : Value) : Blk (w.setCell r v) B a b c d e f g h := by
  unfold Blk
  rw [Below.heap_setCell _ _ _ _ hr]
  exact H
theorem Blk.c0 {w : World} {B a b c d e f g h : Nat} (H : Blk w B a b c d e f g h) : w.cell? ⟨B, 0, none⟩ = some (.complex .f32 a b) := by unfold Blk at H; simp [World.cell?, H]
theorem Blk.c1 {w : World} {B a b c d e f g h : Nat} (H : Blk w B a b c d e f g h) : w.cell? ⟨B, 1, none⟩ = some (.complex .f32 c d) := by unfold Blk at H; simp [World.cell?, H]
theorem Blk.c2 {w : World} {B a b c d e f g h : Nat} (H : Blk w B a b c d e f g h) : w.cell? ⟨B, 2, none⟩ = some (.complex .f32 e f) := by unfold Blk at H; simp [World.cell?, H]
theorem Blk.c3 {w : World} {B a b c d e f g h : Nat} (H : Blk w B a b c d e f g h) : w.cell? ⟨B, 3, none⟩ = some (.complex .f32 g h) := by unfold Blk at H; simp [World.cell?, H]
theorem Blk.fr {w : World} {B a b c d e f g h : Nat} (H : Blk w B a b c d e f g h) (i : Nat) : w.frozen? ⟨B, i, none⟩ = false := by unfold Blk at H; simp [World.frozen?, H]
theorem Blk.s0 {w : World} {B a b c d e f g h : Nat} (H : Blk w B a b c d e f g h) (x y : Nat) : Blk (w.setCell ⟨B, 0, none⟩ (.complex .f32 x y)) B x y c d e f g h := by unfold Blk at *; simp [World.setCell, Array.getElem?_modify, H]
theorem Blk.s1 {w : World} {B a b c d e f g h : Nat} (H : Blk w B a b c d e f g h) (x y : Nat) : Blk (w.setCell ⟨B, 1, none⟩ (.complex .f32 x y)) B a b x y e f g h := by unfold Blk at *; simp [World.setCell, Array.getElem?_modify, H]
theorem Blk.s2 {w : World} {B a b c d e f g h : Nat} (H : Blk w B a b c d e f g h) (x y : Nat) : Blk (w.setCell ⟨B, 2, none⟩ (.complex .f32 x y)) B a b c d x y g h := by unfold Blk at *; simp [World.setCell, Array.getElem?_modify, H]
theorem Blk.s3 {w : World} {B a b c d e f g h : Nat} (H : Blk w B a b c d e f g h) (x y : Nat) : Blk (w.setCell ⟨B, 3, none⟩ (.complex .f32 x y)) B a b c d e f x y := by unfold Blk at *; simp [World.setCell, Array.getElem?_modify, H]

theorem results_two {fn : Func} {p : Tmp} (hr : fn.results = #[.cell p 37]) (tmps : Array Value) {w : World} {B a b c d e f g h : Nat} (hp : tmps.getD p undef = .pointer (some ⟨B, 0, none⟩)) (H : Blk w B a b c d e f g h) :
    (results fn tmps).run Tryd.prog w = .ok (.agg #[.complex .f32 a b, .complex .f32 c d, .complex .f32 e f, .complex .f32 g h]) w :=
  results_cell_row hr tmps w B _ _ _ _ hp H Tryd.underlying37 rfl (by kernel_rfl)

theorem Rd.above {w : World} {b : Nat} {a : Option Addr} {len cap k : Nat} (h : Rd w b a len cap k) {B : Nat} (hB : b < B) (i : Nat) (v : Value) : Rd (w.setCell ⟨B, i, none⟩ v) b a len cap k := by
  obtain ⟨T, hb⟩ := h.blk
  refine ⟨⟨T, by rw [Below.heap_setCell _ _ _ _ (show b ≠ B by omega)]; exact hb⟩, h.lim, ?_⟩
  intro j hj
  obtain ⟨ab, off, x, h1, h2, h3, h4, h5⟩ := h.data j hj
  refine ⟨ab, off, x, h1, h2, h3, h4, ?_⟩
  rw [World.cell?_of_block (w := w) (Below.heap_setCell _ _ _ _ (show ab ≠ B by omega))]
  exact h5

theorem grown_above {a w : World} {row : Option Nat} (h : a.grownBy w row) {B : Nat} (hB : a.heap.size ≤ B) (i : Nat) (v : Value) : a.grownBy (w.setCell ⟨B, i, none⟩ v) row :=
  ⟨h.os, h.tape, h.output, by simpa using h.size, fun j hj hr => (Below.heap_setCell _ _ _ _ (show j ≠ B by omega)).trans (h.block j hj hr)⟩

/-- What holds while a matrix is drawn: the reader, the result's block at A0, the variable's at B. -/
def Mid (w : World) (b : Nat) (a : Option Addr) (len cap : Nat) (A0 B most : Nat) (wx : World) : Prop :=
  ∃ k a1 b1 c1 d1 e1 f1 g1 h1 : Nat, k ≤ most ∧ Rd wx b a len cap k ∧ w.grownBy wx (some b) ∧ Blk wx A0 0 0 0 0 0 0 0 0 ∧ Blk wx B a1 b1 c1 d1 e1 f1 g1 h1

theorem Mid.set4 {w wx : World} {b : Nat} {a : Option Addr} {len cap B most k : Nat} (hb : b < w.heap.size) (hAB : w.heap.size < B) (hk : k ≤ most) (R : Rd wx b a len cap k) (G : w.grownBy wx (some b))
    {a1 b1 c1 d1 e1 f1 g1 h1 : Nat} (HA : Blk wx w.heap.size 0 0 0 0 0 0 0 0) (HB : Blk wx B a1 b1 c1 d1 e1 f1 g1 h1) (x1 y1 x2 y2 x3 y3 x4 y4 : Nat) :
    Mid w b a len cap w.heap.size B most ((((wx.setCell ⟨B, 0, none⟩ (.complex .f32 x1 y1)).setCell ⟨B, 1, none⟩ (.complex .f32 x2 y2)).setCell ⟨B, 2, none⟩ (.complex .f32 x3 y3)).setCell ⟨B, 3, none⟩ (.complex .f32 x4 y4)) := by
  have hbB : b < B := by omega
  have hB : w.heap.size ≤ B := by omega
  refine ⟨k, x1, y1, x2, y2, x3, y3, x4, y4, hk, ?_, ?_, ?_, ?_⟩
  · exact (((R.above hbB 0 _).above hbB 1 _).above hbB 2 _).above hbB 3 _
  · exact grown_above (grown_above (grown_above (grown_above G hB 0 _) hB 1 _) hB 2 _) hB 3 _
  · have hne : w.heap.size ≠ B := by omega
    exact (((HA.other (r := ⟨B, 0, none⟩) hne _).other (r := ⟨B, 1, none⟩) hne _).other (r := ⟨B, 2, none⟩) hne _).other (r := ⟨B, 3, none⟩) hne _
  · exact (((HB.s0 x1 y1).s1 x2 y2).s2 x3 y3).s3 x4 y4

/-- The reader, wherever it stands. -/
def Rdx (w : World) (b : Nat) (a : Option Addr) (len cap : Nat) : Prop := ∃ k, Rd w b a len cap k
theorem Rdx.mk {w : World} {b : Nat} {a : Option Addr} {len cap k : Nat} (h : Rd w b a len cap k) : Rdx w b a len cap := ⟨k, h⟩
theorem Rdx.drewN {w : World} {b : Nat} {a : Option Addr} {len cap : Nat} (h : Rdx w b a len cap) {n : Nat} : Rdx (w.drewN n) b a len cap := by obtain ⟨k, h⟩ := h; exact ⟨k, Rd.drewN h n⟩
theorem Rdx.alloc {w : World} {b : Nat} {a : Option Addr} {len cap : Nat} (h : Rdx w b a len cap) {o : Obj} : Rdx (w.alloc o) b a len cap := by obtain ⟨k, h⟩ := h; exact ⟨k, Rd.alloc h o⟩
theorem Rd.of {w : World} {b : Nat} {a : Option Addr} {len cap : Nat} (h : Rdx w b a len cap) (z : Int) (k' : Nat) (hz : z = (k' : Int)) : Rd (w.setCell ⟨b, 1, none⟩ (.int .i64 z)) b a len cap k' := by obtain ⟨k, h⟩ := h; exact h.re z k' hz
theorem Rd.drew {w : World} {b : Nat} {a : Option Addr} {len cap k : Nat} (h : Rd w b a len cap k) : Rd w.drew b a len cap k := ⟨h.blk, h.lim, h.data⟩
theorem Rdx.drew {w : World} {b : Nat} {a : Option Addr} {len cap : Nat} (h : Rdx w b a len cap) : Rdx w.drew b a len cap := by obtain ⟨k, h⟩ := h; exact ⟨k, h.drew⟩
theorem Blk.drew {w : World} {B a b c d e f g h : Nat} (H : Blk w B a b c d e f g h) : Blk w.drew B a b c d e f g h := H
theorem grown_drew {a w : World} {row : Option Nat} (h : a.grownBy w row) : a.grownBy w.drew row := ⟨h.os, h.tape, h.output, h.size, h.block⟩
/-- The reader has drawn at most so often. -/
def Rdm (w : World) (b : Nat) (a : Option Addr) (len cap most : Nat) : Prop := ∃ k, k ≤ most ∧ Rd w b a len cap k
theorem Rdm.drew {w : World} {b : Nat} {a : Option Addr} {len cap most : Nat} (h : Rdm w b a len cap most) : Rdm w.drew b a len cap most := by obtain ⟨k, h0, h⟩ := h; exact ⟨k, h0, h.drew⟩
theorem Rdm.drewN {w : World} {b : Nat} {a : Option Addr} {len cap most : Nat} (h : Rdm w b a len cap most) {n : Nat} : Rdm (w.drewN n) b a len cap most := by obtain ⟨k, h0, h⟩ := h; exact ⟨k, h0, h.drewN n⟩
theorem Rdm.alloc {w : World} {b : Nat} {a : Option Addr} {len cap most : Nat} (h : Rdm w b a len cap most) {o : Obj} : Rdm (w.alloc o) b a len cap most := by obtain ⟨k, h0, h⟩ := h; exact ⟨k, h0, h.alloc o⟩
theorem Rdm.of {w : World} {b : Nat} {a : Option Addr} {len cap most : Nat} {y : Int} (h : Rdx w b a len cap) (hy : 0 ≤ y) (hm : y ≤ most) : Rdm (w.setCell ⟨b, 1, none⟩ (.int .i64 y)) b a len cap most := by obtain ⟨k, h⟩ := h; exact ⟨y.toNat, by omega, h.re y y.toNat (by omega)⟩
theorem Rd.ofX {w : World} {b : Nat} {a : Option Addr} {len cap : Nat} {y : Int} (h : Rdx w b a len cap) (hy : 0 ≤ y) : Rd (w.setCell ⟨b, 1, none⟩ (.int .i64 y)) b a len cap y.toNat := by obtain ⟨k, h⟩ := h; exact h.re y y.toNat (by omega)
theorem Rdx.set {w : World} {b : Nat} {a : Option Addr} {len cap : Nat} {y : Int} (h : Rdx w b a len cap) (hy : 0 ≤ y) : Rdx (w.setCell ⟨b, 1, none⟩ (.int .i64 y)) b a len cap := by obtain ⟨k, h⟩ := h; exact ⟨y.toNat, h.re y y.toNat (by omega)⟩

def BlkE (w : World) (B : Nat) : Prop := ∃ a b c d e f g h : Nat, Blk w B a b c d e f g h
theorem BlkE.mk {w : World} {B a b c d e f g h : Nat} (H : Blk w B a b c d e f g h) : BlkE w B := ⟨a, b, c, d, e, f, g, h, H⟩
theorem BlkE.drewN {w : World} {B : Nat} (H : BlkE w B) {n : Nat} : BlkE (w.drewN n) B := H
theorem BlkE.drew {w : World} {B : Nat} (H : BlkE w B) : BlkE w.drew B := H
theorem BlkE.alloc {w : World} {B : Nat} (H : BlkE w B) {o : Obj} : BlkE (w.alloc o) B := by obtain ⟨a, b, c, d, e, f, g, h, H⟩ := H; exact ⟨a, b, c, d, e, f, g, h, H.alloc o⟩
theorem BlkE.other {w : World} {B : Nat} (H : BlkE w B) {r : Addr} (hr : B ≠ r.block) (v : Value) : BlkE (w.setCell r v) B := by obtain ⟨a, b, c, d, e, f, g, h, H⟩ := H; exact ⟨a, b, c, d, e, f, g, h, H.other hr v⟩
theorem BlkE.s0 {w : World} {B : Nat} (H : BlkE w B) {x y : Nat} : BlkE (w.setCell ⟨B, 0, none⟩ (.complex .f32 x y)) B := by obtain ⟨a, b, c, d, e, f, g, h, H⟩ := H; exact ⟨_, _, _, _, _, _, _, _, H.s0 x y⟩
theorem BlkE.s1 {w : World} {B : Nat} (H : BlkE w B) {x y : Nat} : BlkE (w.setCell ⟨B, 1, none⟩ (.complex .f32 x y)) B := by obtain ⟨a, b, c, d, e, f, g, h, H⟩ := H; exact ⟨_, _, _, _, _, _, _, _, H.s1 x y⟩
theorem BlkE.s2 {w : World} {B : Nat} (H : BlkE w B) {x y : Nat} : BlkE (w.setCell ⟨B, 2, none⟩ (.complex .f32 x y)) B := by obtain ⟨a, b, c, d, e, f, g, h, H⟩ := H; exact ⟨_, _, _, _, _, _, _, _, H.s2 x y⟩
theorem BlkE.s3 {w : World} {B : Nat} (H : BlkE w B) {x y : Nat} : BlkE (w.setCell ⟨B, 3, none⟩ (.complex .f32 x y)) B := by obtain ⟨a, b, c, d, e, f, g, h, H⟩ := H; exact ⟨_, _, _, _, _, _, _, _, H.s3 x y⟩
theorem Rdm.above {w : World} {b : Nat} {a : Option Addr} {len cap most : Nat} (h : Rdm w b a len cap most) {B i : Nat} {v : Value} (hB : b < B) : Rdm (w.setCell ⟨B, i, none⟩ v) b a len cap most := by obtain ⟨k, h0, h⟩ := h; exact ⟨k, h0, h.above hB i v⟩
theorem Mid.made {w wx : World} {b : Nat} {a : Option Addr} {len cap A0 B most : Nat} (RX : Rdm wx b a len cap most) (G : w.grownBy wx (some b)) (HA : Blk wx A0 0 0 0 0 0 0 0 0) (HB : BlkE wx B) : Mid w b a len cap A0 B most wx := by
  obtain ⟨k, hk, R⟩ := RX
  obtain ⟨a1, b1, c1, d1, e1, f1, g1, h1, HB⟩ := HB
  exact ⟨k, a1, b1, c1, d1, e1, f1, g1, h1, hk, R, G, HA, HB⟩

theorem most4 (q : Nat) (h : q < 4) : ∃ m : Int, #[Value.int .i64 3, .int .i64 8, .int .i64 20, .int .i64 100][q]'h = .int .i64 m ∧ 0 ≤ m ∧ m ≤ 1000 := by
  have hq : q = 0 ∨ q = 1 ∨ q = 2 ∨ q = 3 := by omega
  rcases hq with rfl | rfl | rfl | rfl
  all_goals exact ⟨_, rfl, by decide, by decide⟩
theorem most3 (q : Nat) (h : q < 3) : ∃ m : Int, #[Value.int .i64 3, .int .i64 20, .int .i64 100][q]'h = .int .i64 m ∧ 0 ≤ m ∧ m ≤ 1000 := by
  have hq : q = 0 ∨ q = 1 ∨ q = 2 := by omega
  rcases hq with rfl | rfl | rfl
  all_goals exact ⟨_, rfl, by decide, by decide⟩
def uX (q : Nat) : Nat := [1065353216, 3212836864, 0, 0].getD q 0
def uY (q : Nat) : Nat := [0, 0, 1065353216, 3212836864].getD q 0
theorem unit4 (q : Nat) (h : q < [Value.complex .f32 1065353216 0, .complex .f32 3212836864 0, .complex .f32 0 1065353216, .complex .f32 0 3212836864].length) :
    [Value.complex .f32 1065353216 0, .complex .f32 3212836864 0, .complex .f32 0 1065353216, .complex .f32 0 3212836864][q]'h = .complex .f32 (uX q) (uY q) := by
  have hq : q = 0 ∨ q = 1 ∨ q = 2 ∨ q = 3 := by simp at h; omega
  rcases hq with rfl | rfl | rfl | rfl
  all_goals rfl

theorem Mid.set4x {w wx : World} {b : Nat} {a : Option Addr} {len cap B most : Nat} (hb : b < w.heap.size) (hAB : w.heap.size < B) (RX : Rdm wx b a len cap most) (G : w.grownBy wx (some b))
    {a1 b1 c1 d1 e1 f1 g1 h1 : Nat} (HA : Blk wx w.heap.size 0 0 0 0 0 0 0 0) (HB : Blk wx B a1 b1 c1 d1 e1 f1 g1 h1) (x1 y1 x2 y2 x3 y3 x4 y4 : Nat) :
    Mid w b a len cap w.heap.size B most ((((wx.setCell ⟨B, 0, none⟩ (.complex .f32 x1 y1)).setCell ⟨B, 1, none⟩ (.complex .f32 x2 y2)).setCell ⟨B, 2, none⟩ (.complex .f32 x3 y3)).setCell ⟨B, 3, none⟩ (.complex .f32 x4 y4)) := by
  obtain ⟨k, hk, R⟩ := RX
  exact Mid.set4 hb hAB hk R G HA HB x1 y1 x2 y2 x3 y3 x4 y4

theorem Rd.pickedA {w : World} {b : Nat} {a : Option Addr} {len cap k : Nat} (R : Rd w b a len cap k) (o : Obj) (m : Nat) : Rd (((w.setCell ⟨b, 1, none⟩ (.int .i64 ((k : Int) + 1))).alloc o).drewN m) b a len cap (k + 1) :=
  ((R.step 0).alloc o).drewN m
theorem grown_pickedA {a w : World} {b k : Nat} (h : a.grownBy w (some b)) (o : Obj) (m : Nat) : a.grownBy (((w.setCell ⟨b, 1, none⟩ (.int .i64 ((k : Int) + 1))).alloc o).drewN m) (some b) :=
  grown_drewN (Lib.grownBy_allocR (Lib.grownBy_setB h 1 _) o) m
theorem Blk.pickedA {w : World} {B a b c d e f g h r k : Nat} (H : Blk w B a b c d e f g h) (hr : B ≠ r) (o : Obj) (m : Nat) : Blk (((w.setCell ⟨r, 1, none⟩ (.int .i64 ((k : Int) + 1))).alloc o).drewN m) B a b c d e f g h :=
  ((H.other (r := ⟨r, 1, none⟩) hr _).alloc o).drewN m

theorem one_milli : milliB 1000 = 1065353216 ∧ milliB 0 = 0 := ⟨by decide +kernel, by decide +kernel⟩

end Go.Proofs.YthbebgnjidaokaaDoor
