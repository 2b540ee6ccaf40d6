/-
  What the draws of whole numbers and of matrices come to.
-/
import Derived.Test.YthbebgnjidaokaaGreatDoorDraw3
import Derived.Deep.RegionWith
import Derived.Test.YthbebgnjidaokaaGreatDoorWhole
import Derived.Deep.CutBlock
import Derived.Deep.DeepCutAuto
namespace Go.Proofs.YthbebgnjidaokaaGreatDoor
open Go.RowKit Fl

theorem Rd.re {w : World} {b : Nat} {a : Option Addr} {len cap k : Nat} (h : Rd w b a len cap k) (z : Int) (k' : Nat) (hz : z = (k' : Int)) : Rd (w.setCell ⟨b, 1, none⟩ (.int .i64 z)) b a len cap k' := by
  subst hz
  obtain ⟨T, hb⟩ := h.blk
  refine ⟨⟨T, ?_⟩, h.lim, ?_⟩
  · simp only [World.setCell, Array.getElem?_modify, if_true, hb, Option.map_some]
    simp
  · intro i hi
    obtain ⟨ab, off, x, h1, h2, h3, h4, h5⟩ := h.data i hi
    refine ⟨ab, off, x, h1, h2, h3, h4, ?_⟩
    rw [World.cell?_setCell_other (h := by intro he; injection he; omega)]
    exact h5

/-- A number with whole parts, in thousandths. -/
def WholeOk (most : Int) (v : Value) : Prop := ∃ p q : Int, v = .complex .f32 (milliB (1000 * p)) (milliB (1000 * q)) ∧ -most ≤ p ∧ p ≤ most ∧ -most ≤ q ∧ q ≤ most

theorem setCell_twice (w : World) (b i : Nat) (u v : Value) (m m2 : Nat) : ((((w.setCell ⟨b, i, none⟩ u).drewN m).setCell ⟨b, i, none⟩ v).drewN m2) = (w.setCell ⟨b, i, none⟩ v).drewN (m + m2) := by
  have h : ((w.setCell ⟨b, i, none⟩ u).drewN m).setCell ⟨b, i, none⟩ v = (w.setCell ⟨b, i, none⟩ v).drewN m := by
    simp only [World.setCell, World.drewN]
    congr 1
    apply Array.ext
    · simp
    · intro j h1 h2
      simp only [Array.getElem_modify]
      split
      · have hj : j < w.heap.size := by simpa using h2
        generalize w.heap[j]'hj = o
        cases o <;> simp
      · rfl
  rw [h]
  simp [World.drewN, Nat.add_assoc]

set_option maxHeartbeats 400000 in
/-- The same, the world written out. -/
theorem whole_exact {b len cap k : Nat} {a : Option Addr} {most : Int} {w : World} (R : Rd w b a len cap k) (hk : k < 900000) (h0 : 0 ≤ most) (h1 : most ≤ 1000) :
    Calls Tryz.prog 70 #[.pointer (some ⟨b, 0, none⟩), .int .i64 most] w fun e w' => ∃ (v : Value) (m : Nat), WholeOk most v ∧ e = .returned v ∧ w' = (w.setCell ⟨b, 1, none⟩ (.int .i64 ((k : Int) + 2))).drewN m := by
  go_enter Tryz.func70, Tryz.ntmps70
  go_wp2_with fail
  refine (pick_any R (by omega) (by omega) (by omega)).mono ?_
  rintro e w1 ⟨x, m, x0, x1, rfl, hw1⟩
  have R1 : Rd w1 b a len cap (k + 1) := by rw [hw1]; exact R.step m
  have W1 := Lib.hid hw1
  clear hw1
  go_wp2_with fail
  refine (pick_any R1 (by omega) (by omega) (by omega)).mono ?_
  rintro e w2 ⟨y, m2, y0, y1, rfl, hw2⟩
  have W2 := Lib.hid hw2
  clear hw2 R1
  go_wp2_with fail
  refine (specMilli_any _ _ _).mono ?_
  rintro e w3 ⟨rfl, rfl⟩
  go_wp2_with fail
  go_ret
  refine ⟨_, m + m2, ⟨x - most, y - most, ?_, by omega, by omega, by omega, by omega⟩, rfl, ?_⟩
  · have o1 : okM ((x - most) * 1000) = true := okM_iff.2 ⟨by omega, by omega⟩
    have o2 : okM ((y - most) * 1000) = true := okM_iff.2 ⟨by omega, by omega⟩
    unfold milliV
    rw [o1, o2, Int.mul_comm 1000, Int.mul_comm 1000]
    rfl
  · rw [W2.out, W1.out]
    exact setCell_twice w b 1 _ _ m m2

theorem whole_draw {b len cap k : Nat} {a : Option Addr} {most : Int} {w : World} (R : Rd w b a len cap k) (hk : k < 900000) (h0 : 0 ≤ most) (h1 : most ≤ 1000) :
    Calls Tryz.prog 70 #[.pointer (some ⟨b, 0, none⟩), .int .i64 most] w (Drawn (WholeOk most) b a len cap k 2 w) := by
  refine (whole_exact R hk h0 h1).mono ?_
  rintro e w' ⟨v, m, hv, rfl, rfl⟩
  exact ⟨v, k + 2, hv, rfl, by omega, (R.re _ (k + 2) (by omega)).drewN m, grown_drewN (Lib.grownBy_setCell w b 1 _) m⟩

@[go_sem] theorem run_store_complex (P : Program) (w : World) (a : Addr) (m : Mode) (k : FloatKind) (x y : Nat) : (store a (.complex k x y) m).run P w = stored P w a (.complex k x y) m := run_store P w a _ m rfl

/-- A matrix. -/
def IsTwo (v : Value) : Prop := ∃ a b c d e f g h : Nat, v = .agg #[.complex .f32 a b, .complex .f32 c d, .complex .f32 e f, .complex .f32 g h]

/-- The block of a matrix. -/
def Blk (w : World) (B : Nat) (a b c d e f g h : Nat) : Prop :=
  w.heap[B]? = some (.cells #[.complex .f32 a b, .complex .f32 c d, .complex .f32 e f, .complex .f32 g h] 32 (0, 0))

theorem Blk.lt {w : World} {B a b c d e f g h : Nat} (H : Blk w B a b c d e f g h) : B < w.heap.size := (Array.getElem?_eq_some_iff.1 H).1
theorem Blk.new (w : World) (a b c d e f g h : Nat) : Blk (w.alloc (.cells #[.complex .f32 a b, .complex .f32 c d, .complex .f32 e f, .complex .f32 g h] 32)) w.heap.size a b c d e f g h := heap_alloc_new w _
theorem Blk.alloc {w : World} {B a b c d e f g h : Nat} (H : Blk w B a b c d e f g h) (o : Obj) : Blk (w.alloc o) B a b c d e f g h := by
  unfold Blk
  rw [Below.heap_alloc _ _ _ H.lt]
  exact H
theorem Blk.drewN {w : World} {B a b c d e f g h : Nat} (H : Blk w B a b c d e f g h) (n : Nat) : Blk (w.drewN n) B a b c d e f g h := H
theorem Blk.grown {w w' : World} {B a b c d e f g h r : Nat} (H : Blk w B a b c d e f g h) (G : w.grownBy w' (some r)) (hr : B ≠ r) : Blk w' B a b c d e f g h := by
  unfold Blk
  rw [G.block B H.lt (fun e => by injection e with e; exact hr e)]
  exact H
theorem Blk.other {w : World} {B a b c d e f g h : Nat} (H : Blk w B a b c d e f g h) {r : Addr} (hr : B ≠ r.block) (v : Value) : Blk (w.setCell r v) B a b c d e f g h := by
  unfold Blk
  rw [Below.heap_setCell _ _ _ _ hr]
  exact H
theorem Blk.c0 {w : World} {B a b c d e f g h : Nat} (H : Blk w B a b c d e f g h) : w.cell? ⟨B, 0, none⟩ = some (.complex .f32 a b) := by unfold Blk at H; simp [World.cell?, H]
theorem Blk.c1 {w : World} {B a b c d e f g h : Nat} (H : Blk w B a b c d e f g h) : w.cell? ⟨B, 1, none⟩ = some (.complex .f32 c d) := by unfold Blk at H; simp [World.cell?, H]
theorem Blk.c2 {w : World} {B a b c d e f g h : Nat} (H : Blk w B a b c d e f g h) : w.cell? ⟨B, 2, none⟩ = some (.complex .f32 e f) := by unfold Blk at H; simp [World.cell?, H]
theorem Blk.c3 {w : World} {B a b c d e f g h : Nat} (H : Blk w B a b c d e f g h) : w.cell? ⟨B, 3, none⟩ = some (.complex .f32 g h) := by unfold Blk at H; simp [World.cell?, H]
theorem Blk.fr {w : World} {B a b c d e f g h : Nat} (H : Blk w B a b c d e f g h) (i : Nat) : w.frozen? ⟨B, i, none⟩ = false := by unfold Blk at H; simp [World.frozen?, H]
theorem Blk.s0 {w : World} {B a b c d e f g h : Nat} (H : Blk w B a b c d e f g h) (x y : Nat) : Blk (w.setCell ⟨B, 0, none⟩ (.complex .f32 x y)) B x y c d e f g h := by unfold Blk at *; simp [World.setCell, Array.getElem?_modify, H]
theorem Blk.s1 {w : World} {B a b c d e f g h : Nat} (H : Blk w B a b c d e f g h) (x y : Nat) : Blk (w.setCell ⟨B, 1, none⟩ (.complex .f32 x y)) B a b x y e f g h := by unfold Blk at *; simp [World.setCell, Array.getElem?_modify, H]
theorem Blk.s2 {w : World} {B a b c d e f g h : Nat} (H : Blk w B a b c d e f g h) (x y : Nat) : Blk (w.setCell ⟨B, 2, none⟩ (.complex .f32 x y)) B a b c d x y g h := by unfold Blk at *; simp [World.setCell, Array.getElem?_modify, H]
theorem Blk.s3 {w : World} {B a b c d e f g h : Nat} (H : Blk w B a b c d e f g h) (x y : Nat) : Blk (w.setCell ⟨B, 3, none⟩ (.complex .f32 x y)) B a b c d e f x y := by unfold Blk at *; simp [World.setCell, Array.getElem?_modify, H]

theorem results_two {fn : Func} {p : Tmp} (hr : fn.results = #[.cell p 32]) (tmps : Array Value) {w : World} {B a b c d e f g h : Nat} (hp : tmps.getD p undef = .pointer (some ⟨B, 0, none⟩)) (H : Blk w B a b c d e f g h) :
    (results fn tmps).run Tryz.prog w = .ok (.agg #[.complex .f32 a b, .complex .f32 c d, .complex .f32 e f, .complex .f32 g h]) w :=
  results_cell_row hr tmps w B _ _ _ _ hp H Tryz.underlying32 rfl (by kernel_rfl)

theorem Rd.above {w : World} {b : Nat} {a : Option Addr} {len cap k : Nat} (h : Rd w b a len cap k) {B : Nat} (hB : b < B) (i : Nat) (v : Value) : Rd (w.setCell ⟨B, i, none⟩ v) b a len cap k := by
  obtain ⟨T, hb⟩ := h.blk
  refine ⟨⟨T, by rw [Below.heap_setCell _ _ _ _ (show b ≠ B by omega)]; exact hb⟩, h.lim, ?_⟩
  intro j hj
  obtain ⟨ab, off, x, h1, h2, h3, h4, h5⟩ := h.data j hj
  refine ⟨ab, off, x, h1, h2, h3, h4, ?_⟩
  rw [World.cell?_of_block (w := w) (Below.heap_setCell _ _ _ _ (show ab ≠ B by omega))]
  exact h5

theorem grown_above {a w : World} {row : Option Nat} (h : a.grownBy w row) {B : Nat} (hB : a.heap.size ≤ B) (i : Nat) (v : Value) : a.grownBy (w.setCell ⟨B, i, none⟩ v) row :=
  ⟨h.os, h.tape, h.output, by simpa using h.size, fun j hj hr => (Below.heap_setCell _ _ _ _ (show j ≠ B by omega)).trans (h.block j hj hr)⟩

/-- What holds while a matrix is drawn: the reader, the result's block at A0, the variable's at B. -/
def Mid (w : World) (b : Nat) (a : Option Addr) (len cap : Nat) (A0 B most : Nat) (wx : World) : Prop :=
  ∃ k a1 b1 c1 d1 e1 f1 g1 h1 : Nat, k ≤ most ∧ Rd wx b a len cap k ∧ w.grownBy wx (some b) ∧ Blk wx A0 0 0 0 0 0 0 0 0 ∧ Blk wx B a1 b1 c1 d1 e1 f1 g1 h1

theorem Mid.set4 {w wx : World} {b : Nat} {a : Option Addr} {len cap B most k : Nat} (hb : b < w.heap.size) (hAB : w.heap.size < B) (hk : k ≤ most) (R : Rd wx b a len cap k) (G : w.grownBy wx (some b))
    {a1 b1 c1 d1 e1 f1 g1 h1 : Nat} (HA : Blk wx w.heap.size 0 0 0 0 0 0 0 0) (HB : Blk wx B a1 b1 c1 d1 e1 f1 g1 h1) (x1 y1 x2 y2 x3 y3 x4 y4 : Nat) :
    Mid w b a len cap w.heap.size B most ((((wx.setCell ⟨B, 0, none⟩ (.complex .f32 x1 y1)).setCell ⟨B, 1, none⟩ (.complex .f32 x2 y2)).setCell ⟨B, 2, none⟩ (.complex .f32 x3 y3)).setCell ⟨B, 3, none⟩ (.complex .f32 x4 y4)) := by
  have hbB : b < B := by omega
  have hB : w.heap.size ≤ B := by omega
  refine ⟨k, x1, y1, x2, y2, x3, y3, x4, y4, hk, ?_, ?_, ?_, ?_⟩
  · exact (((R.above hbB 0 _).above hbB 1 _).above hbB 2 _).above hbB 3 _
  · exact grown_above (grown_above (grown_above (grown_above G hB 0 _) hB 1 _) hB 2 _) hB 3 _
  · have hne : w.heap.size ≠ B := by omega
    exact (((HA.other (r := ⟨B, 0, none⟩) hne _).other (r := ⟨B, 1, none⟩) hne _).other (r := ⟨B, 2, none⟩) hne _).other (r := ⟨B, 3, none⟩) hne _
  · exact (((HB.s0 x1 y1).s1 x2 y2).s2 x3 y3).s3 x4 y4

/-- The reader, wherever it stands. -/
def Rdx (w : World) (b : Nat) (a : Option Addr) (len cap : Nat) : Prop := ∃ k, Rd w b a len cap k
theorem Rdx.mk {w : World} {b : Nat} {a : Option Addr} {len cap k : Nat} (h : Rd w b a len cap k) : Rdx w b a len cap := ⟨k, h⟩
theorem Rdx.drewN {w : World} {b : Nat} {a : Option Addr} {len cap : Nat} (h : Rdx w b a len cap) {n : Nat} : Rdx (w.drewN n) b a len cap := by obtain ⟨k, h⟩ := h; exact ⟨k, Rd.drewN h n⟩
theorem Rdx.alloc {w : World} {b : Nat} {a : Option Addr} {len cap : Nat} (h : Rdx w b a len cap) {o : Obj} : Rdx (w.alloc o) b a len cap := by obtain ⟨k, h⟩ := h; exact ⟨k, Rd.alloc h o⟩
theorem Rd.of {w : World} {b : Nat} {a : Option Addr} {len cap : Nat} (h : Rdx w b a len cap) (z : Int) (k' : Nat) (hz : z = (k' : Int)) : Rd (w.setCell ⟨b, 1, none⟩ (.int .i64 z)) b a len cap k' := by obtain ⟨k, h⟩ := h; exact h.re z k' hz
theorem Rd.drew {w : World} {b : Nat} {a : Option Addr} {len cap k : Nat} (h : Rd w b a len cap k) : Rd w.drew b a len cap k := ⟨h.blk, h.lim, h.data⟩
theorem Rdx.drew {w : World} {b : Nat} {a : Option Addr} {len cap : Nat} (h : Rdx w b a len cap) : Rdx w.drew b a len cap := by obtain ⟨k, h⟩ := h; exact ⟨k, h.drew⟩
theorem Blk.drew {w : World} {B a b c d e f g h : Nat} (H : Blk w B a b c d e f g h) : Blk w.drew B a b c d e f g h := H
theorem grown_drew {a w : World} {row : Option Nat} (h : a.grownBy w row) : a.grownBy w.drew row := ⟨h.os, h.tape, h.output, h.size, h.block⟩
/-- The reader has drawn at most so often. -/
def Rdm (w : World) (b : Nat) (a : Option Addr) (len cap most : Nat) : Prop := ∃ k, k ≤ most ∧ Rd w b a len cap k
theorem Rdm.drew {w : World} {b : Nat} {a : Option Addr} {len cap most : Nat} (h : Rdm w b a len cap most) : Rdm w.drew b a len cap most := by obtain ⟨k, h0, h⟩ := h; exact ⟨k, h0, h.drew⟩
theorem Rdm.drewN {w : World} {b : Nat} {a : Option Addr} {len cap most : Nat} (h : Rdm w b a len cap most) {n : Nat} : Rdm (w.drewN n) b a len cap most := by obtain ⟨k, h0, h⟩ := h; exact ⟨k, h0, h.drewN n⟩
theorem Rdm.alloc {w : World} {b : Nat} {a : Option Addr} {len cap most : Nat} (h : Rdm w b a len cap most) {o : Obj} : Rdm (w.alloc o) b a len cap most := by obtain ⟨k, h0, h⟩ := h; exact ⟨k, h0, h.alloc o⟩
theorem Rdm.of {w : World} {b : Nat} {a : Option Addr} {len cap most : Nat} {y : Int} (h : Rdx w b a len cap) (hy : 0 ≤ y) (hm : y ≤ most) : Rdm (w.setCell ⟨b, 1, none⟩ (.int .i64 y)) b a len cap most := by obtain ⟨k, h⟩ := h; exact ⟨y.toNat, by omega, h.re y y.toNat (by omega)⟩
theorem Rd.ofX {w : World} {b : Nat} {a : Option Addr} {len cap : Nat} {y : Int} (h : Rdx w b a len cap) (hy : 0 ≤ y) : Rd (w.setCell ⟨b, 1, none⟩ (.int .i64 y)) b a len cap y.toNat := by obtain ⟨k, h⟩ := h; exact h.re y y.toNat (by omega)
theorem Rdx.set {w : World} {b : Nat} {a : Option Addr} {len cap : Nat} {y : Int} (h : Rdx w b a len cap) (hy : 0 ≤ y) : Rdx (w.setCell ⟨b, 1, none⟩ (.int .i64 y)) b a len cap := by obtain ⟨k, h⟩ := h; exact ⟨y.toNat, h.re y y.toNat (by omega)⟩

def BlkE (w : World) (B : Nat) : Prop := ∃ a b c d e f g h : Nat, Blk w B a b c d e f g h
theorem BlkE.mk {w : World} {B a b c d e f g h : Nat} (H : Blk w B a b c d e f g h) : BlkE w B := ⟨a, b, c, d, e, f, g, h, H⟩
theorem BlkE.drewN {w : World} {B : Nat} (H : BlkE w B) {n : Nat} : BlkE (w.drewN n) B := H
theorem BlkE.drew {w : World} {B : Nat} (H : BlkE w B) : BlkE w.drew B := H
theorem BlkE.alloc {w : World} {B : Nat} (H : BlkE w B) {o : Obj} : BlkE (w.alloc o) B := by obtain ⟨a, b, c, d, e, f, g, h, H⟩ := H; exact ⟨a, b, c, d, e, f, g, h, H.alloc o⟩
theorem BlkE.other {w : World} {B : Nat} (H : BlkE w B) {r : Addr} (hr : B ≠ r.block) (v : Value) : BlkE (w.setCell r v) B := by obtain ⟨a, b, c, d, e, f, g, h, H⟩ := H; exact ⟨a, b, c, d, e, f, g, h, H.other hr v⟩
theorem BlkE.s0 {w : World} {B : Nat} (H : BlkE w B) {x y : Nat} : BlkE (w.setCell ⟨B, 0, none⟩ (.complex .f32 x y)) B := by obtain ⟨a, b, c, d, e, f, g, h, H⟩ := H; exact ⟨_, _, _, _, _, _, _, _, H.s0 x y⟩
theorem BlkE.s1 {w : World} {B : Nat} (H : BlkE w B) {x y : Nat} : BlkE (w.setCell ⟨B, 1, none⟩ (.complex .f32 x y)) B := by obtain ⟨a, b, c, d, e, f, g, h, H⟩ := H; exact ⟨_, _, _, _, _, _, _, _, H.s1 x y⟩
theorem BlkE.s2 {w : World} {B : Nat} (H : BlkE w B) {x y : Nat} : BlkE (w.setCell ⟨B, 2, none⟩ (.complex .f32 x y)) B := by obtain ⟨a, b, c, d, e, f, g, h, H⟩ := H; exact ⟨_, _, _, _, _, _, _, _, H.s2 x y⟩
theorem BlkE.s3 {w : World} {B : Nat} (H : BlkE w B) {x y : Nat} : BlkE (w.setCell ⟨B, 3, none⟩ (.complex .f32 x y)) B := by obtain ⟨a, b, c, d, e, f, g, h, H⟩ := H; exact ⟨_, _, _, _, _, _, _, _, H.s3 x y⟩
theorem Rdm.above {w : World} {b : Nat} {a : Option Addr} {len cap most : Nat} (h : Rdm w b a len cap most) {B i : Nat} {v : Value} (hB : b < B) : Rdm (w.setCell ⟨B, i, none⟩ v) b a len cap most := by obtain ⟨k, h0, h⟩ := h; exact ⟨k, h0, h.above hB i v⟩
theorem Mid.made {w wx : World} {b : Nat} {a : Option Addr} {len cap A0 B most : Nat} (RX : Rdm wx b a len cap most) (G : w.grownBy wx (some b)) (HA : Blk wx A0 0 0 0 0 0 0 0 0) (HB : BlkE wx B) : Mid w b a len cap A0 B most wx := by
  obtain ⟨k, hk, R⟩ := RX
  obtain ⟨a1, b1, c1, d1, e1, f1, g1, h1, HB⟩ := HB
  exact ⟨k, a1, b1, c1, d1, e1, f1, g1, h1, hk, R, G, HA, HB⟩

theorem most4 (q : Nat) (h : q < 4) : ∃ m : Int, #[Value.int .i64 3, .int .i64 8, .int .i64 20, .int .i64 100][q]'h = .int .i64 m ∧ 0 ≤ m ∧ m ≤ 1000 := by
  have hq : q = 0 ∨ q = 1 ∨ q = 2 ∨ q = 3 := by omega
  rcases hq with rfl | rfl | rfl | rfl
  all_goals exact ⟨_, rfl, by decide, by decide⟩
theorem most3 (q : Nat) (h : q < 3) : ∃ m : Int, #[Value.int .i64 3, .int .i64 20, .int .i64 100][q]'h = .int .i64 m ∧ 0 ≤ m ∧ m ≤ 1000 := by
  have hq : q = 0 ∨ q = 1 ∨ q = 2 := by omega
  rcases hq with rfl | rfl | rfl
  all_goals exact ⟨_, rfl, by decide, by decide⟩
def uX (q : Nat) : Nat := [1065353216, 3212836864, 0, 0].getD q 0
def uY (q : Nat) : Nat := [0, 0, 1065353216, 3212836864].getD q 0
theorem unit4 (q : Nat) (h : q < [Value.complex .f32 1065353216 0, .complex .f32 3212836864 0, .complex .f32 0 1065353216, .complex .f32 0 3212836864].length) :
    [Value.complex .f32 1065353216 0, .complex .f32 3212836864 0, .complex .f32 0 1065353216, .complex .f32 0 3212836864][q]'h = .complex .f32 (uX q) (uY q) := by
  have hq : q = 0 ∨ q = 1 ∨ q = 2 ∨ q = 3 := by simp at h; omega
  rcases hq with rfl | rfl | rfl | rfl
  all_goals rfl

theorem Mid.set4x {w wx : World} {b : Nat} {a : Option Addr} {len cap B most : Nat} (hb : b < w.heap.size) (hAB : w.heap.size < B) (RX : Rdm wx b a len cap most) (G : w.grownBy wx (some b))
    {a1 b1 c1 d1 e1 f1 g1 h1 : Nat} (HA : Blk wx w.heap.size 0 0 0 0 0 0 0 0) (HB : Blk wx B a1 b1 c1 d1 e1 f1 g1 h1) (x1 y1 x2 y2 x3 y3 x4 y4 : Nat) :
    Mid w b a len cap w.heap.size B most ((((wx.setCell ⟨B, 0, none⟩ (.complex .f32 x1 y1)).setCell ⟨B, 1, none⟩ (.complex .f32 x2 y2)).setCell ⟨B, 2, none⟩ (.complex .f32 x3 y3)).setCell ⟨B, 3, none⟩ (.complex .f32 x4 y4)) := by
  obtain ⟨k, hk, R⟩ := RX
  exact Mid.set4 hb hAB hk R G HA HB x1 y1 x2 y2 x3 y3 x4 y4

theorem Rd.pickedA {w : World} {b : Nat} {a : Option Addr} {len cap k : Nat} (R : Rd w b a len cap k) (o : Obj) (m : Nat) : Rd (((w.setCell ⟨b, 1, none⟩ (.int .i64 ((k : Int) + 1))).alloc o).drewN m) b a len cap (k + 1) :=
  ((R.step 0).alloc o).drewN m
theorem grown_pickedA {a w : World} {b k : Nat} (h : a.grownBy w (some b)) (o : Obj) (m : Nat) : a.grownBy (((w.setCell ⟨b, 1, none⟩ (.int .i64 ((k : Int) + 1))).alloc o).drewN m) (some b) :=
  grown_drewN (Lib.grownBy_allocR (Lib.grownBy_setB h 1 _) o) m
theorem Blk.pickedA {w : World} {B a b c d e f g h r k : Nat} (H : Blk w B a b c d e f g h) (hr : B ≠ r) (o : Obj) (m : Nat) : Blk (((w.setCell ⟨r, 1, none⟩ (.int .i64 ((k : Int) + 1))).alloc o).drewN m) B a b c d e f g h :=
  ((H.other (r := ⟨r, 1, none⟩) hr _).alloc o).drewN m

theorem one_milli : milliB 1000 = 1065353216 ∧ milliB 0 = 0 := ⟨by decide +kernel, by decide +kernel⟩

set_option maxRecDepth 8000 in
set_option maxHeartbeats 40000000 in
theorem two_any {b len cap k : Nat} {a : Option Addr} {n : Int} {w : World} (R : Rd w b a len cap k) (hk : k < 700000) (h0 : 0 ≤ n) (h1 : n ≤ 1000000) :
    Calls Tryz.prog 59 #[.pointer (some ⟨b, 0, none⟩), .int .i64 n] w (Drawn IsTwo b a len cap k 100 w) := by
  go_enter Tryz.func59, Tryz.ntmps59
  go_wp2_with fail
  refine (num_any (R.alloc _) (by omega) (by omega) (by omega)).mono ?_
  rintro e w1 ⟨v, k1, ⟨x1, y1, re, im, rfl, hre⟩, rfl, hk1, R1, G1⟩
  clear hre
  go_wp2_with fail
  refine (num_any R1 (by omega) (by omega) (by omega)).mono ?_
  rintro e w2 ⟨v, k2, ⟨x2, y2, re, im, rfl, hre⟩, rfl, hk2, R2, G2⟩
  clear hre
  go_wp2_with fail
  refine (num_any R2 (by omega) (by omega) (by omega)).mono ?_
  rintro e w3 ⟨v, k3, ⟨x3, y3, re, im, rfl, hre⟩, rfl, hk3, R3, G3⟩
  clear hre
  go_wp2_with fail
  refine (num_any R3 (by omega) (by omega) (by omega)).mono ?_
  rintro e w4 ⟨v, k4, ⟨x4, y4, re, im, rfl, hre⟩, rfl, hk4, R4, G4⟩
  clear hre
  go_wp2_with fail
  have hlt := R.lt
  refine (pick_any (R4.alloc _) (by omega) (by omega) (by omega)).mono ?_
  rintro e w5 ⟨p, m5, p0, p1, rfl, hw5⟩
  obtain ⟨B, hB⟩ : ∃ B, w4.heap.size = B := ⟨_, rfl⟩
  have hs1 : w.heap.size + 1 = (w.alloc (.cells #[.complex .f32 0 0, .complex .f32 0 0, .complex .f32 0 0, .complex .f32 0 0] 32)).heap.size := by simp
  have hAB : w.heap.size < B := by
    have := G1.size
    have := G2.size
    have := G3.size
    have := G4.size
    omega
  have Z : Mid w b a len cap w.heap.size B (k + 33) w5 := by
    have A0 := (((((Blk.new w 0 0 0 0 0 0 0 0).grown G1 (by omega)).grown G2 (by omega)).grown G3 (by omega)).grown G4 (by omega)).alloc (.cells #[.complex .f32 x1 y1, .complex .f32 x2 y2, .complex .f32 x3 y3, .complex .f32 x4 y4] 32)
    have B0 := Blk.new w4 x1 y1 x2 y2 x3 y3 x4 y4
    rw [hB] at B0
    have GG := Lib.grownBy_trans (Lib.grownBy_trans (Lib.grownBy_trans (Lib.grownBy_trans (World.grownBy_alloc w _ (some b)) G1) G2) G3) G4
    refine ⟨k4 + 1, x1, y1, x2, y2, x3, y3, x4, y4, by omega, ?_, ?_, ?_, ?_⟩
    · rw [hw5]; exact (R4.alloc _).step m5
    · rw [hw5]; exact grown_drewN (Lib.grownBy_setB (Lib.grownBy_allocR GG _) 1 _) m5
    · rw [hw5]; exact (A0.other (by simp; omega) _).drewN m5
    · rw [hw5]; exact (B0.other (by simp; omega) _).drewN m5
  rw [hB]
  clear hw5 R1 R2 R3 R4 G1 G2 G3 G4 R hs1 hB
  go_upto_block 0 with fail
  go_cut [6, 7, 8] (fun s6 s7 s8 wx => Mid w b a len cap w.heap.size B (k + 50) wx)
  case first =>
    obtain ⟨kz, z1, z2, z3, z4, z5, z6, z7, z8, hkz, RZ, GZ, AZ0, BZ0⟩ := Z
    have AZ := Lib.hid AZ0
    have BZ := Lib.hid BZ0
    clear AZ0 BZ0
    have hp : p = 0 ∨ p = 1 ∨ p = 2 ∨ p = 3 := by omega
    rcases hp with rfl | rfl | rfl | rfl
    · go_wp2_with fail
      refine (pick_any (RZ.alloc _) (by omega) (by omega) (by omega)).mono ?_
      rintro e w6 ⟨q, m6, q0, q1, rfl, rfl⟩
      have hlt5 := RZ.lt
      go_wp2_with fail
      have hq : q.toNat < 4 := by omega
      obtain ⟨M, hM, M0, M1⟩ := most4 q.toNat hq
      simp only [List.getElem_toArray] at hM
      rw [hM]
      have R0 := RZ.pickedA (.cells #[.int .i64 3, .int .i64 8, .int .i64 20, .int .i64 100] 3) m6
      have G0 := grown_pickedA (k := kz) GZ (.cells #[.int .i64 3, .int .i64 8, .int .i64 20, .int .i64 100] 3) m6
      have A0 := Lib.hid (AZ.out.pickedA (k := kz) (show w.heap.size ≠ b by omega) (.cells #[.int .i64 3, .int .i64 8, .int .i64 20, .int .i64 100] 3) m6)
      have B0 := Lib.hid (BZ.out.pickedA (k := kz) (show B ≠ b by omega) (.cells #[.int .i64 3, .int .i64 8, .int .i64 20, .int .i64 100] 3) m6)
      generalize ((w5.setCell ⟨b, 1, none⟩ (.int .i64 ((kz : Int) + 1))).alloc (.cells #[.int .i64 3, .int .i64 8, .int .i64 20, .int .i64 100] 3)).drewN m6 = w6 at R0 G0 A0 B0 ⊢
      clear RZ GZ AZ BZ hM
      refine (whole_draw R0 (by omega) M0 M1).mono ?_
      rintro e w7 ⟨v, k5, ⟨i1, j1, rfl, _⟩, rfl, hk5, R7, H7⟩
      have G7 := Lib.grownBy_trans G0 H7
      have A7 := Lib.hid (A0.out.grown H7 (by omega))
      have B7 := Lib.hid (B0.out.grown H7 (by omega))
      clear R0 G0 A0 B0 H7
      go_wp2_with fail
      refine (whole_draw R7 (by omega) M0 M1).mono ?_
      rintro e w8 ⟨v, k6, ⟨i2, j2, rfl, _⟩, rfl, hk6, R8, H8⟩
      have G8 := Lib.grownBy_trans G7 H8
      have A8 := Lib.hid (A7.out.grown H8 (by omega))
      have B8 := Lib.hid (B7.out.grown H8 (by omega))
      clear R7 G7 A7 B7 H8
      go_wp2_with fail
      refine (whole_draw R8 (by omega) M0 M1).mono ?_
      rintro e w9 ⟨v, k7, ⟨i3, j3, rfl, _⟩, rfl, hk7, R9, H9⟩
      have G9 := Lib.grownBy_trans G8 H9
      have A9 := Lib.hid (A8.out.grown H9 (by omega))
      have B9 := Lib.hid (B8.out.grown H9 (by omega))
      clear R8 G8 A8 B8 H9
      go_wp2_with fail
      refine (whole_draw R9 (by omega) M0 M1).mono ?_
      rintro e w10 ⟨v, k8, ⟨i4, j4, rfl, _⟩, rfl, hk8, R10, H10⟩
      have G10 := Lib.grownBy_trans G9 H10
      have A10 := Lib.hid (A9.out.grown H10 (by omega))
      have B10 := Lib.hid (B9.out.grown H10 (by omega))
      clear R9 G9 A9 B9 H10
      have s0 := B10.out.c0
      have s1 := B10.out.c1
      have s2 := B10.out.c2
      have s3 := B10.out.c3
      have t0 := B10.out.fr 0
      have t1 := B10.out.fr 1
      have t2 := B10.out.fr 2
      have t3 := B10.out.fr 3
      go_wp2_with fail
      go_meet
      exact Mid.set4 hlt hAB (by omega) R10 G10 A10.out B10.out _ _ _ _ _ _ _ _
    · go_wp2_with fail
      refine (pick_any (RZ.alloc _) (by omega) (by omega) (by omega)).mono ?_
      rintro e w6 ⟨q, m6, q0, q1, rfl, rfl⟩
      have hlt5 := RZ.lt
      go_upto_region 8 with fail
      have hq : q.toNat < 3 := by omega
      obtain ⟨M, hM, M0, M1⟩ := most3 q.toNat hq
      simp only [List.getElem_toArray] at hM
      rw [hM]
      have R0 := RZ.pickedA (.cells #[.int .i64 3, .int .i64 20, .int .i64 100] 3) m6
      have G0 := grown_pickedA (k := kz) GZ (.cells #[.int .i64 3, .int .i64 20, .int .i64 100] 3) m6
      have A0 := Lib.hid (AZ.out.pickedA (k := kz) (show w.heap.size ≠ b by omega) (.cells #[.int .i64 3, .int .i64 20, .int .i64 100] 3) m6)
      have B0 := Lib.hid (BZ.out.pickedA (k := kz) (show B ≠ b by omega) (.cells #[.int .i64 3, .int .i64 20, .int .i64 100] 3) m6)
      generalize ((w5.setCell ⟨b, 1, none⟩ (.int .i64 ((kz : Int) + 1))).alloc (.cells #[.int .i64 3, .int .i64 20, .int .i64 100] 3)).drewN m6 = w6 at R0 G0 A0 B0 ⊢
      clear RZ GZ AZ BZ hM
      have s0 := B0.out.c0
      have s1 := B0.out.c1
      have s2 := B0.out.c2
      have s3 := B0.out.c3
      have t0 := B0.out.fr 0
      have t1 := B0.out.fr 1
      have t2 := B0.out.fr 2
      have t3 := B0.out.fr 3
      have hlt6 := R0.lt
      have hltB := B0.out.lt
      have hbB : b < B := by omega
      have hBb : B ≠ b := by omega
      have hbn : b ≠ B := by omega
      have hwB : w.heap.size ≤ B := by omega
      have hAb : w.heap.size ≠ b := by omega
      have hAB' : w.heap.size ≠ B := by omega
      have B0E := BlkE.mk B0.out
      have hU := unit4
      clear hq q0 q1
      go_region_with (first
        | (go_at_call 37; refine Calls.mono (pick_any (a := a) (len := len) (cap := cap) (by with_reducible (repeat (first | exact R0 | apply Rd.drewN | apply Rd.drew | apply Rd.alloc)); all_goals (refine Rd.ofX ?_ (by omega); with_reducible repeat (first | exact Rdx.mk R0 | apply Rdx.drewN | apply Rdx.drew | apply Rdx.alloc | refine Rdx.set ?_ (by omega)))) (by omega) (by omega) (by omega)) ?_; rintro e w' ⟨p', m', q0, q1, rfl, rfl⟩)
        | (go_at_call 70; refine Calls.mono (whole_exact (a := a) (len := len) (cap := cap) (by with_reducible (repeat (first | exact R0 | apply Rd.drewN | apply Rd.drew | apply Rd.alloc)); all_goals (refine Rd.ofX ?_ (by omega); with_reducible repeat (first | exact Rdx.mk R0 | apply Rdx.drewN | apply Rdx.drew | apply Rdx.alloc | refine Rdx.set ?_ (by omega)))) (by omega) M0 M1) ?_; rintro e w' ⟨v', m', ⟨i1, j1, rfl, hij⟩, rfl, rfl⟩; clear hij))
      all_goals
        go_wp2_with fail
        go_meet
        refine Mid.made ?_ ?_ ?_ ?_
        · with_reducible (repeat (first | apply Rdm.drewN | apply Rdm.drew | apply Rdm.alloc | refine Rdm.above ?_ hbB))
          refine Rdm.of ?_ (by omega) (by omega)
          with_reducible repeat (first | exact Rdx.mk R0 | apply Rdx.drewN | apply Rdx.drew | apply Rdx.alloc | refine Rdx.set ?_ (by omega))
        · with_reducible repeat (first | exact G0 | apply grown_drewN | apply grown_drew | apply Lib.grownBy_allocR | apply Lib.grownBy_setB | refine grown_above ?_ hwB _ _)
        · with_reducible repeat (first | exact A0.out | apply Blk.drewN | apply Blk.drew | apply Blk.alloc | refine Blk.other ?_ hAb _ | refine Blk.other ?_ hAB' _)
        · with_reducible repeat (first | exact B0E | apply BlkE.drewN | apply BlkE.drew | apply BlkE.alloc | apply BlkE.s0 | apply BlkE.s1 | apply BlkE.s2 | apply BlkE.s3 | refine BlkE.other ?_ hBb _)
    · go_wp2_with fail
      refine (whole_draw RZ (by omega) (by omega) (by omega)).mono ?_
      rintro e w6 ⟨v, k5, ⟨i1, j1, rfl, i0, i2, j0, j2⟩, rfl, hk5, R6, H6⟩
      have G6 := Lib.grownBy_trans GZ H6
      have A6 := Lib.hid (AZ.out.grown H6 (by omega))
      have B6 := Lib.hid (BZ.out.grown H6 (by omega))
      clear RZ GZ AZ BZ H6
      obtain ⟨u, t, hm, _⟩ := mul_whole (a := milliB (1000 * i1)) (b := milliB (1000 * j1)) (c := 0) (d := 1065353216) (k := 0) (l := 1) (fin_milli (by omega) (by omega)) (fin_milli (by omega) (by omega)) (by decide) (by decide)
        (milli_whole (by omega) (by omega)) (milli_whole (by omega) (by omega)) (by decide +kernel) (by decide +kernel) (by omega) (by omega) (by omega) (by omega)
      have s0 := B6.out.c0
      have s1 := B6.out.c1
      have s2 := B6.out.c2
      have s3 := B6.out.c3
      have t0 := B6.out.fr 0
      have t1 := B6.out.fr 1
      have t2 := B6.out.fr 2
      have t3 := B6.out.fr 3
      go_wp2_with fail
      go_meet
      exact Mid.set4 hlt hAB (by omega) (R6.drewN _) (grown_drewN G6 _) (A6.out.drewN _) (B6.out.drewN _) _ _ _ _ _ _ _ _
    · go_wp2_with fail
      go_meet
      exact ⟨kz, z1, z2, z3, z4, z5, z6, z7, z8, by omega, RZ, GZ, AZ.out, BZ.out⟩
  case rest =>
    obtain ⟨kz, z1, z2, z3, z4, z5, z6, z7, z8, hkz, RZ, GZ, AZ0, BZ0⟩ := hcut
    have AZ := Lib.hid AZ0
    have BZ := Lib.hid BZ0
    clear AZ0 BZ0
    go_wp2_with fail
    refine (odd_any RZ (by omega) h0 h1).mono ?_
    rintro e w6 ⟨v, k6, ⟨β, rfl, _⟩, rfl, hk6, R6, H6⟩
    have G6 := Lib.grownBy_trans GZ H6
    have A6 := Lib.hid (AZ.out.grown H6 (by omega))
    have B6 := Lib.hid (BZ.out.grown H6 (by omega))
    clear RZ GZ AZ BZ H6
    cases β
    · have s0 := B6.out.c0
      have s1 := B6.out.c1
      have s2 := B6.out.c2
      have s3 := B6.out.c3
      have r0 := A6.out.c0
      have r1 := A6.out.c1
      have r2 := A6.out.c2
      have r3 := A6.out.c3
      have q0 := A6.out.fr 0
      have q1 := A6.out.fr 1
      have q2 := A6.out.fr 2
      have q3 := A6.out.fr 3
      go_wp2_with fail
      refine bodyPost_ret (results_two rfl _ rfl ((((A6.out.s0 _ _).s1 _ _).s2 _ _).s3 _ _)) rfl ?_
      refine ⟨_, k6, ⟨_, _, _, _, _, _, _, _, rfl⟩, rfl, by omega, ?_, ?_⟩
      · exact (((R6.above hlt 0 _).above hlt 1 _).above hlt 2 _).above hlt 3 _
      · exact grown_above (grown_above (grown_above (grown_above G6 (Nat.le_refl _) 0 _) (Nat.le_refl _) 1 _) (Nat.le_refl _) 2 _) (Nat.le_refl _) 3 _
    · go_wp2_with fail
      refine (pick_any R6 (by omega) (by omega) (by omega)).mono ?_
      rintro e w7 ⟨q, m7, q0, q1, rfl, hw7⟩
      have R7 : Rd w7 b a len cap (k6 + 1) := by rw [hw7]; exact R6.step m7
      have G7 : w.grownBy w7 (some b) := by rw [hw7]; exact grown_drewN (Lib.grownBy_setB G6 1 _) m7
      have A7 : Hid (Blk w7 w.heap.size 0 0 0 0 0 0 0 0) := by rw [hw7]; exact (A6.out.other (r := ⟨b, 1, none⟩) (by simp; omega) _).drewN m7
      have B7 : Hid (Blk w7 B z1 z2 z3 z4 z5 z6 z7 z8) := by rw [hw7]; exact (B6.out.other (r := ⟨b, 1, none⟩) (by simp; omega) _).drewN m7
      clear hw7 R6 G6 A6 B6
      have hq : q = 0 ∨ q = 1 ∨ q = 2 := by omega
      rcases hq with rfl | rfl | rfl
      all_goals
        go_wp2_with fail
        refine (num_any R7 (by omega) (by omega) (by omega)).mono ?_
        rintro e w8 ⟨v, k8, ⟨x, y, _, _, rfl, _⟩, rfl, hk8, R8, H8⟩
        have G8 := Lib.grownBy_trans G7 H8
        have A8 := Lib.hid (A7.out.grown H8 (by omega))
        have B8 := Lib.hid (B7.out.grown H8 (by omega))
        clear R7 G7 A7 B7 H8
        have s0 := B8.out.c0
        have s1 := B8.out.c1
        have s2 := B8.out.c2
        have s3 := B8.out.c3
        have t0 := B8.out.fr 0
        have t1 := B8.out.fr 1
        have t3 := B8.out.fr 3
        have r0 := A8.out.c0
        have r1 := A8.out.c1
        have r2 := A8.out.c2
        have r3 := A8.out.c3
        have q0 := A8.out.fr 0
        have q1 := A8.out.fr 1
        have q2 := A8.out.fr 2
        have q3 := A8.out.fr 3
        have hne : w.heap.size ≠ B := by omega
        have hen : B ≠ w.heap.size := by omega
        have hbB : b < B := by omega
        go_wp2_with fail
        refine bodyPost_ret (results_two rfl _ rfl (((((A8.out.other (r := ⟨B, _, none⟩) hne _).s0 _ _).s1 _ _).s2 _ _).s3 _ _)) rfl ?_
        refine ⟨_, k8, ⟨_, _, _, _, _, _, _, _, rfl⟩, rfl, by omega, ?_, ?_⟩
        · exact ((((R8.above hbB _ _).above hlt 0 _).above hlt 1 _).above hlt 2 _).above hlt 3 _
        · exact grown_above (grown_above (grown_above (grown_above (grown_above G8 (by omega) _ _) (Nat.le_refl _) 0 _) (Nat.le_refl _) 1 _) (Nat.le_refl _) 2 _) (Nat.le_refl _) 3 _

end Go.Proofs.YthbebgnjidaokaaGreatDoor
