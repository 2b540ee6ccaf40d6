/-
  What the draw of two matrices and a bound comes to.
-/
import Derived.Test.YtdellcgnclliaaaWTwoOk
import Derived.Deep.RegionHeld3
namespace Go.Proofs.Ytdellcgnclliaaa
open Go.RowKit Fl

/-- What holds while two matrices are drawn: the reader, the results' blocks, the variables' blocks. -/
def Mid2 (w : World) (b : Nat) (a : Option Addr) (len cap A B most : Nat) (wx : World) : Prop :=
  ∃ k a1 b1 c1 d1 e1 f1 g1 h1 a2 b2 c2 d2 e2 f2 g2 h2 : Nat, k ≤ most ∧ Rd wx b a len cap k ∧ Below w.heap.size w wx ∧ Blk wx w.heap.size 0 0 0 0 0 0 0 0 ∧ Blk wx (w.heap.size + 1) 0 0 0 0 0 0 0 0 ∧
    Blk wx A a1 b1 c1 d1 e1 f1 g1 h1 ∧ Blk wx B a2 b2 c2 d2 e2 f2 g2 h2

/-- Two matrices and a bound. -/
def NearTwoDraw (v : Value) : Prop := ∃ x1 y1 x2 y2 x3 y3 x4 y4 z1 t1 z2 t2 z3 t3 z4 t4 d : Nat,
  v = .tuple #[.agg #[.complex .f32 x1 y1, .complex .f32 x2 y2, .complex .f32 x3 y3, .complex .f32 x4 y4], .agg #[.complex .f32 z1 t1, .complex .f32 z2 t2, .complex .f32 z3 t3, .complex .f32 z4 t4], .float .f64 d] ∧ fin .f64 d = true

theorem size_alloc2 (w : World) (o p : Obj) : ((w.alloc o).alloc p).heap.size = w.heap.size + 2 := by simp

def bW (q : Nat) : Nat := [0, 4602678819172646912, 4636737291354636288, 4741671816366391296].getD q 0
theorem bound4 (q : Nat) (h : q < [Value.float .f64 0, .float .f64 4602678819172646912, .float .f64 4636737291354636288, .float .f64 4741671816366391296].length) :
    [Value.float .f64 0, .float .f64 4602678819172646912, .float .f64 4636737291354636288, .float .f64 4741671816366391296][q]'h = .float .f64 (bW q) := by
  have hq : q = 0 ∨ q = 1 ∨ q = 2 ∨ q = 3 := by simp at h; omega
  rcases hq with rfl | rfl | rfl | rfl
  all_goals rfl
theorem bW_fin (q : Int) (h0 : 0 ≤ q) (h1 : q < 4) : fin .f64 (bW q.toNat) = true := by
  have hq : q = 0 ∨ q = 1 ∨ q = 2 ∨ q = 3 := by omega
  rcases hq with rfl | rfl | rfl | rfl
  all_goals decide

theorem results_two_two {fn : Func} {p q u : Tmp} (hr : fn.results = #[.cell p 25, .cell q 25, .tmp u]) (tmps : Array Value) {w : World} {A B a1 b1 c1 d1 e1 f1 g1 h1 a2 b2 c2 d2 e2 f2 g2 h2 : Nat}
    (hp : tmps.getD p undef = .pointer (some ⟨A, 0, none⟩)) (hq : tmps.getD q undef = .pointer (some ⟨B, 0, none⟩)) (H : Blk w A a1 b1 c1 d1 e1 f1 g1 h1) (K : Blk w B a2 b2 c2 d2 e2 f2 g2 h2) :
    (results fn tmps).run Try.prog w = .ok (.tuple #[.agg #[.complex .f32 a1 b1, .complex .f32 c1 d1, .complex .f32 e1 f1, .complex .f32 g1 h1], .agg #[.complex .f32 a2 b2, .complex .f32 c2 d2, .complex .f32 e2 f2, .complex .f32 g2 h2], tmps.getD u undef]) w := by
  have hp' : tmps[p]?.getD undef = .pointer (some ⟨A, 0, none⟩) := by simpa using hp
  have hq' : tmps[q]?.getD undef = .pointer (some ⟨B, 0, none⟩) := by simpa using hq
  have l1 := run_loadVar_row (P := Try.prog) w A 25 25 _ _ _ H Try.underlying25 rfl (by kernel_rfl)
  have l2 := run_loadVar_row (P := Try.prog) w B 25 25 _ _ _ K Try.underlying25 rfl (by kernel_rfl)
  simp [results, hr, hp', hq', asAddr, l1, l2]

theorem Blk.set4 {w : World} {B a b c d e f g h : Nat} (H : Blk w B a b c d e f g h) (x1 y1 x2 y2 x3 y3 x4 y4 : Nat) :
    Blk ((((w.setCell ⟨B, 0, none⟩ (.complex .f32 x1 y1)).setCell ⟨B, 1, none⟩ (.complex .f32 x2 y2)).setCell ⟨B, 2, none⟩ (.complex .f32 x3 y3)).setCell ⟨B, 3, none⟩ (.complex .f32 x4 y4)) B x1 y1 x2 y2 x3 y3 x4 y4 :=
  (((H.s0 x1 y1).s1 x2 y2).s2 x3 y3).s3 x4 y4
theorem Blk.not4 {w : World} {A B a b c d e f g h : Nat} (H : Blk w A a b c d e f g h) (hn : A ≠ B) (v0 v1 v2 v3 : Value) :
    Blk ((((w.setCell ⟨B, 0, none⟩ v0).setCell ⟨B, 1, none⟩ v1).setCell ⟨B, 2, none⟩ v2).setCell ⟨B, 3, none⟩ v3) A a b c d e f g h :=
  (((H.other (r := ⟨B, 0, none⟩) hn v0).other (r := ⟨B, 1, none⟩) hn v1).other (r := ⟨B, 2, none⟩) hn v2).other (r := ⟨B, 3, none⟩) hn v3
theorem below_drew {S : Nat} {a w : World} (h : Below S a w) : Below S a w.drew := ⟨h.os, h.tape, h.output, h.size, h.block⟩
theorem below_set {S : Nat} {w w' : World} {b i : Nat} {v : Value} (h : Below S w w') (hb : S ≤ b) : Below S w (w'.setCell ⟨b, i, none⟩ v) := h.setCell (p := ⟨b, i, none⟩) hb v
theorem below_allocS {w w' : World} {o : Obj} (h : Below w.heap.size w w') : Below w.heap.size w (w'.alloc o) := h.alloc h.size o

theorem held2_of {wx : World} {A B x1 y1 x2 y2 x3 y3 x4 y4 z1 t1 z2 t2 z3 t3 z4 t4 : Nat} (MA : Blk wx A x1 y1 x2 y2 x3 y3 x4 y4) (MB : Blk wx B z1 t1 z2 t2 z3 t3 z4 t4) : wx.cell? ⟨A, 0, none⟩ = some (.complex .f32 x1 y1) ∧ wx.cell? ⟨A, 1, none⟩ = some (.complex .f32 x2 y2) ∧ wx.cell? ⟨A, 2, none⟩ = some (.complex .f32 x3 y3) ∧ wx.cell? ⟨A, 3, none⟩ = some (.complex .f32 x4 y4) ∧ wx.cell? ⟨B, 0, none⟩ = some (.complex .f32 z1 t1) ∧ wx.cell? ⟨B, 1, none⟩ = some (.complex .f32 z2 t2) ∧ wx.cell? ⟨B, 2, none⟩ = some (.complex .f32 z3 t3) ∧ wx.cell? ⟨B, 3, none⟩ = some (.complex .f32 z4 t4) ∧ Blk wx A x1 y1 x2 y2 x3 y3 x4 y4 ∧ Blk wx B z1 t1 z2 t2 z3 t3 z4 t4 :=
  ⟨MA.c0, MA.c1, MA.c2, MA.c3, MB.c0, MB.c1, MB.c2, MB.c3, MA, MB⟩

set_option maxRecDepth 8000 in
set_option maxHeartbeats 40000000 in
theorem drawNearTwo_any {a : Option Addr} {len cap : Nat} {zs : List Int} {w : World} (h : IsRow .u8 w a len cap zs) :
    Calls Try.prog 37 #[.slice a len cap] w (Got NearTwoDraw w) := by
  go_enter Try.func37, Try.ntmps37
  go_wp2_with fail
  refine (open_any ((h.alloc _).alloc _)).mono ?_
  rintro e w1 ⟨b, a1, len1, cap1, rfl, R1, hb, B1⟩
  have hs := size_alloc2 w (.cells #[.complex .f32 0 0, .complex .f32 0 0, .complex .f32 0 0, .complex .f32 0 0] 25) (.cells #[.complex .f32 0 0, .complex .f32 0 0, .complex .f32 0 0, .complex .f32 0 0] 25)
  rw [hs] at hb B1
  have A1 := ((Blk.new w 0 0 0 0 0 0 0 0).alloc (.cells #[.complex .f32 0 0, .complex .f32 0 0, .complex .f32 0 0, .complex .f32 0 0] 25)).below B1 (by omega)
  have A2 : Blk w1 (w.heap.size + 1) 0 0 0 0 0 0 0 0 := by
    have := (Blk.new (w.alloc (.cells #[.complex .f32 0 0, .complex .f32 0 0, .complex .f32 0 0, .complex .f32 0 0] 25)) 0 0 0 0 0 0 0 0)
    rw [show (w.alloc (.cells #[.complex .f32 0 0, .complex .f32 0 0, .complex .f32 0 0, .complex .f32 0 0] 25)).heap.size = w.heap.size + 1 by simp] at this
    exact this.below B1 (by omega)
  have L1 := (((Below.refl w.heap.size w).alloc (Nat.le_refl _) (.cells #[.complex .f32 0 0, .complex .f32 0 0, .complex .f32 0 0, .complex .f32 0 0] 25)).alloc (by simp) (.cells #[.complex .f32 0 0, .complex .f32 0 0, .complex .f32 0 0, .complex .f32 0 0] 25)).trans (B1.mono (B' := w.heap.size) (by omega))
  clear B1 hs h
  have hlt := R1.lt
  go_wp2_with fail
  refine (two_any R1 (by omega) (by omega) (by omega)).mono ?_
  rintro e w2 ⟨v, k2, ⟨x1, y1, x2, y2, x3, y3, x4, y4, rfl⟩, rfl, hk2, R2, G2⟩
  have A3 := A1.grown G2 (by omega)
  have A4 := A2.grown G2 (by omega)
  have L2 := below_drawn L1 (show w.heap.size ≤ b by omega) L1.size G2
  have hlt2 := R2.lt
  clear R1 G2 A1 A2 L1
  go_wp2_with fail
  refine (two_any (R2.alloc _) (by omega) (by omega) (by omega)).mono ?_
  rintro e w3 ⟨v, k3, ⟨z1, t1, z2, t2, z3, t3, z4, t4, rfl⟩, rfl, hk3, R3, G3⟩
  have A5 := (A3.alloc (.cells #[.complex .f32 x1 y1, .complex .f32 x2 y2, .complex .f32 x3 y3, .complex .f32 x4 y4] 25)).grown G3 (by omega)
  have A6 := (A4.alloc (.cells #[.complex .f32 x1 y1, .complex .f32 x2 y2, .complex .f32 x3 y3, .complex .f32 x4 y4] 25)).grown G3 (by omega)
  have V3 := (Blk.new w2 x1 y1 x2 y2 x3 y3 x4 y4).grown G3 (by omega)
  have L3 := below_drawn (L2.alloc L2.size (.cells #[.complex .f32 x1 y1, .complex .f32 x2 y2, .complex .f32 x3 y3, .complex .f32 x4 y4] 25)) (show w.heap.size ≤ b by omega) (L2.alloc L2.size _).size G3
  have hAw : w.heap.size + 1 < w2.heap.size := A4.lt
  obtain ⟨A, hA⟩ : ∃ A, w2.heap.size = A := ⟨_, rfl⟩
  rw [hA] at V3 hAw hlt2
  clear R2 G3 A3 A4 L2
  go_wp2_with fail
  refine (pick_any (R3.alloc _) (by omega) (by omega) (by omega)).mono ?_
  rintro e w4 ⟨p, m4, p0, p1, rfl, hw4⟩
  obtain ⟨B, hB⟩ : ∃ B, w3.heap.size = B := ⟨_, rfl⟩
  have hAB : A < B := by rw [← hB]; exact V3.lt
  have Z : Mid2 w b a1 len1 cap1 A B 250 w4 := by
    have W3 := Blk.new w3 z1 t1 z2 t2 z3 t3 z4 t4
    rw [hB] at W3
    refine ⟨k3 + 1, x1, y1, x2, y2, x3, y3, x4, y4, z1, t1, z2, t2, z3, t3, z4, t4, by omega, ?_, ?_, ?_, ?_, ?_, ?_⟩
    · rw [hw4]; exact (R3.alloc _).step m4
    · rw [hw4]; exact below_drewN ((L3.alloc L3.size _).setCell (p := ⟨b, 1, none⟩) (show w.heap.size ≤ b by omega) _) m4
    · rw [hw4]; exact ((A5.alloc _).other (r := ⟨b, 1, none⟩) (by simp; omega) _).drewN m4
    · rw [hw4]; exact ((A6.alloc _).other (r := ⟨b, 1, none⟩) (by simp; omega) _).drewN m4
    · rw [hw4]; exact ((V3.alloc _).other (r := ⟨b, 1, none⟩) (by simp; omega) _).drewN m4
    · rw [hw4]; exact (W3.other (r := ⟨b, 1, none⟩) (by simp; omega) _).drewN m4
  rw [hB]
  clear hw4 R3 A5 A6 V3 L3 hA hB
  go_upto_if 16 with fail
  go_cut [18] (fun s18 wx => Mid2 w b a1 len1 cap1 A B 300 wx)
  case first =>
    have hp : p = 0 ∨ p = 1 := by omega
    rcases hp with rfl | rfl
    · obtain ⟨k5, x1, y1, x2, y2, x3, y3, x4, y4, z1, t1, z2, t2, z3, t3, z4, t4, hk5, R5, L5, P5, Q5, V5, W5⟩ := Z
      have HP := Lib.hid P5
      have HQ := Lib.hid Q5
      have HV := Lib.hid V5
      have HW := Lib.hid W5
      have c0 := V5.c0
      have c1 := V5.c1
      have c2 := V5.c2
      have c3 := V5.c3
      have s0 := W5.c0
      have s1 := W5.c1
      have s2 := W5.c2
      have s3 := W5.c3
      have q0 := W5.fr 0
      have q1 := W5.fr 1
      have q2 := W5.fr 2
      have q3 := W5.fr 3
      clear P5 Q5 V5 W5
      go_wp2_with fail
      have hne : A ≠ B := by omega
      have R6 := (((R5.above (show b < B by omega) 0 (.complex .f32 x1 y1)).above (show b < B by omega) 1 (.complex .f32 x2 y2)).above (show b < B by omega) 2 (.complex .f32 x3 y3)).above (show b < B by omega) 3 (.complex .f32 x4 y4)
      have L6 := below_set4 L5 (show w.heap.size ≤ B by omega) (.complex .f32 x1 y1) (.complex .f32 x2 y2) (.complex .f32 x3 y3) (.complex .f32 x4 y4)
      have P6 := (((HP.out.other (r := ⟨B, 0, none⟩) (by simp; omega) (.complex .f32 x1 y1)).other (r := ⟨B, 1, none⟩) (by simp; omega) (.complex .f32 x2 y2)).other (r := ⟨B, 2, none⟩) (by simp; omega) (.complex .f32 x3 y3)).other (r := ⟨B, 3, none⟩) (by simp; omega) (.complex .f32 x4 y4)
      have Q6 := (((HQ.out.other (r := ⟨B, 0, none⟩) (by simp; omega) (.complex .f32 x1 y1)).other (r := ⟨B, 1, none⟩) (by simp; omega) (.complex .f32 x2 y2)).other (r := ⟨B, 2, none⟩) (by simp; omega) (.complex .f32 x3 y3)).other (r := ⟨B, 3, none⟩) (by simp; omega) (.complex .f32 x4 y4)
      have V6 := (((HV.out.other (r := ⟨B, 0, none⟩) (by simp; omega) (.complex .f32 x1 y1)).other (r := ⟨B, 1, none⟩) (by simp; omega) (.complex .f32 x2 y2)).other (r := ⟨B, 2, none⟩) (by simp; omega) (.complex .f32 x3 y3)).other (r := ⟨B, 3, none⟩) (by simp; omega) (.complex .f32 x4 y4)
      have W6 := (((HW.out.s0 x1 y1).s1 x2 y2).s2 x3 y3).s3 x4 y4
      generalize ((((w4.setCell ⟨B, 0, none⟩ (.complex .f32 x1 y1)).setCell ⟨B, 1, none⟩ (.complex .f32 x2 y2)).setCell ⟨B, 2, none⟩ (.complex .f32 x3 y3)).setCell ⟨B, 3, none⟩ (.complex .f32 x4 y4)) = w6 at R6 L6 P6 Q6 V6 W6 ⊢
      clear c0 c1 c2 c3 s0 s1 s2 s3 q0 q1 q2 q3 HP HQ HV HW R5 L5
      refine (num_any R6 (by omega) (by omega) (by omega)).mono ?_
      rintro e w7 ⟨v, k7, ⟨x, y, re, im, rfl, hre⟩, rfl, hk7, R7, G7⟩
      have L7 := below_drawn L6 (show w.heap.size ≤ b by omega) L6.size G7
      have P7 := P6.grown G7 (by omega)
      have Q7 := Q6.grown G7 (by omega)
      have V7 := V6.grown G7 (by omega)
      have W7 := W6.grown G7 (by omega)
      clear hre R6 L6 P6 Q6 V6 W6 G7
      have s2 := W7.c2
      have q2 := W7.fr 2
      go_wp2_with fail
      go_meet
      exact ⟨k7, x1, y1, x2, y2, x3, y3, x4, y4, x1, y1, x2, y2, x, y, x4, y4, by omega, R7.above (show b < B by omega) 2 _, L7.setCell (p := ⟨B, 2, none⟩) (show w.heap.size ≤ B by omega) _,
        P7.other (r := ⟨B, 2, none⟩) (by simp; omega) _, Q7.other (r := ⟨B, 2, none⟩) (by simp; omega) _, V7.other (r := ⟨B, 2, none⟩) (by simp; omega) _, W7.s2 x y⟩
    · go_wp2_with fail
      go_meet
      obtain ⟨k5, x1, y1, x2, y2, x3, y3, x4, y4, z1, t1, z2, t2, z3, t3, z4, t4, hk5, H⟩ := Z
      exact ⟨k5, x1, y1, x2, y2, x3, y3, x4, y4, z1, t1, z2, t2, z3, t3, z4, t4, by omega, H⟩
  case rest =>
    obtain ⟨k5, x1, y1, x2, y2, x3, y3, x4, y4, z1, t1, z2, t2, z3, t3, z4, t4, hk5, R5, L5, P5, Q5, V5, W5⟩ := hcut
    have HP := Lib.hid P5
    have HQ := Lib.hid Q5
    have HL := Lib.hid L5
    have HV := Lib.hid V5
    have HW := Lib.hid W5
    have c0 := V5.c0
    have c1 := V5.c1
    have c2 := V5.c2
    have c3 := V5.c3
    have s0 := W5.c0
    have s1 := W5.c1
    have s2 := W5.c2
    have s3 := W5.c3
    have p0 := P5.c0
    have p1 := P5.c1
    have p2 := P5.c2
    have p3 := P5.c3
    have q0 := Q5.c0
    have q1 := Q5.c1
    have q2 := Q5.c2
    have q3 := Q5.c3
    have u0 := P5.fr 0
    have u1 := P5.fr 1
    have u2 := P5.fr 2
    have u3 := P5.fr 3
    have v0 := Q5.fr 0
    have v1 := Q5.fr 1
    have v2 := Q5.fr 2
    have v3 := Q5.fr 3
    have ltP := P5.lt
    have ltQ := Q5.lt
    have ltV := V5.lt
    have ltW := W5.lt
    have ltR := R5.lt
    have n1 : A ≠ b := by omega
    have n2 : B ≠ b := by omega
    have n3 : w.heap.size ≠ b := by omega
    have n4 : w.heap.size + 1 ≠ b := by omega
    have n5 : b ≠ A := by omega
    have n6 : b ≠ B := by omega
    have n7 : b ≠ w.heap.size := by omega
    have n8 : b ≠ w.heap.size + 1 := by omega
    have n9 : A ≠ w.heap.size := by omega
    have n10 : A ≠ w.heap.size + 1 := by omega
    have n11 : B ≠ w.heap.size := by omega
    have n12 : B ≠ w.heap.size + 1 := by omega
    have hbd := bound4
    clear P5 Q5 V5 W5 L5
    go_wp2_with fail
    refine wp_region_noPanic ?_
    refine wp_region_held_drew (S := (fun w' => w'.cell? ⟨A, 0, none⟩ = some (.complex .f32 x1 y1) ∧ w'.cell? ⟨A, 1, none⟩ = some (.complex .f32 x2 y2) ∧ w'.cell? ⟨A, 2, none⟩ = some (.complex .f32 x3 y3) ∧ w'.cell? ⟨A, 3, none⟩ = some (.complex .f32 x4 y4) ∧ w'.cell? ⟨B, 0, none⟩ = some (.complex .f32 z1 t1) ∧ w'.cell? ⟨B, 1, none⟩ = some (.complex .f32 z2 t2) ∧ w'.cell? ⟨B, 2, none⟩ = some (.complex .f32 z3 t3) ∧ w'.cell? ⟨B, 3, none⟩ = some (.complex .f32 z4 t4) ∧ Blk w' A x1 y1 x2 y2 x3 y3 x4 y4 ∧ Blk w' B z1 t1 z2 t2 z3 t3 z4 t4)) (by kernel_rfl) ?_ (fun hHeld => ?_)
    · (try dsimp only)
      first | with_reducible assumption | (refine held2_of ?_ ?_ <;> with_reducible repeat (first | exact HV.out | exact HW.out | apply Blk.drewN | apply Blk.drew | apply Blk.alloc | refine Blk.other ?_ n1 _ | refine Blk.other ?_ n2 _ | refine Blk.other ?_ n9 _ | refine Blk.other ?_ n10 _ | refine Blk.other ?_ n11 _ | refine Blk.other ?_ n12 _))
    refine wpAnyH_take (i := 0) (v := ?_) (by (try simp only [List.getElem?_toArray, List.getElem?_cons_zero]); first | done | rfl) (by kernel_rfl) (by kernel_rfl) (by kernel_rfl) (fun _ _ _ h => h) (Or.inl ⟨by rfl, ?_⟩) (by assumption) ?_
    rotate_left 1
    · (intro wz hSw; (try dsimp only at hSw); go_simp; try with_reducible rfl)
    try simp only [Act.put, List.setIfInBounds_toArray, List.set_cons_zero, List.set_cons_succ]
    refine wpAnyH_take (i := 1) (v := ?_) (by (try simp only [List.getElem?_toArray, List.getElem?_cons_zero, List.getElem?_cons_succ]); first | done | rfl) (by kernel_rfl) (by kernel_rfl) (by kernel_rfl) (fun _ _ _ h => h) (Or.inl ⟨by rfl, ?_⟩) (by assumption) ?_
    rotate_left 1
    · (intro wz hSw; (try dsimp only at hSw); go_simp; try with_reducible rfl)
    try simp only [Act.put, List.setIfInBounds_toArray, List.set_cons_zero, List.set_cons_succ]
    refine wpAnyH_take (i := 3) (v := ?_) (by (try simp only [List.getElem?_toArray, List.getElem?_cons_zero, List.getElem?_cons_succ]); first | done | rfl) (by kernel_rfl) (by kernel_rfl) (by kernel_rfl) (fun _ _ _ h => h) (Or.inl ⟨by rfl, ?_⟩) (by assumption) ?_
    rotate_left 1
    · (intro wz hSw; (try dsimp only at hSw); go_simp; try with_reducible rfl)
    try simp only [Act.put, List.setIfInBounds_toArray, List.set_cons_zero, List.set_cons_succ]
    refine wpAnyH_ready (rs := [2, 4]) (by kernel_rfl) (by simp) ?_
    refine AllReadyH.cons (by (try simp only [List.getElem?_toArray, List.getElem?_cons_zero, List.getElem?_cons_succ]); first | done | rfl) (fun K hK => ?_) (AllReadyH.cons (by (try simp only [List.getElem?_toArray, List.getElem?_cons_zero, List.getElem?_cons_succ]); first | done | rfl) (fun K hK => ?_) AllReadyH.nil)
    · go_simp
      refine hK.out _ _ ?_ (fun hHeld => ?_)
      · (try dsimp only)
        first | with_reducible assumption | (refine held2_of ?_ ?_ <;> with_reducible repeat (first | exact HV.out | exact HW.out | apply Blk.drewN | apply Blk.drew | apply Blk.alloc | refine Blk.other ?_ n1 _ | refine Blk.other ?_ n2 _ | refine Blk.other ?_ n9 _ | refine Blk.other ?_ n10 _ | refine Blk.other ?_ n11 _ | refine Blk.other ?_ n12 _))
      clear hK K
      try simp only [Act.put, List.setIfInBounds_toArray, List.set_cons_zero, List.set_cons_succ]
      refine wpAnyH_ready (rs := [4]) (by kernel_rfl) (by simp) ?_
      refine AllReadyH.cons (by (try simp only [List.getElem?_toArray, List.getElem?_cons_zero, List.getElem?_cons_succ]); first | done | rfl) (fun K hK => ?_) AllReadyH.nil
      go_simp
      refine Calls.mono (pick_any (a := a1) (len := len1) (cap := cap1) (k := k5) (by with_reducible repeat (first | exact R5 | apply Rd.drewN | apply Rd.drew | apply Rd.alloc)) (by omega) (by omega) (by omega)) ?_
      rintro e w' ⟨p', m', r0, r1, rfl, rfl⟩
      refine hK.out _ _ ?_ (fun hHeld => ?_)
      · (try dsimp only)
        first | with_reducible assumption | (refine held2_of ?_ ?_ <;> with_reducible repeat (first | exact HV.out | exact HW.out | apply Blk.drewN | apply Blk.drew | apply Blk.alloc | refine Blk.other ?_ n1 _ | refine Blk.other ?_ n2 _ | refine Blk.other ?_ n9 _ | refine Blk.other ?_ n10 _ | refine Blk.other ?_ n11 _ | refine Blk.other ?_ n12 _))
      clear hK K
      try simp only [Act.put, List.setIfInBounds_toArray, List.set_cons_zero, List.set_cons_succ]
      refine wpAnyH_take (i := 5) (v := ?_) (by (try simp only [List.getElem?_toArray, List.getElem?_cons_zero, List.getElem?_cons_succ]); first | done | rfl) (by kernel_rfl) (by kernel_rfl) (by kernel_rfl) (fun _ _ _ h => h) (Or.inl ⟨by rfl, ?_⟩) (by assumption) ?_
      rotate_left 1
      · (intro wz hSw; (try dsimp only at hSw); go_simp; try with_reducible rfl)
      try simp only [Act.put, List.setIfInBounds_toArray, List.set_cons_zero, List.set_cons_succ]
      refine wpAnyH_ready (rs := [6, 7]) (by kernel_rfl) (by simp) ?_
      refine AllReadyH.cons (by (try simp only [List.getElem?_toArray, List.getElem?_cons_zero, List.getElem?_cons_succ]); first | done | rfl) (fun K hK => ?_) (AllReadyH.cons (by (try simp only [List.getElem?_toArray, List.getElem?_cons_zero, List.getElem?_cons_succ]); first | done | rfl) (fun K hK => ?_) AllReadyH.nil)
      · go_simp
        refine hK.out _ _ ?_ (fun hHeld => ?_)
        · (try dsimp only)
          first | with_reducible assumption | (refine held2_of ?_ ?_ <;> with_reducible repeat (first | exact HV.out | exact HW.out | apply Blk.drewN | apply Blk.drew | apply Blk.alloc | refine Blk.other ?_ n1 _ | refine Blk.other ?_ n2 _ | refine Blk.other ?_ n9 _ | refine Blk.other ?_ n10 _ | refine Blk.other ?_ n11 _ | refine Blk.other ?_ n12 _))
        clear hK K
        try simp only [Act.put, List.setIfInBounds_toArray, List.set_cons_zero, List.set_cons_succ]
        refine wpAnyH_ready (rs := [7]) (by kernel_rfl) (by simp) ?_
        refine AllReadyH.cons (by (try simp only [List.getElem?_toArray, List.getElem?_cons_zero, List.getElem?_cons_succ]); first | done | rfl) (fun K hK => ?_) AllReadyH.nil
        go_simp
        refine hK.out _ _ ?_ (fun hHeld => ?_)
        · (try dsimp only)
          first | with_reducible assumption | (refine held2_of ?_ ?_ <;> with_reducible repeat (first | exact HV.out | exact HW.out | apply Blk.drewN | apply Blk.drew | apply Blk.alloc | refine Blk.other ?_ n1 _ | refine Blk.other ?_ n2 _ | refine Blk.other ?_ n9 _ | refine Blk.other ?_ n10 _ | refine Blk.other ?_ n11 _ | refine Blk.other ?_ n12 _))
        clear hK K
        try simp only [Act.put, List.setIfInBounds_toArray, List.set_cons_zero, List.set_cons_succ]
        refine wpAnyH_ready (rs := [8]) (by kernel_rfl) (by simp) ?_
        refine AllReadyH.cons (by (try simp only [List.getElem?_toArray, List.getElem?_cons_zero, List.getElem?_cons_succ]); first | done | rfl) (fun K hK => ?_) AllReadyH.nil
        go_simp
        refine hK.out _ _ ?_ (fun hHeld => ?_)
        · (try dsimp only)
          first | with_reducible assumption | (refine held2_of ?_ ?_ <;> with_reducible repeat (first | exact HV.out | exact HW.out | apply Blk.drewN | apply Blk.drew | apply Blk.alloc | refine Blk.other ?_ n1 _ | refine Blk.other ?_ n2 _ | refine Blk.other ?_ n9 _ | refine Blk.other ?_ n10 _ | refine Blk.other ?_ n11 _ | refine Blk.other ?_ n12 _))
        clear hK K
        try simp only [Act.put, List.setIfInBounds_toArray, List.set_cons_zero, List.set_cons_succ]
        refine wpAnyH_take (i := 9) (v := ?_) (by (try simp only [List.getElem?_toArray, List.getElem?_cons_zero, List.getElem?_cons_succ]); first | done | rfl) (by kernel_rfl) (by kernel_rfl) (by kernel_rfl) (fun _ _ _ h => h) (Or.inl ⟨by rfl, ?_⟩) (by assumption) ?_
        rotate_left 1
        · (intro wz hSw; (try dsimp only at hSw); go_simp; try with_reducible rfl)
        try simp only [Act.put, List.setIfInBounds_toArray, List.set_cons_zero, List.set_cons_succ]
        refine wpAnyH_done (by kernel_rfl) ?_ _
        refine NoPanic.normal ?_
        have hbw := bW_fin p' r0 r1
        go_wp2_with fail
        refine bodyPost_ret (results_two_two (a1 := x1) (b1 := y1) (c1 := x2) (d1 := y2) (e1 := x3) (f1 := y3) (g1 := x4) (h1 := y4) (a2 := z1) (b2 := t1) (c2 := z2) (d2 := t2) (e2 := z3) (f2 := t3) (g2 := z4) (h2 := t4) rfl _ rfl rfl ?_ ?_) rfl ?_
        · with_reducible repeat (first | exact HP.out | apply Blk.set4 (a := 0) (b := 0) (c := 0) (d := 0) (e := 0) (f := 0) (g := 0) (h := 0) | refine Blk.not4 ?_ (by omega) _ _ _ _ | apply Blk.drewN | apply Blk.drew | apply Blk.alloc | refine Blk.other ?_ (by simp; omega) _)
        · with_reducible repeat (first | exact HQ.out | apply Blk.set4 (a := 0) (b := 0) (c := 0) (d := 0) (e := 0) (f := 0) (g := 0) (h := 0) | refine Blk.not4 ?_ (by omega) _ _ _ _ | apply Blk.drewN | apply Blk.drew | apply Blk.alloc | refine Blk.other ?_ (by simp; omega) _)
        · refine ⟨_, ⟨_, _, _, _, _, _, _, _, _, _, _, _, _, _, _, _, _, rfl, hbw⟩, rfl, ?_⟩
          with_reducible repeat (first | exact HL.out | apply below_drewN | apply below_drew | apply below_allocS | refine below_set ?_ (by omega))
      · go_simp
        refine hK.out _ _ ?_ (fun hHeld => ?_)
        · (try dsimp only)
          first | with_reducible assumption | (refine held2_of ?_ ?_ <;> with_reducible repeat (first | exact HV.out | exact HW.out | apply Blk.drewN | apply Blk.drew | apply Blk.alloc | refine Blk.other ?_ n1 _ | refine Blk.other ?_ n2 _ | refine Blk.other ?_ n9 _ | refine Blk.other ?_ n10 _ | refine Blk.other ?_ n11 _ | refine Blk.other ?_ n12 _))
        clear hK K
        try simp only [Act.put, List.setIfInBounds_toArray, List.set_cons_zero, List.set_cons_succ]
        refine wpAnyH_ready (rs := [6, 8]) (by kernel_rfl) (by simp) ?_
        refine AllReadyH.cons (by (try simp only [List.getElem?_toArray, List.getElem?_cons_zero, List.getElem?_cons_succ]); first | done | rfl) (fun K hK => ?_) (AllReadyH.cons (by (try simp only [List.getElem?_toArray, List.getElem?_cons_zero, List.getElem?_cons_succ]); first | done | rfl) (fun K hK => ?_) AllReadyH.nil)
        · go_simp
          refine hK.out _ _ ?_ (fun hHeld => ?_)
          · (try dsimp only)
            first | with_reducible assumption | (refine held2_of ?_ ?_ <;> with_reducible repeat (first | exact HV.out | exact HW.out | apply Blk.drewN | apply Blk.drew | apply Blk.alloc | refine Blk.other ?_ n1 _ | refine Blk.other ?_ n2 _ | refine Blk.other ?_ n9 _ | refine Blk.other ?_ n10 _ | refine Blk.other ?_ n11 _ | refine Blk.other ?_ n12 _))
          clear hK K
          try simp only [Act.put, List.setIfInBounds_toArray, List.set_cons_zero, List.set_cons_succ]
          refine wpAnyH_ready (rs := [8]) (by kernel_rfl) (by simp) ?_
          refine AllReadyH.cons (by (try simp only [List.getElem?_toArray, List.getElem?_cons_zero, List.getElem?_cons_succ]); first | done | rfl) (fun K hK => ?_) AllReadyH.nil
          go_simp
          refine hK.out _ _ ?_ (fun hHeld => ?_)
          · (try dsimp only)
            first | with_reducible assumption | (refine held2_of ?_ ?_ <;> with_reducible repeat (first | exact HV.out | exact HW.out | apply Blk.drewN | apply Blk.drew | apply Blk.alloc | refine Blk.other ?_ n1 _ | refine Blk.other ?_ n2 _ | refine Blk.other ?_ n9 _ | refine Blk.other ?_ n10 _ | refine Blk.other ?_ n11 _ | refine Blk.other ?_ n12 _))
          clear hK K
          try simp only [Act.put, List.setIfInBounds_toArray, List.set_cons_zero, List.set_cons_succ]
          refine wpAnyH_take (i := 9) (v := ?_) (by (try simp only [List.getElem?_toArray, List.getElem?_cons_zero, List.getElem?_cons_succ]); first | done | rfl) (by kernel_rfl) (by kernel_rfl) (by kernel_rfl) (fun _ _ _ h => h) (Or.inl ⟨by rfl, ?_⟩) (by assumption) ?_
          rotate_left 1
          · (intro wz hSw; (try dsimp only at hSw); go_simp; try with_reducible rfl)
          try simp only [Act.put, List.setIfInBounds_toArray, List.set_cons_zero, List.set_cons_succ]
          refine wpAnyH_done (by kernel_rfl) ?_ _
          refine NoPanic.normal ?_
          have hbw := bW_fin p' r0 r1
          go_wp2_with fail
          refine bodyPost_ret (results_two_two (a1 := x1) (b1 := y1) (c1 := x2) (d1 := y2) (e1 := x3) (f1 := y3) (g1 := x4) (h1 := y4) (a2 := z1) (b2 := t1) (c2 := z2) (d2 := t2) (e2 := z3) (f2 := t3) (g2 := z4) (h2 := t4) rfl _ rfl rfl ?_ ?_) rfl ?_
          · with_reducible repeat (first | exact HP.out | apply Blk.set4 (a := 0) (b := 0) (c := 0) (d := 0) (e := 0) (f := 0) (g := 0) (h := 0) | refine Blk.not4 ?_ (by omega) _ _ _ _ | apply Blk.drewN | apply Blk.drew | apply Blk.alloc | refine Blk.other ?_ (by simp; omega) _)
          · with_reducible repeat (first | exact HQ.out | apply Blk.set4 (a := 0) (b := 0) (c := 0) (d := 0) (e := 0) (f := 0) (g := 0) (h := 0) | refine Blk.not4 ?_ (by omega) _ _ _ _ | apply Blk.drewN | apply Blk.drew | apply Blk.alloc | refine Blk.other ?_ (by simp; omega) _)
          · refine ⟨_, ⟨_, _, _, _, _, _, _, _, _, _, _, _, _, _, _, _, _, rfl, hbw⟩, rfl, ?_⟩
            with_reducible repeat (first | exact HL.out | apply below_drewN | apply below_drew | apply below_allocS | refine below_set ?_ (by omega))
        · go_simp
          refine hK.out _ _ ?_ (fun hHeld => ?_)
          · (try dsimp only)
            first | with_reducible assumption | (refine held2_of ?_ ?_ <;> with_reducible repeat (first | exact HV.out | exact HW.out | apply Blk.drewN | apply Blk.drew | apply Blk.alloc | refine Blk.other ?_ n1 _ | refine Blk.other ?_ n2 _ | refine Blk.other ?_ n9 _ | refine Blk.other ?_ n10 _ | refine Blk.other ?_ n11 _ | refine Blk.other ?_ n12 _))
          clear hK K
          try simp only [Act.put, List.setIfInBounds_toArray, List.set_cons_zero, List.set_cons_succ]
          refine wpAnyH_ready (rs := [6]) (by kernel_rfl) (by simp) ?_
          refine AllReadyH.cons (by (try simp only [List.getElem?_toArray, List.getElem?_cons_zero, List.getElem?_cons_succ]); first | done | rfl) (fun K hK => ?_) AllReadyH.nil
          go_simp
          refine hK.out _ _ ?_ (fun hHeld => ?_)
          · (try dsimp only)
            first | with_reducible assumption | (refine held2_of ?_ ?_ <;> with_reducible repeat (first | exact HV.out | exact HW.out | apply Blk.drewN | apply Blk.drew | apply Blk.alloc | refine Blk.other ?_ n1 _ | refine Blk.other ?_ n2 _ | refine Blk.other ?_ n9 _ | refine Blk.other ?_ n10 _ | refine Blk.other ?_ n11 _ | refine Blk.other ?_ n12 _))
          clear hK K
          try simp only [Act.put, List.setIfInBounds_toArray, List.set_cons_zero, List.set_cons_succ]
          refine wpAnyH_take (i := 9) (v := ?_) (by (try simp only [List.getElem?_toArray, List.getElem?_cons_zero, List.getElem?_cons_succ]); first | done | rfl) (by kernel_rfl) (by kernel_rfl) (by kernel_rfl) (fun _ _ _ h => h) (Or.inl ⟨by rfl, ?_⟩) (by assumption) ?_
          rotate_left 1
          · (intro wz hSw; (try dsimp only at hSw); go_simp; try with_reducible rfl)
          try simp only [Act.put, List.setIfInBounds_toArray, List.set_cons_zero, List.set_cons_succ]
          refine wpAnyH_done (by kernel_rfl) ?_ _
          refine NoPanic.normal ?_
          have hbw := bW_fin p' r0 r1
          go_wp2_with fail
          refine bodyPost_ret (results_two_two (a1 := x1) (b1 := y1) (c1 := x2) (d1 := y2) (e1 := x3) (f1 := y3) (g1 := x4) (h1 := y4) (a2 := z1) (b2 := t1) (c2 := z2) (d2 := t2) (e2 := z3) (f2 := t3) (g2 := z4) (h2 := t4) rfl _ rfl rfl ?_ ?_) rfl ?_
          · with_reducible repeat (first | exact HP.out | apply Blk.set4 (a := 0) (b := 0) (c := 0) (d := 0) (e := 0) (f := 0) (g := 0) (h := 0) | refine Blk.not4 ?_ (by omega) _ _ _ _ | apply Blk.drewN | apply Blk.drew | apply Blk.alloc | refine Blk.other ?_ (by simp; omega) _)
          · with_reducible repeat (first | exact HQ.out | apply Blk.set4 (a := 0) (b := 0) (c := 0) (d := 0) (e := 0) (f := 0) (g := 0) (h := 0) | refine Blk.not4 ?_ (by omega) _ _ _ _ | apply Blk.drewN | apply Blk.drew | apply Blk.alloc | refine Blk.other ?_ (by simp; omega) _)
          · refine ⟨_, ⟨_, _, _, _, _, _, _, _, _, _, _, _, _, _, _, _, _, rfl, hbw⟩, rfl, ?_⟩
            with_reducible repeat (first | exact HL.out | apply below_drewN | apply below_drew | apply below_allocS | refine below_set ?_ (by omega))
    · go_simp
      refine Calls.mono (pick_any (a := a1) (len := len1) (cap := cap1) (k := k5) (by with_reducible repeat (first | exact R5 | apply Rd.drewN | apply Rd.drew | apply Rd.alloc)) (by omega) (by omega) (by omega)) ?_
      rintro e w' ⟨p', m', r0, r1, rfl, rfl⟩
      refine hK.out _ _ ?_ (fun hHeld => ?_)
      · (try dsimp only)
        first | with_reducible assumption | (refine held2_of ?_ ?_ <;> with_reducible repeat (first | exact HV.out | exact HW.out | apply Blk.drewN | apply Blk.drew | apply Blk.alloc | refine Blk.other ?_ n1 _ | refine Blk.other ?_ n2 _ | refine Blk.other ?_ n9 _ | refine Blk.other ?_ n10 _ | refine Blk.other ?_ n11 _ | refine Blk.other ?_ n12 _))
      clear hK K
      try simp only [Act.put, List.setIfInBounds_toArray, List.set_cons_zero, List.set_cons_succ]
      refine wpAnyH_ready (rs := [2, 7]) (by kernel_rfl) (by simp) ?_
      refine AllReadyH.cons (by (try simp only [List.getElem?_toArray, List.getElem?_cons_zero, List.getElem?_cons_succ]); first | done | rfl) (fun K hK => ?_) (AllReadyH.cons (by (try simp only [List.getElem?_toArray, List.getElem?_cons_zero, List.getElem?_cons_succ]); first | done | rfl) (fun K hK => ?_) AllReadyH.nil)
      · go_simp
        refine hK.out _ _ ?_ (fun hHeld => ?_)
        · (try dsimp only)
          first | with_reducible assumption | (refine held2_of ?_ ?_ <;> with_reducible repeat (first | exact HV.out | exact HW.out | apply Blk.drewN | apply Blk.drew | apply Blk.alloc | refine Blk.other ?_ n1 _ | refine Blk.other ?_ n2 _ | refine Blk.other ?_ n9 _ | refine Blk.other ?_ n10 _ | refine Blk.other ?_ n11 _ | refine Blk.other ?_ n12 _))
        clear hK K
        try simp only [Act.put, List.setIfInBounds_toArray, List.set_cons_zero, List.set_cons_succ]
        refine wpAnyH_take (i := 5) (v := ?_) (by (try simp only [List.getElem?_toArray, List.getElem?_cons_zero, List.getElem?_cons_succ]); first | done | rfl) (by kernel_rfl) (by kernel_rfl) (by kernel_rfl) (fun _ _ _ h => h) (Or.inl ⟨by rfl, ?_⟩) (by assumption) ?_
        rotate_left 1
        · (intro wz hSw; (try dsimp only at hSw); go_simp; try with_reducible rfl)
        try simp only [Act.put, List.setIfInBounds_toArray, List.set_cons_zero, List.set_cons_succ]
        refine wpAnyH_ready (rs := [6, 7]) (by kernel_rfl) (by simp) ?_
        refine AllReadyH.cons (by (try simp only [List.getElem?_toArray, List.getElem?_cons_zero, List.getElem?_cons_succ]); first | done | rfl) (fun K hK => ?_) (AllReadyH.cons (by (try simp only [List.getElem?_toArray, List.getElem?_cons_zero, List.getElem?_cons_succ]); first | done | rfl) (fun K hK => ?_) AllReadyH.nil)
        · go_simp
          refine hK.out _ _ ?_ (fun hHeld => ?_)
          · (try dsimp only)
            first | with_reducible assumption | (refine held2_of ?_ ?_ <;> with_reducible repeat (first | exact HV.out | exact HW.out | apply Blk.drewN | apply Blk.drew | apply Blk.alloc | refine Blk.other ?_ n1 _ | refine Blk.other ?_ n2 _ | refine Blk.other ?_ n9 _ | refine Blk.other ?_ n10 _ | refine Blk.other ?_ n11 _ | refine Blk.other ?_ n12 _))
          clear hK K
          try simp only [Act.put, List.setIfInBounds_toArray, List.set_cons_zero, List.set_cons_succ]
          refine wpAnyH_ready (rs := [7]) (by kernel_rfl) (by simp) ?_
          refine AllReadyH.cons (by (try simp only [List.getElem?_toArray, List.getElem?_cons_zero, List.getElem?_cons_succ]); first | done | rfl) (fun K hK => ?_) AllReadyH.nil
          go_simp
          refine hK.out _ _ ?_ (fun hHeld => ?_)
          · (try dsimp only)
            first | with_reducible assumption | (refine held2_of ?_ ?_ <;> with_reducible repeat (first | exact HV.out | exact HW.out | apply Blk.drewN | apply Blk.drew | apply Blk.alloc | refine Blk.other ?_ n1 _ | refine Blk.other ?_ n2 _ | refine Blk.other ?_ n9 _ | refine Blk.other ?_ n10 _ | refine Blk.other ?_ n11 _ | refine Blk.other ?_ n12 _))
          clear hK K
          try simp only [Act.put, List.setIfInBounds_toArray, List.set_cons_zero, List.set_cons_succ]
          refine wpAnyH_ready (rs := [8]) (by kernel_rfl) (by simp) ?_
          refine AllReadyH.cons (by (try simp only [List.getElem?_toArray, List.getElem?_cons_zero, List.getElem?_cons_succ]); first | done | rfl) (fun K hK => ?_) AllReadyH.nil
          go_simp
          refine hK.out _ _ ?_ (fun hHeld => ?_)
          · (try dsimp only)
            first | with_reducible assumption | (refine held2_of ?_ ?_ <;> with_reducible repeat (first | exact HV.out | exact HW.out | apply Blk.drewN | apply Blk.drew | apply Blk.alloc | refine Blk.other ?_ n1 _ | refine Blk.other ?_ n2 _ | refine Blk.other ?_ n9 _ | refine Blk.other ?_ n10 _ | refine Blk.other ?_ n11 _ | refine Blk.other ?_ n12 _))
          clear hK K
          try simp only [Act.put, List.setIfInBounds_toArray, List.set_cons_zero, List.set_cons_succ]
          refine wpAnyH_take (i := 9) (v := ?_) (by (try simp only [List.getElem?_toArray, List.getElem?_cons_zero, List.getElem?_cons_succ]); first | done | rfl) (by kernel_rfl) (by kernel_rfl) (by kernel_rfl) (fun _ _ _ h => h) (Or.inl ⟨by rfl, ?_⟩) (by assumption) ?_
          rotate_left 1
          · (intro wz hSw; (try dsimp only at hSw); go_simp; try with_reducible rfl)
          try simp only [Act.put, List.setIfInBounds_toArray, List.set_cons_zero, List.set_cons_succ]
          refine wpAnyH_done (by kernel_rfl) ?_ _
          refine NoPanic.normal ?_
          have hbw := bW_fin p' r0 r1
          go_wp2_with fail
          refine bodyPost_ret (results_two_two (a1 := x1) (b1 := y1) (c1 := x2) (d1 := y2) (e1 := x3) (f1 := y3) (g1 := x4) (h1 := y4) (a2 := z1) (b2 := t1) (c2 := z2) (d2 := t2) (e2 := z3) (f2 := t3) (g2 := z4) (h2 := t4) rfl _ rfl rfl ?_ ?_) rfl ?_
          · with_reducible repeat (first | exact HP.out | apply Blk.set4 (a := 0) (b := 0) (c := 0) (d := 0) (e := 0) (f := 0) (g := 0) (h := 0) | refine Blk.not4 ?_ (by omega) _ _ _ _ | apply Blk.drewN | apply Blk.drew | apply Blk.alloc | refine Blk.other ?_ (by simp; omega) _)
          · with_reducible repeat (first | exact HQ.out | apply Blk.set4 (a := 0) (b := 0) (c := 0) (d := 0) (e := 0) (f := 0) (g := 0) (h := 0) | refine Blk.not4 ?_ (by omega) _ _ _ _ | apply Blk.drewN | apply Blk.drew | apply Blk.alloc | refine Blk.other ?_ (by simp; omega) _)
          · refine ⟨_, ⟨_, _, _, _, _, _, _, _, _, _, _, _, _, _, _, _, _, rfl, hbw⟩, rfl, ?_⟩
            with_reducible repeat (first | exact HL.out | apply below_drewN | apply below_drew | apply below_allocS | refine below_set ?_ (by omega))
        · go_simp
          refine hK.out _ _ ?_ (fun hHeld => ?_)
          · (try dsimp only)
            first | with_reducible assumption | (refine held2_of ?_ ?_ <;> with_reducible repeat (first | exact HV.out | exact HW.out | apply Blk.drewN | apply Blk.drew | apply Blk.alloc | refine Blk.other ?_ n1 _ | refine Blk.other ?_ n2 _ | refine Blk.other ?_ n9 _ | refine Blk.other ?_ n10 _ | refine Blk.other ?_ n11 _ | refine Blk.other ?_ n12 _))
          clear hK K
          try simp only [Act.put, List.setIfInBounds_toArray, List.set_cons_zero, List.set_cons_succ]
          refine wpAnyH_ready (rs := [6, 8]) (by kernel_rfl) (by simp) ?_
          refine AllReadyH.cons (by (try simp only [List.getElem?_toArray, List.getElem?_cons_zero, List.getElem?_cons_succ]); first | done | rfl) (fun K hK => ?_) (AllReadyH.cons (by (try simp only [List.getElem?_toArray, List.getElem?_cons_zero, List.getElem?_cons_succ]); first | done | rfl) (fun K hK => ?_) AllReadyH.nil)
          · go_simp
            refine hK.out _ _ ?_ (fun hHeld => ?_)
            · (try dsimp only)
              first | with_reducible assumption | (refine held2_of ?_ ?_ <;> with_reducible repeat (first | exact HV.out | exact HW.out | apply Blk.drewN | apply Blk.drew | apply Blk.alloc | refine Blk.other ?_ n1 _ | refine Blk.other ?_ n2 _ | refine Blk.other ?_ n9 _ | refine Blk.other ?_ n10 _ | refine Blk.other ?_ n11 _ | refine Blk.other ?_ n12 _))
            clear hK K
            try simp only [Act.put, List.setIfInBounds_toArray, List.set_cons_zero, List.set_cons_succ]
            refine wpAnyH_ready (rs := [8]) (by kernel_rfl) (by simp) ?_
            refine AllReadyH.cons (by (try simp only [List.getElem?_toArray, List.getElem?_cons_zero, List.getElem?_cons_succ]); first | done | rfl) (fun K hK => ?_) AllReadyH.nil
            go_simp
            refine hK.out _ _ ?_ (fun hHeld => ?_)
            · (try dsimp only)
              first | with_reducible assumption | (refine held2_of ?_ ?_ <;> with_reducible repeat (first | exact HV.out | exact HW.out | apply Blk.drewN | apply Blk.drew | apply Blk.alloc | refine Blk.other ?_ n1 _ | refine Blk.other ?_ n2 _ | refine Blk.other ?_ n9 _ | refine Blk.other ?_ n10 _ | refine Blk.other ?_ n11 _ | refine Blk.other ?_ n12 _))
            clear hK K
            try simp only [Act.put, List.setIfInBounds_toArray, List.set_cons_zero, List.set_cons_succ]
            refine wpAnyH_take (i := 9) (v := ?_) (by (try simp only [List.getElem?_toArray, List.getElem?_cons_zero, List.getElem?_cons_succ]); first | done | rfl) (by kernel_rfl) (by kernel_rfl) (by kernel_rfl) (fun _ _ _ h => h) (Or.inl ⟨by rfl, ?_⟩) (by assumption) ?_
            rotate_left 1
            · (intro wz hSw; (try dsimp only at hSw); go_simp; try with_reducible rfl)
            try simp only [Act.put, List.setIfInBounds_toArray, List.set_cons_zero, List.set_cons_succ]
            refine wpAnyH_done (by kernel_rfl) ?_ _
            refine NoPanic.normal ?_
            have hbw := bW_fin p' r0 r1
            go_wp2_with fail
            refine bodyPost_ret (results_two_two (a1 := x1) (b1 := y1) (c1 := x2) (d1 := y2) (e1 := x3) (f1 := y3) (g1 := x4) (h1 := y4) (a2 := z1) (b2 := t1) (c2 := z2) (d2 := t2) (e2 := z3) (f2 := t3) (g2 := z4) (h2 := t4) rfl _ rfl rfl ?_ ?_) rfl ?_
            · with_reducible repeat (first | exact HP.out | apply Blk.set4 (a := 0) (b := 0) (c := 0) (d := 0) (e := 0) (f := 0) (g := 0) (h := 0) | refine Blk.not4 ?_ (by omega) _ _ _ _ | apply Blk.drewN | apply Blk.drew | apply Blk.alloc | refine Blk.other ?_ (by simp; omega) _)
            · with_reducible repeat (first | exact HQ.out | apply Blk.set4 (a := 0) (b := 0) (c := 0) (d := 0) (e := 0) (f := 0) (g := 0) (h := 0) | refine Blk.not4 ?_ (by omega) _ _ _ _ | apply Blk.drewN | apply Blk.drew | apply Blk.alloc | refine Blk.other ?_ (by simp; omega) _)
            · refine ⟨_, ⟨_, _, _, _, _, _, _, _, _, _, _, _, _, _, _, _, _, rfl, hbw⟩, rfl, ?_⟩
              with_reducible repeat (first | exact HL.out | apply below_drewN | apply below_drew | apply below_allocS | refine below_set ?_ (by omega))
          · go_simp
            refine hK.out _ _ ?_ (fun hHeld => ?_)
            · (try dsimp only)
              first | with_reducible assumption | (refine held2_of ?_ ?_ <;> with_reducible repeat (first | exact HV.out | exact HW.out | apply Blk.drewN | apply Blk.drew | apply Blk.alloc | refine Blk.other ?_ n1 _ | refine Blk.other ?_ n2 _ | refine Blk.other ?_ n9 _ | refine Blk.other ?_ n10 _ | refine Blk.other ?_ n11 _ | refine Blk.other ?_ n12 _))
            clear hK K
            try simp only [Act.put, List.setIfInBounds_toArray, List.set_cons_zero, List.set_cons_succ]
            refine wpAnyH_ready (rs := [6]) (by kernel_rfl) (by simp) ?_
            refine AllReadyH.cons (by (try simp only [List.getElem?_toArray, List.getElem?_cons_zero, List.getElem?_cons_succ]); first | done | rfl) (fun K hK => ?_) AllReadyH.nil
            go_simp
            refine hK.out _ _ ?_ (fun hHeld => ?_)
            · (try dsimp only)
              first | with_reducible assumption | (refine held2_of ?_ ?_ <;> with_reducible repeat (first | exact HV.out | exact HW.out | apply Blk.drewN | apply Blk.drew | apply Blk.alloc | refine Blk.other ?_ n1 _ | refine Blk.other ?_ n2 _ | refine Blk.other ?_ n9 _ | refine Blk.other ?_ n10 _ | refine Blk.other ?_ n11 _ | refine Blk.other ?_ n12 _))
            clear hK K
            try simp only [Act.put, List.setIfInBounds_toArray, List.set_cons_zero, List.set_cons_succ]
            refine wpAnyH_take (i := 9) (v := ?_) (by (try simp only [List.getElem?_toArray, List.getElem?_cons_zero, List.getElem?_cons_succ]); first | done | rfl) (by kernel_rfl) (by kernel_rfl) (by kernel_rfl) (fun _ _ _ h => h) (Or.inl ⟨by rfl, ?_⟩) (by assumption) ?_
            rotate_left 1
            · (intro wz hSw; (try dsimp only at hSw); go_simp; try with_reducible rfl)
            try simp only [Act.put, List.setIfInBounds_toArray, List.set_cons_zero, List.set_cons_succ]
            refine wpAnyH_done (by kernel_rfl) ?_ _
            refine NoPanic.normal ?_
            have hbw := bW_fin p' r0 r1
            go_wp2_with fail
            refine bodyPost_ret (results_two_two (a1 := x1) (b1 := y1) (c1 := x2) (d1 := y2) (e1 := x3) (f1 := y3) (g1 := x4) (h1 := y4) (a2 := z1) (b2 := t1) (c2 := z2) (d2 := t2) (e2 := z3) (f2 := t3) (g2 := z4) (h2 := t4) rfl _ rfl rfl ?_ ?_) rfl ?_
            · with_reducible repeat (first | exact HP.out | apply Blk.set4 (a := 0) (b := 0) (c := 0) (d := 0) (e := 0) (f := 0) (g := 0) (h := 0) | refine Blk.not4 ?_ (by omega) _ _ _ _ | apply Blk.drewN | apply Blk.drew | apply Blk.alloc | refine Blk.other ?_ (by simp; omega) _)
            · with_reducible repeat (first | exact HQ.out | apply Blk.set4 (a := 0) (b := 0) (c := 0) (d := 0) (e := 0) (f := 0) (g := 0) (h := 0) | refine Blk.not4 ?_ (by omega) _ _ _ _ | apply Blk.drewN | apply Blk.drew | apply Blk.alloc | refine Blk.other ?_ (by simp; omega) _)
            · refine ⟨_, ⟨_, _, _, _, _, _, _, _, _, _, _, _, _, _, _, _, _, rfl, hbw⟩, rfl, ?_⟩
              with_reducible repeat (first | exact HL.out | apply below_drewN | apply below_drew | apply below_allocS | refine below_set ?_ (by omega))
      · go_simp
        refine hK.out _ _ ?_ (fun hHeld => ?_)
        · (try dsimp only)
          first | with_reducible assumption | (refine held2_of ?_ ?_ <;> with_reducible repeat (first | exact HV.out | exact HW.out | apply Blk.drewN | apply Blk.drew | apply Blk.alloc | refine Blk.other ?_ n1 _ | refine Blk.other ?_ n2 _ | refine Blk.other ?_ n9 _ | refine Blk.other ?_ n10 _ | refine Blk.other ?_ n11 _ | refine Blk.other ?_ n12 _))
        clear hK K
        try simp only [Act.put, List.setIfInBounds_toArray, List.set_cons_zero, List.set_cons_succ]
        refine wpAnyH_ready (rs := [2, 8]) (by kernel_rfl) (by simp) ?_
        refine AllReadyH.cons (by (try simp only [List.getElem?_toArray, List.getElem?_cons_zero, List.getElem?_cons_succ]); first | done | rfl) (fun K hK => ?_) (AllReadyH.cons (by (try simp only [List.getElem?_toArray, List.getElem?_cons_zero, List.getElem?_cons_succ]); first | done | rfl) (fun K hK => ?_) AllReadyH.nil)
        · go_simp
          refine hK.out _ _ ?_ (fun hHeld => ?_)
          · (try dsimp only)
            first | with_reducible assumption | (refine held2_of ?_ ?_ <;> with_reducible repeat (first | exact HV.out | exact HW.out | apply Blk.drewN | apply Blk.drew | apply Blk.alloc | refine Blk.other ?_ n1 _ | refine Blk.other ?_ n2 _ | refine Blk.other ?_ n9 _ | refine Blk.other ?_ n10 _ | refine Blk.other ?_ n11 _ | refine Blk.other ?_ n12 _))
          clear hK K
          try simp only [Act.put, List.setIfInBounds_toArray, List.set_cons_zero, List.set_cons_succ]
          refine wpAnyH_take (i := 5) (v := ?_) (by (try simp only [List.getElem?_toArray, List.getElem?_cons_zero, List.getElem?_cons_succ]); first | done | rfl) (by kernel_rfl) (by kernel_rfl) (by kernel_rfl) (fun _ _ _ h => h) (Or.inl ⟨by rfl, ?_⟩) (by assumption) ?_
          rotate_left 1
          · (intro wz hSw; (try dsimp only at hSw); go_simp; try with_reducible rfl)
          try simp only [Act.put, List.setIfInBounds_toArray, List.set_cons_zero, List.set_cons_succ]
          refine wpAnyH_ready (rs := [6, 8]) (by kernel_rfl) (by simp) ?_
          refine AllReadyH.cons (by (try simp only [List.getElem?_toArray, List.getElem?_cons_zero, List.getElem?_cons_succ]); first | done | rfl) (fun K hK => ?_) (AllReadyH.cons (by (try simp only [List.getElem?_toArray, List.getElem?_cons_zero, List.getElem?_cons_succ]); first | done | rfl) (fun K hK => ?_) AllReadyH.nil)
          · go_simp
            refine hK.out _ _ ?_ (fun hHeld => ?_)
            · (try dsimp only)
              first | with_reducible assumption | (refine held2_of ?_ ?_ <;> with_reducible repeat (first | exact HV.out | exact HW.out | apply Blk.drewN | apply Blk.drew | apply Blk.alloc | refine Blk.other ?_ n1 _ | refine Blk.other ?_ n2 _ | refine Blk.other ?_ n9 _ | refine Blk.other ?_ n10 _ | refine Blk.other ?_ n11 _ | refine Blk.other ?_ n12 _))
            clear hK K
            try simp only [Act.put, List.setIfInBounds_toArray, List.set_cons_zero, List.set_cons_succ]
            refine wpAnyH_ready (rs := [8]) (by kernel_rfl) (by simp) ?_
            refine AllReadyH.cons (by (try simp only [List.getElem?_toArray, List.getElem?_cons_zero, List.getElem?_cons_succ]); first | done | rfl) (fun K hK => ?_) AllReadyH.nil
            go_simp
            refine hK.out _ _ ?_ (fun hHeld => ?_)
            · (try dsimp only)
              first | with_reducible assumption | (refine held2_of ?_ ?_ <;> with_reducible repeat (first | exact HV.out | exact HW.out | apply Blk.drewN | apply Blk.drew | apply Blk.alloc | refine Blk.other ?_ n1 _ | refine Blk.other ?_ n2 _ | refine Blk.other ?_ n9 _ | refine Blk.other ?_ n10 _ | refine Blk.other ?_ n11 _ | refine Blk.other ?_ n12 _))
            clear hK K
            try simp only [Act.put, List.setIfInBounds_toArray, List.set_cons_zero, List.set_cons_succ]
            refine wpAnyH_take (i := 9) (v := ?_) (by (try simp only [List.getElem?_toArray, List.getElem?_cons_zero, List.getElem?_cons_succ]); first | done | rfl) (by kernel_rfl) (by kernel_rfl) (by kernel_rfl) (fun _ _ _ h => h) (Or.inl ⟨by rfl, ?_⟩) (by assumption) ?_
            rotate_left 1
            · (intro wz hSw; (try dsimp only at hSw); go_simp; try with_reducible rfl)
            try simp only [Act.put, List.setIfInBounds_toArray, List.set_cons_zero, List.set_cons_succ]
            refine wpAnyH_done (by kernel_rfl) ?_ _
            refine NoPanic.normal ?_
            have hbw := bW_fin p' r0 r1
            go_wp2_with fail
            refine bodyPost_ret (results_two_two (a1 := x1) (b1 := y1) (c1 := x2) (d1 := y2) (e1 := x3) (f1 := y3) (g1 := x4) (h1 := y4) (a2 := z1) (b2 := t1) (c2 := z2) (d2 := t2) (e2 := z3) (f2 := t3) (g2 := z4) (h2 := t4) rfl _ rfl rfl ?_ ?_) rfl ?_
            · with_reducible repeat (first | exact HP.out | apply Blk.set4 (a := 0) (b := 0) (c := 0) (d := 0) (e := 0) (f := 0) (g := 0) (h := 0) | refine Blk.not4 ?_ (by omega) _ _ _ _ | apply Blk.drewN | apply Blk.drew | apply Blk.alloc | refine Blk.other ?_ (by simp; omega) _)
            · with_reducible repeat (first | exact HQ.out | apply Blk.set4 (a := 0) (b := 0) (c := 0) (d := 0) (e := 0) (f := 0) (g := 0) (h := 0) | refine Blk.not4 ?_ (by omega) _ _ _ _ | apply Blk.drewN | apply Blk.drew | apply Blk.alloc | refine Blk.other ?_ (by simp; omega) _)
            · refine ⟨_, ⟨_, _, _, _, _, _, _, _, _, _, _, _, _, _, _, _, _, rfl, hbw⟩, rfl, ?_⟩
              with_reducible repeat (first | exact HL.out | apply below_drewN | apply below_drew | apply below_allocS | refine below_set ?_ (by omega))
          · go_simp
            refine hK.out _ _ ?_ (fun hHeld => ?_)
            · (try dsimp only)
              first | with_reducible assumption | (refine held2_of ?_ ?_ <;> with_reducible repeat (first | exact HV.out | exact HW.out | apply Blk.drewN | apply Blk.drew | apply Blk.alloc | refine Blk.other ?_ n1 _ | refine Blk.other ?_ n2 _ | refine Blk.other ?_ n9 _ | refine Blk.other ?_ n10 _ | refine Blk.other ?_ n11 _ | refine Blk.other ?_ n12 _))
            clear hK K
            try simp only [Act.put, List.setIfInBounds_toArray, List.set_cons_zero, List.set_cons_succ]
            refine wpAnyH_ready (rs := [6]) (by kernel_rfl) (by simp) ?_
            refine AllReadyH.cons (by (try simp only [List.getElem?_toArray, List.getElem?_cons_zero, List.getElem?_cons_succ]); first | done | rfl) (fun K hK => ?_) AllReadyH.nil
            go_simp
            refine hK.out _ _ ?_ (fun hHeld => ?_)
            · (try dsimp only)
              first | with_reducible assumption | (refine held2_of ?_ ?_ <;> with_reducible repeat (first | exact HV.out | exact HW.out | apply Blk.drewN | apply Blk.drew | apply Blk.alloc | refine Blk.other ?_ n1 _ | refine Blk.other ?_ n2 _ | refine Blk.other ?_ n9 _ | refine Blk.other ?_ n10 _ | refine Blk.other ?_ n11 _ | refine Blk.other ?_ n12 _))
            clear hK K
            try simp only [Act.put, List.setIfInBounds_toArray, List.set_cons_zero, List.set_cons_succ]
            refine wpAnyH_take (i := 9) (v := ?_) (by (try simp only [List.getElem?_toArray, List.getElem?_cons_zero, List.getElem?_cons_succ]); first | done | rfl) (by kernel_rfl) (by kernel_rfl) (by kernel_rfl) (fun _ _ _ h => h) (Or.inl ⟨by rfl, ?_⟩) (by assumption) ?_
            rotate_left 1
            · (intro wz hSw; (try dsimp only at hSw); go_simp; try with_reducible rfl)
            try simp only [Act.put, List.setIfInBounds_toArray, List.set_cons_zero, List.set_cons_succ]
            refine wpAnyH_done (by kernel_rfl) ?_ _
            refine NoPanic.normal ?_
            have hbw := bW_fin p' r0 r1
            go_wp2_with fail
            refine bodyPost_ret (results_two_two (a1 := x1) (b1 := y1) (c1 := x2) (d1 := y2) (e1 := x3) (f1 := y3) (g1 := x4) (h1 := y4) (a2 := z1) (b2 := t1) (c2 := z2) (d2 := t2) (e2 := z3) (f2 := t3) (g2 := z4) (h2 := t4) rfl _ rfl rfl ?_ ?_) rfl ?_
            · with_reducible repeat (first | exact HP.out | apply Blk.set4 (a := 0) (b := 0) (c := 0) (d := 0) (e := 0) (f := 0) (g := 0) (h := 0) | refine Blk.not4 ?_ (by omega) _ _ _ _ | apply Blk.drewN | apply Blk.drew | apply Blk.alloc | refine Blk.other ?_ (by simp; omega) _)
            · with_reducible repeat (first | exact HQ.out | apply Blk.set4 (a := 0) (b := 0) (c := 0) (d := 0) (e := 0) (f := 0) (g := 0) (h := 0) | refine Blk.not4 ?_ (by omega) _ _ _ _ | apply Blk.drewN | apply Blk.drew | apply Blk.alloc | refine Blk.other ?_ (by simp; omega) _)
            · refine ⟨_, ⟨_, _, _, _, _, _, _, _, _, _, _, _, _, _, _, _, _, rfl, hbw⟩, rfl, ?_⟩
              with_reducible repeat (first | exact HL.out | apply below_drewN | apply below_drew | apply below_allocS | refine below_set ?_ (by omega))
        · go_simp
          refine hK.out _ _ ?_ (fun hHeld => ?_)
          · (try dsimp only)
            first | with_reducible assumption | (refine held2_of ?_ ?_ <;> with_reducible repeat (first | exact HV.out | exact HW.out | apply Blk.drewN | apply Blk.drew | apply Blk.alloc | refine Blk.other ?_ n1 _ | refine Blk.other ?_ n2 _ | refine Blk.other ?_ n9 _ | refine Blk.other ?_ n10 _ | refine Blk.other ?_ n11 _ | refine Blk.other ?_ n12 _))
          clear hK K
          try simp only [Act.put, List.setIfInBounds_toArray, List.set_cons_zero, List.set_cons_succ]
          refine wpAnyH_ready (rs := [2]) (by kernel_rfl) (by simp) ?_
          refine AllReadyH.cons (by (try simp only [List.getElem?_toArray, List.getElem?_cons_zero, List.getElem?_cons_succ]); first | done | rfl) (fun K hK => ?_) AllReadyH.nil
          go_simp
          refine hK.out _ _ ?_ (fun hHeld => ?_)
          · (try dsimp only)
            first | with_reducible assumption | (refine held2_of ?_ ?_ <;> with_reducible repeat (first | exact HV.out | exact HW.out | apply Blk.drewN | apply Blk.drew | apply Blk.alloc | refine Blk.other ?_ n1 _ | refine Blk.other ?_ n2 _ | refine Blk.other ?_ n9 _ | refine Blk.other ?_ n10 _ | refine Blk.other ?_ n11 _ | refine Blk.other ?_ n12 _))
          clear hK K
          try simp only [Act.put, List.setIfInBounds_toArray, List.set_cons_zero, List.set_cons_succ]
          refine wpAnyH_take (i := 5) (v := ?_) (by (try simp only [List.getElem?_toArray, List.getElem?_cons_zero, List.getElem?_cons_succ]); first | done | rfl) (by kernel_rfl) (by kernel_rfl) (by kernel_rfl) (fun _ _ _ h => h) (Or.inl ⟨by rfl, ?_⟩) (by assumption) ?_
          rotate_left 1
          · (intro wz hSw; (try dsimp only at hSw); go_simp; try with_reducible rfl)
          try simp only [Act.put, List.setIfInBounds_toArray, List.set_cons_zero, List.set_cons_succ]
          refine wpAnyH_ready (rs := [6]) (by kernel_rfl) (by simp) ?_
          refine AllReadyH.cons (by (try simp only [List.getElem?_toArray, List.getElem?_cons_zero, List.getElem?_cons_succ]); first | done | rfl) (fun K hK => ?_) AllReadyH.nil
          go_simp
          refine hK.out _ _ ?_ (fun hHeld => ?_)
          · (try dsimp only)
            first | with_reducible assumption | (refine held2_of ?_ ?_ <;> with_reducible repeat (first | exact HV.out | exact HW.out | apply Blk.drewN | apply Blk.drew | apply Blk.alloc | refine Blk.other ?_ n1 _ | refine Blk.other ?_ n2 _ | refine Blk.other ?_ n9 _ | refine Blk.other ?_ n10 _ | refine Blk.other ?_ n11 _ | refine Blk.other ?_ n12 _))
          clear hK K
          try simp only [Act.put, List.setIfInBounds_toArray, List.set_cons_zero, List.set_cons_succ]
          refine wpAnyH_take (i := 9) (v := ?_) (by (try simp only [List.getElem?_toArray, List.getElem?_cons_zero, List.getElem?_cons_succ]); first | done | rfl) (by kernel_rfl) (by kernel_rfl) (by kernel_rfl) (fun _ _ _ h => h) (Or.inl ⟨by rfl, ?_⟩) (by assumption) ?_
          rotate_left 1
          · (intro wz hSw; (try dsimp only at hSw); go_simp; try with_reducible rfl)
          try simp only [Act.put, List.setIfInBounds_toArray, List.set_cons_zero, List.set_cons_succ]
          refine wpAnyH_done (by kernel_rfl) ?_ _
          refine NoPanic.normal ?_
          have hbw := bW_fin p' r0 r1
          go_wp2_with fail
          refine bodyPost_ret (results_two_two (a1 := x1) (b1 := y1) (c1 := x2) (d1 := y2) (e1 := x3) (f1 := y3) (g1 := x4) (h1 := y4) (a2 := z1) (b2 := t1) (c2 := z2) (d2 := t2) (e2 := z3) (f2 := t3) (g2 := z4) (h2 := t4) rfl _ rfl rfl ?_ ?_) rfl ?_
          · with_reducible repeat (first | exact HP.out | apply Blk.set4 (a := 0) (b := 0) (c := 0) (d := 0) (e := 0) (f := 0) (g := 0) (h := 0) | refine Blk.not4 ?_ (by omega) _ _ _ _ | apply Blk.drewN | apply Blk.drew | apply Blk.alloc | refine Blk.other ?_ (by simp; omega) _)
          · with_reducible repeat (first | exact HQ.out | apply Blk.set4 (a := 0) (b := 0) (c := 0) (d := 0) (e := 0) (f := 0) (g := 0) (h := 0) | refine Blk.not4 ?_ (by omega) _ _ _ _ | apply Blk.drewN | apply Blk.drew | apply Blk.alloc | refine Blk.other ?_ (by simp; omega) _)
          · refine ⟨_, ⟨_, _, _, _, _, _, _, _, _, _, _, _, _, _, _, _, _, rfl, hbw⟩, rfl, ?_⟩
            with_reducible repeat (first | exact HL.out | apply below_drewN | apply below_drew | apply below_allocS | refine below_set ?_ (by omega))

end Go.Proofs.Ytdellcgnclliaaa
