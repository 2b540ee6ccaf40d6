/-
  Circles: blocks, the statements' comparisons, and what the model's ResistanceCircle, ReactanceCircle and OffCircle give.
-/
import Derived.Test.YtdmacimafkiijaaWTwoOk
import Derived.Test.YtdmacimafkiijaaSame
import Derived.Test.YtdmacimafkiijaaTot
import Derived.Test.YtdmacimafkiijaaInv
import Derived.Test.YtdmacimafkiijaaPow
namespace Go.Proofs.Ytdmacimafkiijaa
open Go.RowKit Fl

@[go_sem] theorem run_store_float (P : Program) (w : World) (a : Addr) (m : Mode) (k : FloatKind) (x : Nat) : (store a (.float k x) m).run P w = stored P w a (.float k x) m := run_store P w a _ m rfl

/-- A circle of these words. -/
abbrev cirV (a b r : Nat) : Value := .agg #[.complex .f32 a b, .float .f32 r]
/-- The block of a circle. -/
def Cir (w : World) (B a b r : Nat) : Prop := w.heap[B]? = some (.cells #[.complex .f32 a b, .float .f32 r] 27 (0, 0))
theorem Cir.lt {w : World} {B a b r : Nat} (H : Cir w B a b r) : B < w.heap.size := (Array.getElem?_eq_some_iff.1 H).1
theorem Cir.new (w : World) (a b r : Nat) : Cir (w.alloc (.cells #[.complex .f32 a b, .float .f32 r] 27)) w.heap.size a b r := heap_alloc_new w _
theorem Cir.alloc {w : World} {B a b r : Nat} (H : Cir w B a b r) (o : Obj) : Cir (w.alloc o) B a b r := by
  unfold Cir
  rw [Below.heap_alloc _ _ _ H.lt]
  exact H
theorem Cir.drewN {w : World} {B a b r : Nat} (H : Cir w B a b r) (n : Nat) : Cir (w.drewN n) B a b r := H
theorem Cir.calm {w w' : World} {B a b r : Nat} (H : Cir w B a b r) (L : Calm w w') : Cir w' B a b r := by
  unfold Cir
  rw [L.block B H.lt (fun e => by cases e)]
  exact H
theorem Cir.c0 {w : World} {B a b r : Nat} (H : Cir w B a b r) : w.cell? ⟨B, 0, none⟩ = some (.complex .f32 a b) := by unfold Cir at H; simp [World.cell?, H]
theorem Cir.c1 {w : World} {B a b r : Nat} (H : Cir w B a b r) : w.cell? ⟨B, 1, none⟩ = some (.float .f32 r) := by unfold Cir at H; simp [World.cell?, H]
theorem Cir.fr {w : World} {B a b r : Nat} (H : Cir w B a b r) (i : Nat) : w.frozen? ⟨B, i, none⟩ = false := by unfold Cir at H; simp [World.frozen?, H]
theorem Cir.set2 {w : World} {B a b r : Nat} (H : Cir w B a b r) (x y s : Nat) : Cir ((w.setCell ⟨B, 0, none⟩ (.complex .f32 x y)).setCell ⟨B, 1, none⟩ (.float .f32 s)) B x y s := by
  unfold Cir at *
  simp [World.setCell, Array.getElem?_modify, H]
theorem calm_set2 {w w1 : World} (h : Calm w w1) {B : Nat} (hB : w.heap.size ≤ B) (v0 v1 : Value) : Calm w ((w1.setCell ⟨B, 0, none⟩ v0).setCell ⟨B, 1, none⟩ v1) :=
  grown_above (grown_above h hB 0 v0) hB 1 v1

theorem results_cir_tmp {fn : Func} {p u : Tmp} (hr : fn.results = #[.cell p 27, .tmp u]) (tmps : Array Value) {w : World} {A a b r : Nat}
    (hp : tmps.getD p undef = .pointer (some ⟨A, 0, none⟩)) (H : Cir w A a b r) :
    (results fn tmps).run Try.prog w = .ok (.tuple #[cirV a b r, tmps.getD u undef]) w := by
  have hp' : tmps[p]?.getD undef = .pointer (some ⟨A, 0, none⟩) := by simpa using hp
  have l1 := run_loadVar_row (P := Try.prog) w A 27 27 _ _ _ H Try.underlying27 rfl (by kernel_rfl)
  simp [results, hr, hp', asAddr, l1]

set_option maxHeartbeats 1000000 in
theorem sameCircle_same (a b r : Nat) (w : World) :
    Calls Try.prog 15 #[cirV a b r, cirV a b r] w fun x w' => x = .returned (.bool true) ∧ Calm w w' := by
  go_enter Try.func15, Try.ntmps15
  go_wp2_with fail
  refine (sameBits_same _ _ _).mono ?_
  rintro e w1 ⟨rfl, n, rfl⟩
  go_wp2_with fail
  refine (samePart_widened _ _ _ _).mono ?_
  rintro e w1 ⟨rfl, n2, rfl⟩
  go_wp2_with fail
  go_ret
  exact ⟨rfl, grown_drewN (Lib.grownBy_allocR (World.grownBy_alloc w _ none) _) _⟩

/-! What the circles' words are. -/

def addB (x y : Nat) : Nat := (floatBits .add .f32 x y).getD 0
def quoB (x y : Nat) : Nat := (floatBits .quo .f32 x y).getD 0
def one32 : Nat := 1065353216
/-- The resistance and 1. -/
def cN (m : Int) : Nat := addB (milliB m) 1065353216
def cM (m : Int) : Nat := quoB (milliB m) (cN m)
def cR (m : Int) : Nat := quoB 1065353216 (cN m)

theorem one32_spec : fin .f32 1065353216 = true ∧ V FloatKind.f32.format 1065353216 = 1 := ⟨by decide, by decide +kernel⟩

theorem quo_unit {x n : Nat} (hx : fin .f32 x = true) (hn : fin .f32 n = true) (h0 : 0 ≤ V FloatKind.f32.format x) (h1 : 1 ≤ V FloatKind.f32.format n) (h2 : V FloatKind.f32.format x ≤ 20000) :
    floatBits .quo .f32 x n = some (quoB x n) ∧ fin .f32 (quoB x n) = true ∧ ∃ X : Rat, X * V FloatKind.f32.format n = V FloatKind.f32.format x ∧ 0 ≤ X ∧ X ≤ V FloatKind.f32.format x ∧ RndV FloatKind.f32.format X (V FloatKind.f32.format (quoB x n)) := by
  have hn0 : V FloatKind.f32.format n ≠ 0 := by grind
  have hX : V FloatKind.f32.format x / V FloatKind.f32.format n * V FloatKind.f32.format n = V FloatKind.f32.format x := Rat.div_mul_cancel hn0
  generalize V FloatKind.f32.format x / V FloatKind.f32.format n = X at hX
  have x0 : 0 ≤ X := by
    rcases Rat.le_total (a := 0) (b := X) with g | g
    · exact g
    · by_cases he : X = 0
      · grind
      · have := Rat.mul_pos (show 0 < -X by grind) (show 0 < V FloatKind.f32.format n by grind)
        grind
  have x1 : X ≤ V FloatKind.f32.format x := by
    have := Rat.mul_nonneg x0 (show 0 ≤ V FloatKind.f32.format n - 1 by grind)
    grind
  have l := lim32.2
  obtain ⟨q, q1, q2, q3⟩ := quo_spec .f32 (fin_num.1 hx) (fin_num.1 hn) hn0 X hX (by grind) (by grind)
  have e : quoB x n = q := by unfold quoB; rw [q1]; rfl
  rw [e]
  exact ⟨q1, fin_num.2 q2, X, hX, x0, x1, q3⟩

theorem milli_pos {m : Int} (h0 : 0 ≤ m) (h1 : m ≤ 9999999) : fin .f32 (milliB m) = true ∧ 0 ≤ V FloatKind.f32.format (milliB m) ∧ V FloatKind.f32.format (milliB m) ≤ 20000 := by
  have hf := fin_milli (show -9999999 ≤ m by omega) h1
  have hk := sK_milli (show -9999999 ≤ m by omega) h1
  have hs := small_of_k (b := milliB m) (by rw [kOf_milli (by omega) h1]; omega)
  have hc := absR_cases (V FloatKind.f32.format (milliB m))
  refine ⟨hf, ?_, by grind⟩
  rcases hc with ⟨h, _⟩ | ⟨h, _⟩
  · have : sK (milliB m) = -(kOf (milliB m) : Int) := by unfold sK; rw [if_pos h]
    rw [hk] at this
    have hm : m = 0 := by omega
    subst hm
    have : V FloatKind.f32.format (milliB 0) = 0 := by decide +kernel
    grind
  · exact h

theorem cir_spec {m : Int} (h0 : 0 ≤ m) (h1 : m ≤ 9999999) :
    floatBits .add .f32 (milliB m) 1065353216 = some (cN m) ∧ fin .f32 (cN m) = true ∧ 1 ≤ V FloatKind.f32.format (cN m) ∧ RndV FloatKind.f32.format (V FloatKind.f32.format (milliB m) + 1) (V FloatKind.f32.format (cN m)) ∧
    floatBits .quo .f32 (milliB m) (cN m) = some (cM m) ∧ fin .f32 (cM m) = true ∧ floatBits .quo .f32 1065353216 (cN m) = some (cR m) ∧ fin .f32 (cR m) = true := by
  obtain ⟨f, v0, v1⟩ := milli_pos h0 h1
  obtain ⟨o1, o2⟩ := one32_spec
  have l := lim32.1
  obtain ⟨n, n1, n2, n3⟩ := add_spec .f32 (fin_num.1 f) (fin_num.1 o1) (by rw [o2]; grind) (by rw [o2]; grind)
  rw [o2] at n3
  have hn : 1 ≤ V FloatKind.f32.format n := rndV_ge n3 (by simpa using has_int (f := FloatKind.f32.format) (by decide) 1 (by decide)) (by grind)
  have e : cN m = n := by unfold cN addB; rw [n1]; rfl
  rw [← e] at n1 n2 n3 hn
  obtain ⟨q1, q2, _⟩ := quo_unit f (fin_num.2 n2) v0 hn v1
  obtain ⟨r1, r2, _⟩ := quo_unit o1 (fin_num.2 n2) (by rw [o2]; decide +kernel) hn (by rw [o2]; decide +kernel)
  exact ⟨n1, fin_num.2 n2, hn, n3, q1, q2, r1, r2⟩

/-- What a circle of a resistance comes to. -/
def resV (m : Int) : Value := if decide (0 ≤ m) && decide (m ≤ 9999999) then .tuple #[cirV (cM m) 0 (cR m), .bool true] else .tuple #[cirV 0 0 0, .bool false]

/-! Off the circle. -/

def subB (x y : Nat) : Nat := (floatBits .sub .f32 x y).getD 0
def offB (d1 d2 r : Nat) : Nat := (floatBits .sub .f64 (powV d1 d2) (qW r)).getD 0

theorem sub_some {k : FloatKind} {x y : Nat} (hx : fin k x = true) (hy : fin k y = true) : floatBits .sub k x y = some ((floatBits .sub k x y).getD 0) := by
  obtain ⟨s, m, e, hr⟩ := num_read (fin_num.1 hx)
  obtain ⟨t, n, g, hs⟩ := num_read (fin_num.1 hy)
  cases h : floatBits .sub k x y with
  | some r => rfl
  | none =>
    exfalso
    have h' : k.format.sub x y = none := h
    unfold Ieee.Format.sub at h'
    rw [hr, hs] at h'
    obtain ⟨s', m', e', h1, _⟩ := sum_val s (!t) m n e g
    simp [Ieee.Datum.opposite, h1] at h'

def offV (z1 z2 m1 m2 r : Nat) : Value :=
  if (fin .f32 z1 && fin .f32 z2) && (fin .f32 m1 && fin .f32 m2) && (fin .f32 (subB z1 m1) && fin .f32 (subB z2 m2)) then .tuple #[.float .f64 (offB (subB z1 m1) (subB z2 m2) r), .bool true] else .tuple #[.float .f64 0, .bool false]

end Go.Proofs.Ytdmacimafkiijaa
