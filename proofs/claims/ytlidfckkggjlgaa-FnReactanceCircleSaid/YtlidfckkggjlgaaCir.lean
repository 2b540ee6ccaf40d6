/-
  Circles: blocks, the statements' comparisons, and what the model's ResistanceCircle, ReactanceCircle and OffCircle give.
-/
import Derived.Test.YtlidfckkggjlgaaWTwoOk
import Derived.Test.YtlidfckkggjlgaaSame
import Derived.Test.YtlidfckkggjlgaaTot
import Derived.Test.YtlidfckkggjlgaaInv
import Derived.Test.YtlidfckkggjlgaaPow
namespace Go.Proofs.Ytlidfckkggjlgaa
open Go.RowKit Fl

@[go_sem] theorem run_store_float (P : Program) (w : World) (a : Addr) (m : Mode) (k : FloatKind) (x : Nat) : (store a (.float k x) m).run P w = stored P w a (.float k x) m := run_store P w a _ m rfl

/-- A circle of these words. -/
abbrev cirV (a b r : Nat) : Value := .agg #[.complex .f32 a b, .float .f32 r]
/-- The block of a circle. -/
def Cir (w : World) (B a b r : Nat) : Prop := w.heap[B]? = some (.cells #[.complex .f32 a b, .float .f32 r] 38 (0, 0))
theorem Cir.lt {w : World} {B a b r : Nat} (H : Cir w B a b r) : B < w.heap.size := (Array.getElem?_eq_some_iff.1 H).1
theorem Cir.new (w : World) (a b r : Nat) : Cir (w.alloc (.cells #[.complex .f32 a b, .float .f32 r] 38)) w.heap.size a b r := heap_alloc_new w _
theorem Cir.alloc {w : World} {B a b r : Nat} (H : Cir w B a b r) (o : Obj) : Cir (w.alloc o) B a b r := by
  unfold Cir
  rw [Below.heap_alloc _ _ _ H.lt]
  exact H
theorem Cir.drewN {w : World} {B a b r : Nat} (H : Cir w B a b r) (n : Nat) : Cir (w.drewN n) B a b r := H
theorem Cir.calm {w w' : World} {B a b r : Nat} (H : Cir w B a b r) (L : Calm w w') : Cir w' B a b r := by
  unfold Cir
  rw [L.block B H.lt (fun e => by cases e)]
  exact H
theorem Cir.c0 {w : World} {B a b r : Nat} (H : Cir w B a b r) : w.cell? ⟨B, 0, none⟩ = some (.complex .f32 a b) := by unfold Cir at H; simp [World.cell?, H]
theorem Cir.c1 {w : World} {B a b r : Nat} (H : Cir w B a b r) : w.cell? ⟨B, 1, none⟩ = some (.float .f32 r) := by unfold Cir at H; simp [World.cell?, H]
theorem Cir.fr {w : World} {B a b r : Nat} (H : Cir w B a b r) (i : Nat) : w.frozen? ⟨B, i, none⟩ = false := by unfold Cir at H; simp [World.frozen?, H]
theorem Cir.set2 {w : World} {B a b r : Nat} (H : Cir w B a b r) (x y s : Nat) : Cir ((w.setCell ⟨B, 0, none⟩ (.complex .f32 x y)).setCell ⟨B, 1, none⟩ (.float .f32 s)) B x y s := by
  unfold Cir at *
  simp [World.setCell, Array.getElem?_modify, H]
theorem calm_set2 {w w1 : World} (h : Calm w w1) {B : Nat} (hB : w.heap.size ≤ B) (v0 v1 : Value) : Calm w ((w1.setCell ⟨B, 0, none⟩ v0).setCell ⟨B, 1, none⟩ v1) :=
  grown_above (grown_above h hB 0 v0) hB 1 v1

theorem results_cir_tmp {fn : Func} {p u : Tmp} (hr : fn.results = #[.cell p 38, .tmp u]) (tmps : Array Value) {w : World} {A a b r : Nat}
    (hp : tmps.getD p undef = .pointer (some ⟨A, 0, none⟩)) (H : Cir w A a b r) :
    (results fn tmps).run Try.prog w = .ok (.tuple #[cirV a b r, tmps.getD u undef]) w := by
  have hp' : tmps[p]?.getD undef = .pointer (some ⟨A, 0, none⟩) := by simpa using hp
  have l1 := run_loadVar_row (P := Try.prog) w A 38 38 _ _ _ H Try.underlying38 rfl (by kernel_rfl)
  simp [results, hr, hp', asAddr, l1]

set_option maxHeartbeats 1000000 in
theorem sameCircle_same (a b r : Nat) (w : World) :
    Calls Try.prog 32 #[cirV a b r, cirV a b r] w fun x w' => x = .returned (.bool true) ∧ Calm w w' := by
  go_enter Try.func32, Try.ntmps32
  go_wp2_with fail
  refine (sameBits_same _ _ _).mono ?_
  rintro e w1 ⟨rfl, n, rfl⟩
  go_wp2_with fail
  refine (samePart_widened _ _ _ _).mono ?_
  rintro e w1 ⟨rfl, n2, rfl⟩
  go_wp2_with fail
  go_ret
  exact ⟨rfl, grown_drewN (Lib.grownBy_allocR (World.grownBy_alloc w _ none) _) _⟩

/-! What the circles' words are. -/

def addB (x y : Nat) : Nat := (floatBits .add .f32 x y).getD 0
def quoB (x y : Nat) : Nat := (floatBits .quo .f32 x y).getD 0
def one32 : Nat := 1065353216
/-- The resistance and 1. -/
def cN (m : Int) : Nat := addB (milliB m) 1065353216
def cM (m : Int) : Nat := quoB (milliB m) (cN m)
def cR (m : Int) : Nat := quoB 1065353216 (cN m)

theorem one32_spec : fin .f32 1065353216 = true ∧ V FloatKind.f32.format 1065353216 = 1 := ⟨by decide, by decide +kernel⟩

theorem quo_unit {x n : Nat} (hx : fin .f32 x = true) (hn : fin .f32 n = true) (h0 : 0 ≤ V FloatKind.f32.format x) (h1 : 1 ≤ V FloatKind.f32.format n) (h2 : V FloatKind.f32.format x ≤ 20000) :
    floatBits .quo .f32 x n = some (quoB x n) ∧ fin .f32 (quoB x n) = true ∧ ∃ X : Rat, X * V FloatKind.f32.format n = V FloatKind.f32.format x ∧ 0 ≤ X ∧ X ≤ V FloatKind.f32.format x ∧ RndV FloatKind.f32.format X (V FloatKind.f32.format (quoB x n)) := by
  have hn0 : V FloatKind.f32.format n ≠ 0 := by grind
  have hX : V FloatKind.f32.format x / V FloatKind.f32.format n * V FloatKind.f32.format n = V FloatKind.f32.format x := Rat.div_mul_cancel hn0
  generalize V FloatKind.f32.format x / V FloatKind.f32.format n = X at hX
  have x0 : 0 ≤ X := by
    rcases Rat.le_total (a := 0) (b := X) with g | g
    · exact g
    · by_cases he : X = 0
      · grind
      · have := Rat.mul_pos (show 0 < -X by grind) (show 0 < V FloatKind.f32.format n by grind)
        grind
  have x1 : X ≤ V FloatKind.f32.format x := by
    have := Rat.mul_nonneg x0 (show 0 ≤ V FloatKind.f32.format n - 1 by grind)
    grind
  have l := lim32.2
  obtain ⟨q, q1, q2, q3⟩ := quo_spec .f32 (fin_num.1 hx) (fin_num.1 hn) hn0 X hX (by grind) (by grind)
  have e : quoB x n = q := by unfold quoB; rw [q1]; rfl
  rw [e]
  exact ⟨q1, fin_num.2 q2, X, hX, x0, x1, q3⟩

theorem milli_pos {m : Int} (h0 : 0 ≤ m) (h1 : m ≤ 9999999) : fin .f32 (milliB m) = true ∧ 0 ≤ V FloatKind.f32.format (milliB m) ∧ V FloatKind.f32.format (milliB m) ≤ 20000 := by
  have hf := fin_milli (show -9999999 ≤ m by omega) h1
  have hk := sK_milli (show -9999999 ≤ m by omega) h1
  have hs := small_of_k (b := milliB m) (by rw [kOf_milli (by omega) h1]; omega)
  have hc := absR_cases (V FloatKind.f32.format (milliB m))
  refine ⟨hf, ?_, by grind⟩
  rcases hc with ⟨h, _⟩ | ⟨h, _⟩
  · have : sK (milliB m) = -(kOf (milliB m) : Int) := by unfold sK; rw [if_pos h]
    rw [hk] at this
    have hm : m = 0 := by omega
    subst hm
    have : V FloatKind.f32.format (milliB 0) = 0 := by decide +kernel
    grind
  · exact h

theorem cir_spec {m : Int} (h0 : 0 ≤ m) (h1 : m ≤ 9999999) :
    floatBits .add .f32 (milliB m) 1065353216 = some (cN m) ∧ fin .f32 (cN m) = true ∧ 1 ≤ V FloatKind.f32.format (cN m) ∧ RndV FloatKind.f32.format (V FloatKind.f32.format (milliB m) + 1) (V FloatKind.f32.format (cN m)) ∧
    floatBits .quo .f32 (milliB m) (cN m) = some (cM m) ∧ fin .f32 (cM m) = true ∧ floatBits .quo .f32 1065353216 (cN m) = some (cR m) ∧ fin .f32 (cR m) = true := by
  obtain ⟨f, v0, v1⟩ := milli_pos h0 h1
  obtain ⟨o1, o2⟩ := one32_spec
  have l := lim32.1
  obtain ⟨n, n1, n2, n3⟩ := add_spec .f32 (fin_num.1 f) (fin_num.1 o1) (by rw [o2]; grind) (by rw [o2]; grind)
  rw [o2] at n3
  have hn : 1 ≤ V FloatKind.f32.format n := rndV_ge n3 (by simpa using has_int (f := FloatKind.f32.format) (by decide) 1 (by decide)) (by grind)
  have e : cN m = n := by unfold cN addB; rw [n1]; rfl
  rw [← e] at n1 n2 n3 hn
  obtain ⟨q1, q2, _⟩ := quo_unit f (fin_num.2 n2) v0 hn v1
  obtain ⟨r1, r2, _⟩ := quo_unit o1 (fin_num.2 n2) (by rw [o2]; decide +kernel) hn (by rw [o2]; decide +kernel)
  exact ⟨n1, fin_num.2 n2, hn, n3, q1, q2, r1, r2⟩

/-- What a circle of a resistance comes to. -/
def resV (m : Int) : Value := if decide (0 ≤ m) && decide (m ≤ 9999999) then .tuple #[cirV (cM m) 0 (cR m), .bool true] else .tuple #[cirV 0 0 0, .bool false]

set_option maxHeartbeats 1000000 in
theorem specResistance_any (m : Int) (w : World) :
    Calls Try.prog 31 #[.int .i64 m] w fun x w' => x = .returned (resV m) ∧ Calm w w' := by
  unfold resV
  cases hm : (decide (0 ≤ m) && decide (m ≤ 9999999))
  · have HM := Lib.hid hm
    clear hm
    go_enter Try.func31, Try.ntmps31
    go_wp2_with fail
    refine (l1In_any _ _ _ _).mono ?_
    rw [HM.out]
    rintro e w1 ⟨rfl, rfl⟩
    go_wp2_with fail
    refine bodyPost_ret (results_cir_tmp rfl _ rfl (Cir.new w _ _ _)) rfl ?_
    exact ⟨rfl, World.grownBy_alloc w _ none⟩
  · have hm2 := hm
    simp only [Bool.and_eq_true, decide_eq_true_eq] at hm2
    obtain ⟨h0, h1⟩ := hm2
    have hok : okM m = true := okM_iff.2 ⟨by omega, h1⟩
    obtain ⟨q1, q2, q3⟩ := milli_walk hok
    obtain ⟨n1, _, _, _, n2, _, n3, _⟩ := cir_spec h0 h1
    have a1 : ∀ w, fconv .f64 (milliQ m) .f32 w = milliB m := fun w => fconv_some w q3
    have a2 : fcask .f64 (milliQ m) .f32 = 0 := fcask_some q3
    have a3 : ∀ w, fres .add .f32 (milliB m) 1065353216 w = cN m := fun w => fres_some w n1
    have a4 : fask .add .f32 (milliB m) 1065353216 = 0 := fask_some n1
    have a5 : ∀ w, fres .quo .f32 (milliB m) (cN m) w = cM m := fun w => fres_some w n2
    have a6 : fask .quo .f32 (milliB m) (cN m) = 0 := fask_some n2
    have a7 : ∀ w, fres .quo .f32 1065353216 (cN m) w = cR m := fun w => fres_some w n3
    have a8 : fask .quo .f32 1065353216 (cN m) = 0 := fask_some n3
    have HM := Lib.hid hm
    clear hm q3 n1 n2 n3 hok
    go_enter Try.func31, Try.ntmps31
    go_wp2_with fail
    refine (l1In_any _ _ _ _).mono ?_
    rw [HM.out]
    rintro e w1 ⟨rfl, rfl⟩
    go_wp2_with fail
    refine bodyPost_ret (results_cir_tmp rfl _ rfl (((Cir.new w 0 0 0).drewN 0).set2 _ _ _)) rfl ?_
    exact ⟨rfl, calm_set2 (grown_drewN (World.grownBy_alloc w _ none) 0) (Nat.le_refl _) _ _⟩

/-! Off the circle. -/

def subB (x y : Nat) : Nat := (floatBits .sub .f32 x y).getD 0
def offB (d1 d2 r : Nat) : Nat := (floatBits .sub .f64 (powV d1 d2) (qW r)).getD 0

theorem sub_some {k : FloatKind} {x y : Nat} (hx : fin k x = true) (hy : fin k y = true) : floatBits .sub k x y = some ((floatBits .sub k x y).getD 0) := by
  obtain ⟨s, m, e, hr⟩ := num_read (fin_num.1 hx)
  obtain ⟨t, n, g, hs⟩ := num_read (fin_num.1 hy)
  cases h : floatBits .sub k x y with
  | some r => rfl
  | none =>
    exfalso
    have h' : k.format.sub x y = none := h
    unfold Ieee.Format.sub at h'
    rw [hr, hs] at h'
    obtain ⟨s', m', e', h1, _⟩ := sum_val s (!t) m n e g
    simp [Ieee.Datum.opposite, h1] at h'

def offV (z1 z2 m1 m2 r : Nat) : Value :=
  if (fin .f32 z1 && fin .f32 z2) && (fin .f32 m1 && fin .f32 m2) && (fin .f32 (subB z1 m1) && fin .f32 (subB z2 m2)) then .tuple #[.float .f64 (offB (subB z1 m1) (subB z2 m2) r), .bool true] else .tuple #[.float .f64 0, .bool false]

set_option maxHeartbeats 1000000 in
theorem specOff_any (z1 z2 m1 m2 r : Nat) (hr : fin .f32 r = true) (w : World) :
    Calls Try.prog 38 #[.complex .f32 z1 z2, cirV m1 m2 r] w fun x w' => x = .returned (offV z1 z2 m1 m2 r) ∧ Calm w w' := by
  obtain ⟨y1, y2, y3⟩ := yW_spec hr
  obtain ⟨g1, g2, g3⟩ := qW_spec hr
  have a1 : ∀ w, fconv .f32 r .f64 w = yW r := fun w => fconv_some w y1
  have a2 : fcask .f32 r .f64 = 0 := fcask_some y1
  have a3 : ∀ w, fres .mul .f64 (yW r) (yW r) w = qW r := fun w => fres_some w g1
  have a4 : fask .mul .f64 (yW r) (yW r) = 0 := fask_some g1
  have a5 : ∀ d1 d2 w, fres .sub .f64 (powV d1 d2) (qW r) w = offB d1 d2 r := fun d1 d2 w => fres_some w (sub_some (powV_num d1 d2) (fin_num.2 g2))
  have a6 : ∀ d1 d2, fask .sub .f64 (powV d1 d2) (qW r) = 0 := fun d1 d2 => fask_some (sub_some (powV_num d1 d2) (fin_num.2 g2))
  clear y1 y2 y3 g1 g2 g3 hr
  cases hf : ((fin .f32 z1 && fin .f32 z2) && (fin .f32 m1 && fin .f32 m2))
  · have HF := Lib.hid hf
    clear hf
    go_enter Try.func38, Try.ntmps38
    go_wp2_with fail
    generalize fres .sub .f32 z2 m2 ((w.alloc (.cells #[.complex .f32 m1 m2, .float .f32 r] 38)).drewN (fask .sub .f32 z1 m1)) = d2
    generalize fres .sub .f32 z1 m1 (w.alloc (.cells #[.complex .f32 m1 m2, .float .f32 r] 38)) = d1
    refine (l2All_any _ [(z1, z2), (m1, m2), (d1, d2)] _ _ (by simp) ?_).mono ?_
    · intro i hi
      refine built_cell _ (by simp) ?_
      have h3 : i = 0 ∨ i = 1 ∨ i = 2 := by simp at hi; omega
      rcases h3 with rfl | rfl | rfl <;> rfl
    have hall : ∀ d : Nat × Nat, ([(z1, z2), (m1, m2), d].all fun z => fin .f32 z.1 && fin .f32 z.2) = false := by
      intro d
      have hf := HF.out
      simp only [List.all_cons, List.all_nil, Bool.and_true]
      rw [← Bool.and_assoc, hf]
      rfl
    rw [hall]
    rintro x w1 ⟨rfl, n, rfl⟩
    clear hall
    go_wp2_with fail
    go_ret2
    exact ⟨by unfold offV; rw [HF.out]; rfl, grown_drewN (Lib.grownBy_allocR (grown_drewN (World.grownBy_alloc w _ none) _) _) _⟩
  · have hf2 := hf
    simp only [Bool.and_eq_true] at hf2
    obtain ⟨⟨f1, f2⟩, f3, f4⟩ := hf2
    have b1 : ∀ w, fres .sub .f32 z1 m1 w = subB z1 m1 := fun w => fres_some w (sub_some f1 f3)
    have b2 : fask .sub .f32 z1 m1 = 0 := fask_some (sub_some f1 f3)
    have b3 : ∀ w, fres .sub .f32 z2 m2 w = subB z2 m2 := fun w => fres_some w (sub_some f2 f4)
    have b4 : fask .sub .f32 z2 m2 = 0 := fask_some (sub_some f2 f4)
    have HF := Lib.hid hf
    clear hf f1 f2 f3 f4
    obtain ⟨β, hβ⟩ : ∃ β, (fin .f32 (subB z1 m1) && fin .f32 (subB z2 m2)) = β := ⟨_, rfl⟩
    have HB := Lib.hid hβ
    clear hβ
    have hall : ([(z1, z2), (m1, m2), (subB z1 m1, subB z2 m2)].all fun z => fin .f32 z.1 && fin .f32 z.2) = β := by
      have hf := HF.out
      simp only [List.all_cons, List.all_nil, Bool.and_true]
      rw [← Bool.and_assoc, hf, HB.out]
      rfl
    have HA := Lib.hid hall
    clear hall
    cases β
    · go_enter Try.func38, Try.ntmps38
      go_wp2_with fail
      refine (l2All_any _ [(z1, z2), (m1, m2), (subB z1 m1, subB z2 m2)] _ _ (by simp) ?_).mono ?_
      · intro i hi
        refine built_cell _ (by simp) ?_
        have h3 : i = 0 ∨ i = 1 ∨ i = 2 := by simp at hi; omega
        rcases h3 with rfl | rfl | rfl <;> rfl
      rw [HA.out]
      rintro x w1 ⟨rfl, n, rfl⟩
      go_wp2_with fail
      go_ret2
      exact ⟨by unfold offV; rw [HF.out, HB.out]; rfl, grown_drewN (Lib.grownBy_allocR (World.grownBy_alloc w _ none) _) _⟩
    · go_enter Try.func38, Try.ntmps38
      go_wp2_with fail
      refine (l2All_any _ [(z1, z2), (m1, m2), (subB z1 m1, subB z2 m2)] _ _ (by simp) ?_).mono ?_
      · intro i hi
        refine built_cell _ (by simp) ?_
        have h3 : i = 0 ∨ i = 1 ∨ i = 2 := by simp at hi; omega
        rcases h3 with rfl | rfl | rfl <;> rfl
      rw [HA.out]
      rintro x w1 ⟨rfl, n, rfl⟩
      go_wp2_with fail
      refine (specPower_any _ _ _).mono ?_
      rintro x w2 ⟨rfl, n2, rfl⟩
      go_wp2_with fail
      go_ret2
      exact ⟨by unfold offV; rw [HF.out, HB.out]; rfl, grown_drewN (Lib.grownBy_allocR (World.grownBy_alloc w _ none) _) _⟩

end Go.Proofs.Ytlidfckkggjlgaa
