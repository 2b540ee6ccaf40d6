/-
  What the draws of stages come to.
-/
import Derived.Test.YtjacmojmjicmjaaDraw3
import Derived.Test.YtjacmojmjicmjaaAt
namespace Go.Proofs.Ytjacmojmjicmjaa
open Go.RowKit Fl

/-- The word of a quarter, and of a noise: 1 and so many quarters. -/
def qrW (k : Nat) : Nat := (floatBits .quo .f64 (floatOfInt .f64 (k : Int)) 4616189618054758400).getD 0
def nzW (k : Nat) : Nat := (floatBits .add .f64 4607182418800017408 (qrW k)).getD 0
theorem nz_table : ∀ k : Fin 40, (decide (floatBits .quo .f64 (floatOfInt .f64 (k.val : Int)) 4616189618054758400 = some (qrW k.val)) && decide (floatBits .add .f64 4607182418800017408 (qrW k.val) = some (nzW k.val)) &&
    fin .f64 (nzW k.val) && decide (V FloatKind.f64.format (nzW k.val) = 1 + (k.val : Rat) / 4)) = true := by decide +kernel

/-- The words of a drawn gain. -/
def gainL : List Nat := [4607182418800017408, 4611686018427387904, 4616189618054758400, 4602678819172646912, 4621819117588971520, 4591870180066957722]
/-- A stage as it is drawn: noise and gain. -/
def StgOk (n g : Nat) : Prop := ((∃ k < 40, n = nzW k) ∨ n = 4602678819172646912) ∧ (g ∈ gainL ∨ g = 0 ∨ g = 4701340746312056832)
def IsStg (v : Value) : Prop := ∃ n g, v = .agg #[.float .f64 n, .float .f64 g] ∧ StgOk n g

theorem results_stg {fn : Func} {p : Tmp} (hr : fn.results = #[.cell p 43]) (tmps : Array Value) {w : World} {B n g : Nat} (hp : tmps.getD p undef = .pointer (some ⟨B, 0, none⟩)) (H : At w B (.cells #[.float .f64 n, .float .f64 g] 43)) :
    (results fn tmps).run Try.prog w = .ok (.agg #[.float .f64 n, .float .f64 g]) w :=
  results_cell_row hr tmps w B _ _ _ _ hp H Try.underlying43 rfl (by kernel_rfl)

set_option maxRecDepth 8000 in
set_option maxHeartbeats 4000000 in
theorem stage_any {b len cap k : Nat} {a : Option Addr} {n : Int} {w : World} (R : Rd w b a len cap k) (hk : k < 700000) (h0 : 0 ≤ n) (h1 : n ≤ 1000000) :
    Calls Try.prog 65 #[.pointer (some ⟨b, 0, none⟩), .int .i64 n] w (Drawn IsStg b a len cap k 4 w) := by
  go_enter Try.func65, Try.ntmps65
  go_wp2_with fail
  have A0 := At.new w (.cells #[.float .f64 0, .float .f64 0] 43)
  have hlt := R.lt
  refine (pick_any (R.alloc _) (by omega) (by omega) (by omega)).mono ?_
  rintro e w1 ⟨q, m1, q0, q1, rfl, hw1⟩
  have R1 : Rd w1 b a len cap (k + 1) := by rw [hw1]; exact (R.alloc _).step m1
  have G1 : w.grownBy w1 (some b) := by rw [hw1]; exact grown_drewN (Lib.grownBy_setB (World.grownBy_alloc w _ _) 1 _) m1
  have A1 : At w1 w.heap.size (.cells #[.float .f64 0, .float .f64 0] 43) := by
    rw [hw1]
    exact ((A0.other (r := ⟨b, 1, none⟩) (by show w.heap.size ≠ b; omega) _).drewN m1)
  clear hw1 A0
  obtain ⟨j, rfl⟩ : ∃ j : Nat, q = (j : Int) := ⟨q.toNat, by omega⟩
  have hj : j < 40 := by omega
  have ht := nz_table ⟨j, hj⟩
  simp only [Bool.and_eq_true, decide_eq_true_eq] at ht
  obtain ⟨⟨⟨t1, t2⟩, t3⟩, t4⟩ := ht
  have u1 : ∀ w, fres .quo .f64 (floatOfInt .f64 (j : Int)) 4616189618054758400 w = qrW j := fun w => fres_some w t1
  have u2 : fask .quo .f64 (floatOfInt .f64 (j : Int)) 4616189618054758400 = 0 := fask_some t1
  have u3 : ∀ w, fres .add .f64 4607182418800017408 (qrW j) w = nzW j := fun w => fres_some w t2
  have u4 : fask .add .f64 4607182418800017408 (qrW j) = 0 := fask_some t2
  clear t1 t2 t3 t4
  go_wp2_with fail
  have hlt1 := R1.lt
  refine (pick_any ((R1.drewN 0).alloc (.cells #[.float .f64 4607182418800017408, .float .f64 4611686018427387904, .float .f64 4616189618054758400, .float .f64 4602678819172646912, .float .f64 4621819117588971520, .float .f64 4591870180066957722] 34)) (by omega) (by omega) (by omega)).mono ?_
  rintro e w2 ⟨q, m2, r0, r1, rfl, hw2⟩
  have R2 : Rd w2 b a len cap (k + 1 + 1) := by rw [hw2]; exact ((R1.drewN 0).alloc _).step m2
  have G2 : w.grownBy w2 (some b) := by rw [hw2]; exact grown_drewN (Lib.grownBy_setB (Lib.grownBy_allocR (grown_drewN G1 0) _) 1 _) m2
  have A2 : At w2 w.heap.size (.cells #[.float .f64 0, .float .f64 0] 43) := by
    rw [hw2]
    exact ((((A1.drewN 0).alloc _).other (r := ⟨b, 1, none⟩) (by show w.heap.size ≠ b; omega) _).drewN m2)
  have L2 : At w2 w1.heap.size (.cells #[.float .f64 4607182418800017408, .float .f64 4611686018427387904, .float .f64 4616189618054758400, .float .f64 4602678819172646912, .float .f64 4621819117588971520, .float .f64 4591870180066957722] 34) := by
    rw [hw2]
    exact (((At.new (w1.drewN 0) _).other (r := ⟨b, 1, none⟩) (by show w1.heap.size ≠ b; omega) _).drewN m2)
  clear hw2 R1 G1 A1
  obtain ⟨g, hg, hgm⟩ : ∃ g, w2.cell? ⟨w1.heap.size, q.toNat, none⟩ = some (.float .f64 g) ∧ g ∈ gainL := by
    rcases (show q = 0 ∨ q = 1 ∨ q = 2 ∨ q = 3 ∨ q = 4 ∨ q = 5 by omega) with rfl | rfl | rfl | rfl | rfl | rfl
    · exact ⟨_, L2.cell (i := 0) rfl, by decide⟩
    · exact ⟨_, L2.cell (i := 1) rfl, by decide⟩
    · exact ⟨_, L2.cell (i := 2) rfl, by decide⟩
    · exact ⟨_, L2.cell (i := 3) rfl, by decide⟩
    · exact ⟨_, L2.cell (i := 4) rfl, by decide⟩
    · exact ⟨_, L2.cell (i := 5) rfl, by decide⟩
  obtain ⟨i, rfl⟩ : ∃ i : Nat, q = (i : Int) := ⟨q.toNat, by omega⟩
  have hi : i < 6 := by omega
  rw [Int.toNat_natCast] at hg
  have z0 : w2.cell? ⟨w.heap.size, 0, none⟩ = some (.float .f64 0) := A2.cell (i := 0) rfl
  have z1 : w2.cell? ⟨w.heap.size, 1, none⟩ = some (.float .f64 0) := A2.cell (i := 1) rfl
  have f0 := A2.fr 0
  have f1 := A2.fr 1
  have al := A2.lt
  have ll := L2.lt
  have HR := Lib.hid R2
  have HG := Lib.hid G2
  have HA := Lib.hid A2
  clear R2 G2 A2 L2
  go_wp2_with fail
  refine (odd_any (HR.out.alloc _) (by omega) h0 h1).mono ?_
  rintro e w4 ⟨v, k4, ⟨β, rfl, _⟩, rfl, hk4, R4, G4⟩
  have hbl := HR.out.lt
  have hne : w.heap.size ≠ w2.heap.size := by omega
  have hw2 : w.heap.size ≤ w2.heap.size := by omega
  have S4 : At w4 w2.heap.size (.cells #[.float .f64 (nzW j), .float .f64 g] 43) := (At.new w2 _).grown G4 (by omega)
  have A4 : At w4 w.heap.size (.cells #[.float .f64 0, .float .f64 0] 43) := (HA.out.alloc _).grown G4 (by omega)
  have K4 : w.grownBy w4 (some b) := Lib.grownBy_trans (Lib.grownBy_allocR HG.out _) G4
  have hw4 : w.heap.size < w4.heap.size := A4.lt
  clear z0 z1 f0 f1 al hg ll HA HG HR G4 hlt1 hi r0 r1
  cases β
  · have s0 : w4.cell? ⟨w2.heap.size, 0, none⟩ = some (.float .f64 (nzW j)) := S4.cell (i := 0) rfl
    have s1 : w4.cell? ⟨w2.heap.size, 1, none⟩ = some (.float .f64 g) := S4.cell (i := 1) rfl
    have z0 : w4.cell? ⟨w.heap.size, 0, none⟩ = some (.float .f64 0) := A4.cell (i := 0) rfl
    have z1 : w4.cell? ⟨w.heap.size, 1, none⟩ = some (.float .f64 0) := A4.cell (i := 1) rfl
    have f0 := A4.fr 0
    have f1 := A4.fr 1
    have sl := S4.lt
    have HA := Lib.hid A4
    have HK := Lib.hid K4
    have HR := Lib.hid R4
    clear A4 K4 R4 S4
    go_wp2_with fail
    refine bodyPost_ret (results_stg rfl _ rfl (HA.out.set2 _ _)) rfl ?_
    exact ⟨_, k4, ⟨_, _, rfl, .inl ⟨j, hj, rfl⟩, .inl hgm⟩, rfl, by omega, (HR.out.above hlt 0 _).above hlt 1 _, grown_above (grown_above HK.out (Nat.le_refl _) 0 _) (Nat.le_refl _) 1 _⟩
  · go_wp2_with fail
    refine (pick_any R4 (by omega) (by omega) (by omega)).mono ?_
    rintro e w5 ⟨q, m5, q0', q1', rfl, hw5⟩
    have R5 : Rd w5 b a len cap (k4 + 1) := by rw [hw5]; exact R4.step m5
    have K5 : w.grownBy w5 (some b) := by rw [hw5]; exact grown_drewN (Lib.grownBy_setB K4 1 _) m5
    have S5 : At w5 w2.heap.size (.cells #[.float .f64 (nzW j), .float .f64 g] 43) := by
      rw [hw5]
      exact (S4.other (r := ⟨b, 1, none⟩) (by show w2.heap.size ≠ b; omega) _).drewN m5
    have A5 : At w5 w.heap.size (.cells #[.float .f64 0, .float .f64 0] 43) := by
      rw [hw5]
      exact (A4.other (r := ⟨b, 1, none⟩) (by show w.heap.size ≠ b; omega) _).drewN m5
    clear hw5 R4 K4 S4 A4
    have s0 : w5.cell? ⟨w2.heap.size, 0, none⟩ = some (.float .f64 (nzW j)) := S5.cell (i := 0) rfl
    have s1 : w5.cell? ⟨w2.heap.size, 1, none⟩ = some (.float .f64 g) := S5.cell (i := 1) rfl
    have e0 := S5.fr 0
    have e1 := S5.fr 1
    have z0 : w5.cell? ⟨w.heap.size, 0, none⟩ = some (.float .f64 0) := A5.cell (i := 0) rfl
    have z1 : w5.cell? ⟨w.heap.size, 1, none⟩ = some (.float .f64 0) := A5.cell (i := 1) rfl
    have f0 := A5.fr 0
    have f1 := A5.fr 1
    have sl := S5.lt
    have al := A5.lt
    have HA := Lib.hid A5
    have HK := Lib.hid K5
    have HR := Lib.hid R5
    clear A5 K5 R5 S5
    rcases (show q = 0 ∨ q = 1 ∨ q = 2 by omega) with rfl | rfl | rfl
    · go_wp2_with fail
      refine bodyPost_ret (results_stg rfl _ rfl ((HA.out.other (r := ⟨w2.heap.size, 0, none⟩) hne _).set2 _ _)) rfl ?_
      exact ⟨_, k4 + 1, ⟨_, _, rfl, .inr rfl, .inl hgm⟩, rfl, by omega, ((HR.out.above hbl 0 _).above hlt 0 _).above hlt 1 _, grown_above (grown_above (grown_above HK.out hw2 0 _) (Nat.le_refl _) 0 _) (Nat.le_refl _) 1 _⟩
    · go_wp2_with fail
      refine bodyPost_ret (results_stg rfl _ rfl ((HA.out.other (r := ⟨w2.heap.size, 1, none⟩) hne _).set2 _ _)) rfl ?_
      exact ⟨_, k4 + 1, ⟨_, _, rfl, .inl ⟨j, hj, rfl⟩, .inr (.inl rfl)⟩, rfl, by omega, ((HR.out.above hbl 1 _).above hlt 0 _).above hlt 1 _, grown_above (grown_above (grown_above HK.out hw2 1 _) (Nat.le_refl _) 0 _) (Nat.le_refl _) 1 _⟩
    · go_wp2_with fail
      refine bodyPost_ret (results_stg rfl _ rfl ((HA.out.other (r := ⟨w2.heap.size, 1, none⟩) hne _).set2 _ _)) rfl ?_
      exact ⟨_, k4 + 1, ⟨_, _, rfl, .inl ⟨j, hj, rfl⟩, .inr (.inr rfl)⟩, rfl, by omega, ((HR.out.above hbl 1 _).above hlt 0 _).above hlt 1 _, grown_above (grown_above (grown_above HK.out hw2 1 _) (Nat.le_refl _) 0 _) (Nat.le_refl _) 1 _⟩

end Go.Proofs.Ytjacmojmjicmjaa
