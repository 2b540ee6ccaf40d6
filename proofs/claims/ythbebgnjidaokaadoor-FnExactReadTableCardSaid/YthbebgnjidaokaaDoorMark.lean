/-
  A list of rows is marked, and found marked.
-/
import Derived.Test.YthbebgnjidaokaaDoorEqRow
namespace Go.Proofs.YthbebgnjidaokaaDoor
open Go.RowKit Fl

/-- The word of a small number as a part. -/
def cwI (n : Int) : Nat := (floatToFloatBits .f64 (floatOfInt .f64 n) .f32).getD 0
theorem cw_table : ∀ k : Fin 60, (decide (floatToFloatBits .f64 (floatOfInt .f64 (k.val : Int)) .f32 = some (cwI (k.val : Int))) && fin .f32 (cwI (k.val : Int))) = true := by decide +kernel
theorem cw_at {n : Int} (h0 : 0 ≤ n) (h1 : n < 60) : floatToFloatBits .f64 (floatOfInt .f64 n) .f32 = some (cwI n) ∧ fin .f32 (cwI n) = true := by
  obtain ⟨k, rfl⟩ : ∃ k : Nat, n = (k : Int) := ⟨n.toNat, by omega⟩
  have := cw_table ⟨k, by omega⟩
  simpa only [Bool.and_eq_true, decide_eq_true_eq] using this
theorem mark_walk {n : Int} (h0 : 0 ≤ n) (h1 : n < 60) (w : World) :
    (convert 48 33 (.complex .f64 (floatOfInt .f64 n) 4607182418800017408)).run Tryd.prog w = .ok (.complex .f32 (cwI n) 1065353216) w := by
  refine run_convert_complex w _ _ .f64 .f32 _ _ _ _ ?_ Tryd.underlying33 ?_
  · rw [Tryd.underlying48]; rfl
  · unfold cConvBits
    rw [(cw_at h0 h1).1, show floatToFloatBits .f64 4607182418800017408 .f32 = some 1065353216 by decide +kernel]
    rfl

/-- A marked row. -/
def markR (i : Nat) : RowW := ⟨1 + 5 * (i : Int), ⟨cwI (1 + 5 * (i : Int) + 1), 1065353216, cwI (1 + 5 * (i : Int) + 1 + 1), 1065353216, cwI (1 + 5 * (i : Int) + 1 + 1 + 1), 1065353216, cwI (1 + 5 * (i : Int) + 1 + 1 + 1 + 1), 1065353216⟩⟩
def marks (n : Nat) : List RowW := (List.range n).map markR

/-- Marking under way. -/
structure MkHold (w wr : World) (g n j : Nat) : Prop where
  blk : ∃ (cs : Array Value) (T : TypeId), At wr g (.cells cs T) ∧ n * 5 ≤ cs.size ∧ ∀ i, i < j → FiveAt (fun k => cs[k]?) i (markR i)
  gr : w.grownBy wr (some g)
theorem MkHold.cell {w wr : World} {g n j i : Nat} (H : MkHold w wr g n j) (h : i < n * 5) : ∃ u, wr.cell? ⟨g, i, none⟩ = some u := by
  obtain ⟨cs, T, A, hs, _⟩ := H.blk
  exact ⟨_, A.cell (Array.getElem?_eq_getElem (by omega))⟩
theorem MkHold.fr {w wr : World} {g n j : Nat} (H : MkHold w wr g n j) (i : Nat) : wr.frozen? ⟨g, i, none⟩ = false := by
  obtain ⟨cs, T, A, _⟩ := H.blk
  exact A.fr i
theorem MkHold.lt {w wr : World} {g n j : Nat} (H : MkHold w wr g n j) : g < wr.heap.size := by
  obtain ⟨cs, T, A, _⟩ := H.blk
  exact A.lt

def set5 (cs : Array Value) (p : Nat) (a b c d e : Value) : Array Value := ((((cs.setIfInBounds p a).setIfInBounds (p + 1) b).setIfInBounds (p + 1 + 1) c).setIfInBounds (p + 1 + 2) d).setIfInBounds (p + 1 + 3) e
theorem set5_other {cs : Array Value} {p k : Nat} (a b c d e : Value) (h : k < p ∨ p + 5 ≤ k) : (set5 cs p a b c d e)[k]? = cs[k]? := by
  unfold set5
  rw [Array.getElem?_setIfInBounds_ne (by omega), Array.getElem?_setIfInBounds_ne (by omega), Array.getElem?_setIfInBounds_ne (by omega), Array.getElem?_setIfInBounds_ne (by omega), Array.getElem?_setIfInBounds_ne (by omega)]
theorem set5_size (cs : Array Value) (p : Nat) (a b c d e : Value) : (set5 cs p a b c d e).size = cs.size := by
  unfold set5
  simp only [Array.size_setIfInBounds]
theorem set5_0 {cs : Array Value} {p : Nat} (a b c d e : Value) (h : p + 5 ≤ cs.size) : (set5 cs p a b c d e)[p]? = some a := by
  unfold set5
  rw [Array.getElem?_setIfInBounds_ne (by omega), Array.getElem?_setIfInBounds_ne (by omega), Array.getElem?_setIfInBounds_ne (by omega), Array.getElem?_setIfInBounds_ne (by omega), Array.getElem?_setIfInBounds_self_of_lt (by omega)]
theorem set5_1 {cs : Array Value} {p : Nat} (a b c d e : Value) (h : p + 5 ≤ cs.size) : (set5 cs p a b c d e)[p + 1]? = some b := by
  unfold set5
  rw [Array.getElem?_setIfInBounds_ne (by omega), Array.getElem?_setIfInBounds_ne (by omega), Array.getElem?_setIfInBounds_ne (by omega), Array.getElem?_setIfInBounds_self_of_lt (by simp only [Array.size_setIfInBounds]; omega)]
theorem set5_2 {cs : Array Value} {p : Nat} (a b c d e : Value) (h : p + 5 ≤ cs.size) : (set5 cs p a b c d e)[p + 1 + 1]? = some c := by
  unfold set5
  rw [Array.getElem?_setIfInBounds_ne (by omega), Array.getElem?_setIfInBounds_ne (by omega), Array.getElem?_setIfInBounds_self_of_lt (by simp only [Array.size_setIfInBounds]; omega)]
theorem set5_3 {cs : Array Value} {p : Nat} (a b c d e : Value) (h : p + 5 ≤ cs.size) : (set5 cs p a b c d e)[p + 1 + 2]? = some d := by
  unfold set5
  rw [Array.getElem?_setIfInBounds_ne (by omega), Array.getElem?_setIfInBounds_self_of_lt (by simp only [Array.size_setIfInBounds]; omega)]
theorem set5_4 {cs : Array Value} {p : Nat} (a b c d e : Value) (h : p + 5 ≤ cs.size) : (set5 cs p a b c d e)[p + 1 + 3]? = some e := by
  unfold set5
  rw [Array.getElem?_setIfInBounds_self_of_lt (by simp only [Array.size_setIfInBounds]; omega)]
set_option maxHeartbeats 1000000 in
theorem MkHold.step {w wr : World} {g n j : Nat} (H : MkHold w wr g n j) (h : j < n) :
    MkHold w (((((wr.setCell ⟨g, j * 5, none⟩ (.int .i64 (1 + 5 * (j : Int)))).setCell ⟨g, j * 5 + 1, none⟩ (.complex .f32 (cwI (1 + 5 * (j : Int) + 1)) 1065353216)).setCell ⟨g, j * 5 + 1 + 1, none⟩ (.complex .f32 (cwI (1 + 5 * (j : Int) + 1 + 1)) 1065353216)).setCell ⟨g, j * 5 + 1 + 2, none⟩ (.complex .f32 (cwI (1 + 5 * (j : Int) + 1 + 1 + 1)) 1065353216)).setCell ⟨g, j * 5 + 1 + 3, none⟩ (.complex .f32 (cwI (1 + 5 * (j : Int) + 1 + 1 + 1 + 1)) 1065353216)) g n (j + 1) := by
  obtain ⟨⟨cs, T, A, hs, hF⟩, G⟩ := H
  refine ⟨⟨set5 cs (j * 5) (.int .i64 (1 + 5 * (j : Int))) (.complex .f32 (cwI (1 + 5 * (j : Int) + 1)) 1065353216) (.complex .f32 (cwI (1 + 5 * (j : Int) + 1 + 1)) 1065353216) (.complex .f32 (cwI (1 + 5 * (j : Int) + 1 + 1 + 1)) 1065353216) (.complex .f32 (cwI (1 + 5 * (j : Int) + 1 + 1 + 1 + 1)) 1065353216), T, ((((A.setAtT _ _).setAtT _ _).setAtT _ _).setAtT _ _).setAtT _ _, by rw [set5_size]; exact hs, fun i hi => ?_⟩, Lib.grownBy_setB (Lib.grownBy_setB (Lib.grownBy_setB (Lib.grownBy_setB (Lib.grownBy_setB G _ _) _ _) _ _) _ _) _ _⟩
  by_cases e : i = j
  · subst e
    have h5 : i * 5 + 5 ≤ cs.size := by omega
    unfold markR FiveAt
    dsimp only
    exact ⟨set5_0 _ _ _ _ _ h5, set5_1 _ _ _ _ _ h5, set5_2 _ _ _ _ _ h5, set5_3 _ _ _ _ _ h5, set5_4 _ _ _ _ _ h5⟩
  · obtain ⟨a, b, c, d, f⟩ := hF i (by omega)
    refine ⟨?_, ?_, ?_, ?_, ?_⟩
    all_goals
      refine (set5_other _ _ _ _ _ (by omega)).trans ?_
      assumption

set_option maxRecDepth 8000 in
set_option maxHeartbeats 2000000 in
theorem markRowS_any {g n cap : Nat} {w : World} (hn : n ≤ 8) (H : MkHold w w g n 0) :
    Calls Tryd.prog 7 #[.slice (some ⟨g, 0, none⟩) n cap, .int .i64 1] w fun z w' => z = .returned (.int .i64 (1 + 5 * n)) ∧ MkHold w w' g n n := by
  have H0 := Lib.hid H
  clear H
  go_enter Tryd.func7, Tryd.ntmps7
  go_wp2_with fail
  go_loopw [1, 5] (fun kv iv wr => ∃ j : Nat, j ≤ n ∧ iv = .int .i64 j ∧ kv = .int .i64 (1 + 5 * (j : Int)) ∧ MkHold w wr g n j)
    (fun _ iv _ => n - (intOf iv).toNat)
  case atStart => exact ⟨0, by omega, rfl, rfl, H0.out⟩
  case round =>
    obtain ⟨j, hj, rfl, rfl, M⟩ := hrel
    have HM := Lib.hid M
    clear M
    by_cases hlt : j < n
    · have hlt' : (j : Int) < (n : Int) := by omega
      obtain ⟨u0, c0⟩ := HM.out.cell (i := j * 5) (by omega)
      obtain ⟨u1, c1⟩ := HM.out.cell (i := j * 5 + 1) (by omega)
      obtain ⟨u2', c2⟩ := HM.out.cell (i := j * 5 + 2) (by omega)
      obtain ⟨u3', c3⟩ := HM.out.cell (i := j * 5 + 3) (by omega)
      obtain ⟨u4', c4⟩ := HM.out.cell (i := j * 5 + 4) (by omega)
      have f0 := HM.out.fr (j * 5)
      have f1 := HM.out.fr (j * 5 + 1)
      have f2 := HM.out.fr (j * 5 + 2)
      have f3 := HM.out.fr (j * 5 + 3)
      have f4 := HM.out.fr (j * 5 + 4)
      have gl := HM.out.lt
      have m1 := mark_walk (n := 1 + 5 * (j : Int) + 1) (by omega) (by omega)
      have m2 := mark_walk (n := 1 + 5 * (j : Int) + 1 + 1) (by omega) (by omega)
      have m3 := mark_walk (n := 1 + 5 * (j : Int) + 1 + 1 + 1) (by omega) (by omega)
      have m4 := mark_walk (n := 1 + 5 * (j : Int) + 1 + 1 + 1 + 1) (by omega) (by omega)
      go_wp2_with fail
      exact ⟨⟨j + 1, by omega, by go_num, by go_num, HM.out.step hlt⟩, by simp [intOf]; omega⟩
    · have hn' : j = n := by omega
      subst hn'
      go_wp2_with fail
      go_ret
      exact ⟨rfl, HM.out⟩

theorem orderC_self {n : Int} (h0 : 0 ≤ n) (h1 : n < 60) : FloatKind.f32.format.order (cwI n) (cwI n) = some .eq := order_self _ (fin_not_nan (cw_at h0 h1).2)

set_option maxRecDepth 8000 in
set_option maxHeartbeats 2000000 in
theorem heldRowS_any {g n cap : Nat} {w : World} (hn : n ≤ 8) (R : ∀ i, i < n → FiveAt (fun k => w.cell? ⟨g, k, none⟩) i (markR i)) :
    Calls Tryd.prog 8 #[.slice (some ⟨g, 0, none⟩) n cap, .int .i64 1] w fun z w' => z = .returned (.int .i64 (1 + 5 * n)) ∧ ∃ m, w' = w.drewN m := by
  have HR := Lib.hid R
  clear R
  go_enter Tryd.func8, Tryd.ntmps8
  go_wp2_with fail
  go_loopw [1, 5] (fun kv iv wr => ∃ j m : Nat, j ≤ n ∧ iv = .int .i64 j ∧ kv = .int .i64 (1 + 5 * (j : Int)) ∧ wr = w.drewN m)
    (fun _ iv _ => n - (intOf iv).toNat)
  case atStart => exact ⟨0, 0, by omega, rfl, rfl, rfl⟩
  case round =>
    obtain ⟨j, m, hj, rfl, rfl, rfl⟩ := hrel
    by_cases hlt : j < n
    · have hlt' : (j : Int) < (n : Int) := by omega
      obtain ⟨c0, c1, c2, c3, c4⟩ := HR.out j hlt
      unfold markR at c0 c1 c2 c3 c4
      dsimp only at c0 c1 c2 c3 c4
      have gl := World.block_lt_of_cell? w _ c0
      have m1 := mark_walk (n := 1 + 5 * (j : Int) + 1) (by omega) (by omega)
      have m2 := mark_walk (n := 1 + 5 * (j : Int) + 1 + 1) (by omega) (by omega)
      have m3 := mark_walk (n := 1 + 5 * (j : Int) + 1 + 1 + 1) (by omega) (by omega)
      have m4 := mark_walk (n := 1 + 5 * (j : Int) + 1 + 1 + 1 + 1) (by omega) (by omega)
      have o1 := orderC_self (n := 1 + 5 * (j : Int) + 1) (by omega) (by omega)
      have o2 := orderC_self (n := 1 + 5 * (j : Int) + 1 + 1) (by omega) (by omega)
      have o3 := orderC_self (n := 1 + 5 * (j : Int) + 1 + 1 + 1) (by omega) (by omega)
      have o4 := orderC_self (n := 1 + 5 * (j : Int) + 1 + 1 + 1 + 1) (by omega) (by omega)
      have o5 : FloatKind.f32.format.order 1065353216 1065353216 = some .eq := by decide
      go_wp2_with fail
      exact ⟨⟨j + 1, m, by omega, by go_num, by go_num, rfl⟩, by simp [intOf]; omega⟩
    · have hn' : j = n := by omega
      subst hn'
      go_wp2_with fail
      go_ret
      exact ⟨rfl, m, rfl⟩

set_option maxHeartbeats 400000 in
theorem markRowS_zero (a : Option Addr) (c : Nat) (w : World) :
    Calls Tryd.prog 7 #[.slice a 0 c, .int .i64 1] w fun z w' => z = .returned (.int .i64 1) ∧ w' = w := by
  go_enter Tryd.func7, Tryd.ntmps7
  go_wp2_with fail
  go_loopw [1, 5] (fun kv iv wr => iv = .int .i64 0 ∧ kv = .int .i64 1 ∧ wr = w)
    (fun _ iv _ => 0)
  case atStart => exact ⟨rfl, rfl, rfl⟩
  case round =>
    obtain ⟨rfl, rfl, rfl⟩ := hrel
    go_wp2_with fail
    go_ret
    exact ⟨rfl, rfl⟩

set_option maxHeartbeats 400000 in
theorem heldRowS_zero (a : Option Addr) (c : Nat) (w : World) :
    Calls Tryd.prog 8 #[.slice a 0 c, .int .i64 1] w fun z w' => z = .returned (.int .i64 1) ∧ w' = w := by
  go_enter Tryd.func8, Tryd.ntmps8
  go_wp2_with fail
  go_loopw [1, 5] (fun kv iv wr => iv = .int .i64 0 ∧ kv = .int .i64 1 ∧ wr = w)
    (fun _ iv _ => 0)
  case atStart => exact ⟨rfl, rfl, rfl⟩
  case round =>
    obtain ⟨rfl, rfl, rfl⟩ := hrel
    go_wp2_with fail
    go_ret
    exact ⟨rfl, rfl⟩

/-- A row of one's own, about to be marked. -/
theorem mk_start {w : World} {base n cap g : Nat} {xs : List Value} (O : w.ownsRow base 40 5 (.slice (some ⟨g, 0, none⟩) n cap) n xs) : MkHold w w g n 0 := by
  rcases O.2 with ⟨h, _⟩ | ⟨g', cap', cur, hv, hb, hh, h1, h2, h3, h4⟩
  · cases h
  · injection hv with hv _ hc
    injection hv with hv
    injection hv with hg _ _
    subst hg hc
    exact ⟨⟨cur, _, hh, by rw [h3]; exact Nat.mul_le_mul_right _ h1, fun i h => absurd h (by omega)⟩, grown_refl _ _⟩
theorem mk_row {w wr : World} {g n : Nat} (H : MkHold w wr g n n) : ∀ i, i < n → FiveAt (fun k => wr.cell? ⟨g, k, none⟩) i (markR i) := by
  obtain ⟨⟨cs, T, A, hs, hF⟩, _⟩ := H
  intro i hi
  obtain ⟨a, b, c, d, f⟩ := hF i hi
  exact ⟨A.cell a, A.cell b, A.cell c, A.cell d, A.cell f⟩

end Go.Proofs.YthbebgnjidaokaaDoor
