/-
  The walk of FnExactNoiseOf: it answers true.
-/
import Derived.Test.YtjacmojmjicmjaaSt
import Derived.Test.YtjacmojmjicmjaaNoiseT
import Derived.Test.YtjacmojmjicmjaaImplNoiseT
import Derived.Test.YtjacmojmjicmjaaNzL
import Derived.Deep.RegionHeld3
namespace Go.Proofs.Ytjacmojmjicmjaa
open Go.RowKit Fl

set_option maxHeartbeats 1000000 in
theorem szStageS_any {a : Option Addr} {len cap : Nat} (hl : len ≤ 9223372036854775807) (w : World) :
    Calls Try.prog 40 #[.slice a len cap, .int .i64 1048576] w fun z w' => z = .returned (.int .i64 (if len ≤ 1048576 then 1048576 - (len : Int) else -1)) ∧ w' = w := by
  by_cases h : len ≤ 1048576
  · rw [if_pos h]
    go_enter Try.func40, Try.ntmps40
    go_wp2_with fail
    go_ret
    exact ⟨by first | rfl | go_num, rfl⟩
  · rw [if_neg h]
    go_enter Try.func40, Try.ntmps40
    go_wp2_with fail
    go_ret
    exact ⟨rfl, rfl⟩

set_option maxHeartbeats 1000000 in
theorem eqStage_same (x y : Nat) (w : World) :
    Calls Try.prog 70 #[stgV x y, stgV x y] w fun z w' => z = .returned (.bool true) ∧ Calm w w' := by
  have A0 := (At.new w (.cells #[.float .f64 x, .float .f64 y] 43)).alloc (.cells #[.float .f64 x, .float .f64 y] 43)
  have A1 := At.new (w.alloc (.cells #[.float .f64 x, .float .f64 y] 43)) (.cells #[.float .f64 x, .float .f64 y] 43)
  rw [show (w.alloc (.cells #[.float .f64 x, .float .f64 y] 43)).heap.size = w.heap.size + 1 by simp] at A1
  have K0 : Calm w ((w.alloc (.cells #[.float .f64 x, .float .f64 y] 43)).alloc (.cells #[.float .f64 x, .float .f64 y] 43)) := calm_allocR (calm_new w _) _
  go_enter Try.func70, Try.ntmps70
  go_wp2_with fail
  refine (sameFloat_same _ _).mono ?_
  rintro z w1 ⟨rfl, n1, hw1⟩
  have B0 : At w1 w.heap.size (.cells #[.float .f64 x, .float .f64 y] 43) := by rw [hw1]; exact A0.drewN n1
  have B1 : At w1 (w.heap.size + 1) (.cells #[.float .f64 x, .float .f64 y] 43) := by rw [hw1]; exact A1.drewN n1
  have K1 : Calm w w1 := by rw [hw1]; exact grown_drewN K0 n1
  clear hw1 A0 A1 K0
  have b0 : w1.cell? ⟨w.heap.size, 1, none⟩ = some (.float .f64 y) := B0.cell (i := 1) rfl
  have b1 : w1.cell? ⟨w.heap.size + 1, 1, none⟩ = some (.float .f64 y) := B1.cell (i := 1) rfl
  have l0 := B0.lt
  have l1 := B1.lt
  go_wp2_with fail
  refine (sameFloat_same _ _).mono ?_
  rintro z w2 ⟨rfl, n2, hw2⟩
  have K2 : Calm w w2 := by rw [hw2]; exact grown_drewN K1 n2
  clear hw2
  go_wp2_with fail
  go_ret
  exact ⟨rfl, K2⟩

theorem eqs_drew {w wx : World} {g h j x y : Nat} (H : wx.cell? ⟨g, j * 2, none⟩ = some (.float .f64 x) ∧ wx.cell? ⟨g, j * 2 + 1, none⟩ = some (.float .f64 y) ∧ wx.cell? ⟨h, j * 2, none⟩ = some (.float .f64 x) ∧ wx.cell? ⟨h, j * 2 + 1, none⟩ = some (.float .f64 y) ∧ Calm w wx) : wx.drew.cell? ⟨g, j * 2, none⟩ = some (.float .f64 x) ∧ wx.drew.cell? ⟨g, j * 2 + 1, none⟩ = some (.float .f64 y) ∧ wx.drew.cell? ⟨h, j * 2, none⟩ = some (.float .f64 x) ∧ wx.drew.cell? ⟨h, j * 2 + 1, none⟩ = some (.float .f64 y) ∧ Calm w wx.drew := by
  obtain ⟨a, b, c, d, C⟩ := H
  exact ⟨a, b, c, d, grown_drew C⟩
theorem eqs_calm {w wx wy : World} {g h j x y : Nat} (K : Calm wx wy) (H : wx.cell? ⟨g, j * 2, none⟩ = some (.float .f64 x) ∧ wx.cell? ⟨g, j * 2 + 1, none⟩ = some (.float .f64 y) ∧ wx.cell? ⟨h, j * 2, none⟩ = some (.float .f64 x) ∧ wx.cell? ⟨h, j * 2 + 1, none⟩ = some (.float .f64 y) ∧ Calm w wx) : wy.cell? ⟨g, j * 2, none⟩ = some (.float .f64 x) ∧ wy.cell? ⟨g, j * 2 + 1, none⟩ = some (.float .f64 y) ∧ wy.cell? ⟨h, j * 2, none⟩ = some (.float .f64 x) ∧ wy.cell? ⟨h, j * 2 + 1, none⟩ = some (.float .f64 y) ∧ Calm w wy := by
  obtain ⟨a, b, c, d, C⟩ := H
  have h1 := K.block g (World.block_lt_of_cell? wx _ a) (fun e => by cases e)
  have h2 := K.block h (World.block_lt_of_cell? wx _ c) (fun e => by cases e)
  exact ⟨by rw [World.cell?_of_block (w := wx) h1]; exact a, by rw [World.cell?_of_block (w := wx) h1]; exact b, by rw [World.cell?_of_block (w := wx) h2]; exact c, by rw [World.cell?_of_block (w := wx) h2]; exact d, calm_trans C K⟩
theorem eqs_done {w wx : World} {g h j x y : Nat} (H : wx.cell? ⟨g, j * 2, none⟩ = some (.float .f64 x) ∧ wx.cell? ⟨g, j * 2 + 1, none⟩ = some (.float .f64 y) ∧ wx.cell? ⟨h, j * 2, none⟩ = some (.float .f64 x) ∧ wx.cell? ⟨h, j * 2 + 1, none⟩ = some (.float .f64 y) ∧ Calm w wx) : Calm w wx := H.2.2.2.2

set_option maxRecDepth 8000 in
set_option maxHeartbeats 2000000 in
theorem eqStageS_same {g h cap cap' n : Nat} {ws : List (Nat × Nat)} {w : World} (hn : ws.length = n) (hl : n ≤ 1048576) (hg : Row2 w g ws) (hh : Row2 w h ws) :
    Calls Try.prog 43 #[.slice (some ⟨g, 0, none⟩) n cap, .slice (some ⟨h, 0, none⟩) n cap'] w fun z w' => z = .returned (.bool true) ∧ Calm w w' := by
  have HG := Lib.hid hg
  have HH := Lib.hid hh
  clear hg hh
  go_enter Try.func43, Try.ntmps43
  go_wp2_with fail
  go_loopw [5] (fun k wr => ∃ j : Nat, j ≤ n ∧ k = .int .i64 j ∧ Calm w wr)
    (fun k _ => n - (intOf k).toNat)
  case atStart => exact ⟨0, by omega, rfl, grown_refl _ _⟩
  case round =>
    obtain ⟨j, hj, rfl, C⟩ := hrel
    have HC := Lib.hid C
    clear C
    by_cases hlt : j < n
    · obtain ⟨a1, a2⟩ := (HG.out.calm HC.out) j (by omega)
      obtain ⟨b1, b2⟩ := (HH.out.calm HC.out) j (by omega)
      rw [Nat.mul_comm] at a1 a2 b1 b2
      have al := World.block_lt_of_cell? wr _ a1
      have bl := World.block_lt_of_cell? wr _ b1
      generalize ws[j] = p at *
      obtain ⟨x, y⟩ := p
      dsimp only at a1 a2 b1 b2
      have HS0 : wr.cell? ⟨g, j * 2, none⟩ = some (.float .f64 x) ∧ wr.cell? ⟨g, j * 2 + 1, none⟩ = some (.float .f64 y) ∧ wr.cell? ⟨h, j * 2, none⟩ = some (.float .f64 x) ∧ wr.cell? ⟨h, j * 2 + 1, none⟩ = some (.float .f64 y) ∧ Calm w wr := ⟨a1, a2, b1, b2, HC.out⟩
      clear a1 a2 b1 b2
      go_wp2_with fail
      go_region_held3 (fun w' => w'.cell? ⟨g, j * 2, none⟩ = some (.float .f64 x) ∧ w'.cell? ⟨g, j * 2 + 1, none⟩ = some (.float .f64 y) ∧ w'.cell? ⟨h, j * 2, none⟩ = some (.float .f64 x) ∧ w'.cell? ⟨h, j * 2 + 1, none⟩ = some (.float .f64 y) ∧ Calm w w') (first | with_reducible assumption | with_reducible exact eqs_drew ‹_› | with_reducible exact eqs_calm ‹_› ‹_› | with_reducible exact eqs_calm ‹_› (eqs_drew ‹_›))
          (first
          | (go_at_call 70; refine Calls.mono (eqStage_same _ _ _) ?_; rintro e w' ⟨rfl, C⟩))
      have hL := eqs_done ‹_›
      go_wp2_with fail
      exact ⟨⟨j + 1, by omega, by go_num, hL⟩, by simp [intOf]; omega⟩
    · go_wp2_with fail
      go_ret
      exact ⟨rfl, HC.out⟩

/-- What NoiseOf gives, both ways, for any list. -/
theorem noise_any (ws : List (Nat × Nat)) : ∃ (x : Nat) (β : Bool), ∀ (w : World) (g n cap : Nat), ws.length = n → n ≤ cap → Row2 w g ws →
    (Calls Try.prog 33 #[.slice (some ⟨g, 0, none⟩) n cap] w fun z w' => z = .returned (.tuple #[.float .f64 x, .bool β]) ∧ Calm w w') ∧
    (Calls Try.prog 34 #[.slice (some ⟨g, 0, none⟩) n cap] w fun z w' => z = .returned (.tuple #[.float .f64 x, .bool β]) ∧ Calm w w') := by
  by_cases hn : ws.length < 1 ∨ 6 < ws.length
  · refine ⟨0, false, fun w g n cap h hc R => ?_⟩
    subst h
    exact ⟨implNoise_no hn w, specNoise_no hn w⟩
  · have h1 : 1 ≤ ws.length := by omega
    have h6 : ws.length ≤ 6 := by omega
    cases hs : noiseT 0 0 4607182418800017408 ws with
    | none =>
      refine ⟨0, false, fun w g n cap h hc R => ?_⟩
      subst h
      have a := implNoise_t (cap := cap) R h1 h6 hc
      have b := specNoise_t (cap := cap) R h1 h6
      rw [hs] at a b
      exact ⟨a, b⟩
    | some s =>
      refine ⟨s, true, fun w g n cap h hc R => ?_⟩
      subst h
      have a := implNoise_t (cap := cap) R h1 h6 hc
      have b := specNoise_t (cap := cap) R h1 h6
      rw [hs] at a b
      exact ⟨a, b⟩

set_option maxRecDepth 8000 in
set_option maxHeartbeats 2000000 in
theorem FnExactNoiseOf_walk (a : Option Addr) (len cap : Nat) (ws : List (Nat × Nat)) (w : World) (H : SRow w a len ws) (hb : len ≤ 9223372036854775807) :
    Calls Try.prog 10 #[.slice a len cap] w fun e w' => e = .returned (.bool true) ∧ Below w.heap.size w w' := by
  by_cases hl : len ≤ 1048576
  · have hz := szStageS_any (a := a) (cap := cap) hb w
    rw [if_pos hl] at hz
    have hws := H.1
    have HS := Lib.hid H
    obtain ⟨x, β, hN⟩ := noise_any ws
    have HN := Lib.hid hN
    clear hN H
    go_enter Try.func10, Try.ntmps10
    go_wp2_with fail
    refine hz.mono ?_
    rintro z w0 ⟨rfl, hw0⟩
    subst hw0
    clear hz
    go_wp2_with fail
    refine (toStageS_any HS.out hl).mono ?_
    rintro z w1 ⟨rfl, R1, C1⟩
    have hm := (HN.out _ _ _ len hws (Nat.le_refl _) R1).2
    clear R1
    go_wp2_with fail
    refine hm.mono ?_
    rintro z w2 ⟨rfl, C2⟩
    have K2 := Lib.hid (calm_trans C1 C2)
    clear hm C1 C2
    go_wp2_with fail
    refine (toStageS_any (HS.out.calm K2.out) hl).mono ?_
    rintro z w3 ⟨rfl, R3, C3⟩
    have hm := (HN.out _ _ _ len hws (Nat.le_refl _) R3).1
    have HR3 := Lib.hid R3
    have K3 := Lib.hid (calm_trans K2.out C3)
    clear R3 C3 K2
    go_wp2_with fail
    refine hm.mono ?_
    rintro z w4 ⟨rfl, C4⟩
    have HR4 := Lib.hid (HR3.out.calm C4)
    have K4 := Lib.hid (calm_trans K3.out C4)
    clear C4 K3 HR3 hm
    go_wp2_with fail
    refine (sameFloat_same _ _).mono ?_
    rintro z w5 ⟨rfl, n5, hw5⟩
    have HR5 := Lib.hid (show Row2 w5 w2.heap.size ws by rw [hw5]; exact HR4.out.calm (grown_drewN (grown_refl _ _) n5))
    have K5 := Lib.hid (show Calm w0 w5 by rw [hw5]; exact grown_drewN K4.out n5)
    clear hw5 K4 HR4
    cases β
    all_goals
      go_wp2_with fail
      refine (toStageS_any (HS.out.calm K5.out) hl).mono ?_
      rintro z w6 ⟨rfl, R6, C6⟩
      have hm := eqStageS_same (cap := len) (cap' := len) hws hl (HR5.out.calm C6) R6
      have K6 := Lib.hid (calm_trans K5.out C6)
      clear R6 C6 K5 HR5
      go_wp2_with fail
      refine hm.mono ?_
      rintro z w7 ⟨rfl, C7⟩
      have K7 := calm_trans K6.out C7
      clear C7 K6 hm
      go_wp2_with fail
      go_ret
      exact ⟨rfl, below_calm (Below.refl _ _) (Nat.le_refl _) K7⟩
  · have hz := szStageS_any (a := a) (cap := cap) hb w
    rw [if_neg hl] at hz
    go_enter Try.func10, Try.ntmps10
    go_wp2_with fail
    refine hz.mono ?_
    rintro z w0 ⟨rfl, hw0⟩
    subst hw0
    go_wp2_with fail
    go_ret
    exact ⟨rfl, Below.refl _ _⟩

end Go.Proofs.Ytjacmojmjicmjaa
