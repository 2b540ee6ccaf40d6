/-
  The walk of FnLadderOk: it answers true.
-/
import Derived.Test.YteikkbmmbnihaaaLadD
import Derived.Test.YteikkbmmbnihaaaImplLad

namespace Go.Proofs.Yteikkbmmbnihaaa
open Go.RowKit Fl

set_option maxRecDepth 8000 in
set_option maxHeartbeats 1000000 in
theorem drawLadderOk_any {a : Option Addr} {len cap : Nat} {zs : List Int} {w : World} (h : IsRow .u8 w a len cap zs) :
    Calls Try.prog 17 #[.slice a len cap] w (Got (fun v => ∃ s, v = .string s ∧ (IsLad s ∨ (s.size ≤ 5 ∧ ladB s = false))) w) := by
  go_enter Try.func17, Try.ntmps17
  go_wp2_with fail
  refine (open_any h).mono ?_
  rintro e w1 ⟨b, a1, len1, cap1, rfl, R1, hb, B1⟩
  go_wp2_with fail
  refine (ladder_any R1 (by omega) (by omega) (by omega)).mono ?_
  rintro e w2 ⟨v, k2, ⟨s, rfl, hs⟩, rfl, hk2, R2, G2⟩
  have HS := Lib.hid hs
  have B2 := below_drawn B1 hb B1.size G2
  clear hs R1 R2 G2 B1
  go_wp2_with fail
  go_ret
  exact ⟨_, ⟨s, rfl, HS.out⟩, rfl, B2⟩

theorem lad_size {s : ByteArray} (h : IsLad s ∨ (s.size ≤ 5 ∧ ladB s = false)) : s.size ≤ 5 := by
  rcases h with ⟨c, ds, _, h, _, rfl⟩ | ⟨h, _⟩
  · rw [ladT_size]; omega
  · exact h

/-- Without its last digit a ladder with digits is one. -/
theorem lad_shorter {s : ByteArray} (h : ladB s = true) (h2 : 2 ≤ s.size) : ladB (s.extract 0 (s.size - 1)) = true := by
  have hsz : (s.extract 0 (s.size - 1)).size = s.size - 1 := by simp
  unfold ladB at h ⊢
  simp only [Bool.and_eq_true, decide_eq_true_eq] at h
  obtain ⟨⟨hd, h1, h4⟩, hh⟩ := h
  have hget : ∀ k (hk : k < s.size - 1), (s.extract 0 (s.size - 1))[k]'(by rw [hsz]; exact hk) = s[k]'(by omega) := by
    intro k hk
    have hh : k < (s.extract 0 (s.size - 1)).size := by rw [hsz]; exact hk
    have : (s.extract 0 (s.size - 1)).data[k]'(by simpa using hh) = s.data[k]'(by have := s.size_data; omega) := by simp [ByteArray.data_extract]
    exact this
  have dd : ∀ n, n ≤ s.size - 1 → digs s n = true → digs (s.extract 0 (s.size - 1)) n = true := by
    intro n
    induction n with
    | zero => intro _ _; rfl
    | succ n ih =>
      intro hn hdn
      by_cases h0 : 1 ≤ n
      · rw [digs_succ _ h0, Bool.and_eq_true] at hdn ⊢
        refine ⟨ih (by omega) hdn.1, ?_⟩
        have e1 := dig_at s (n := n) (by omega)
        have e2 := dig_at (s.extract 0 (s.size - 1)) (n := n) (by rw [hsz]; omega)
        rw [e2, hget n (by omega), ← e1]
        exact hdn.2
      · have : n = 0 := by omega
        subst this; rfl
  rw [hsz, dd (s.size - 1) (Nat.le_refl _) (digs_down s (by omega) hd), head_at _ (by rw [hsz]; omega), hget 0 (by omega), ← head_at s (by omega), hh]
  simp
  omega

theorem few_lads : ladB ⟨#[115]⟩ = true ∧ ladB ⟨#[112]⟩ = true ∧ ladB ⟨#[]⟩ = false := ⟨by decide, by decide, by decide⟩

set_option maxRecDepth 8000 in
set_option maxHeartbeats 2000000 in
theorem FnLadderOk_walk (a : Option Addr) (len cap : Nat) (zs : List Int) (w : World) (h : IsRow .u8 w a len cap zs) :
    Calls Try.prog 4 #[.slice a len cap] w fun e w' => e = .returned (.bool true) ∧ Below w.heap.size w w' := by
  by_cases hl : (1048576 : Int) < (len : Int)
  · go_enter Try.func4, Try.ntmps4
    go_wp2_with fail
    go_ret
    exact ⟨rfl, Below.refl _ _⟩
  · go_enter Try.func4, Try.ntmps4
    go_wp2_with fail
    refine (drawLadderOk_any h).mono ?_
    rintro e w1 ⟨v, ⟨s, rfl, hs⟩, rfl, B1⟩
    have hz := lad_size hs
    obtain ⟨f1, f2, f3⟩ := few_lads
    have F := Lib.hid (And.intro f1 (And.intro f2 f3))
    clear h hs f1 f2 f3
    obtain ⟨β, hβ⟩ : ∃ β, ladB s = β := ⟨_, rfl⟩
    have HB := Lib.hid hβ
    go_wp2_with fail
    refine (implLadder_any s (by omega) _).mono ?_
    rw [HB.out]
    rintro e w2 ⟨rfl, rfl⟩
    go_wp2_with fail
    refine (specLadder_any s (by omega) _).mono ?_
    rw [HB.out]
    rintro e w2 ⟨rfl, rfl⟩
    cases β
    · go_wp2_with fail
      refine (implLadder_any _ (by decide) _).mono ?_
      rw [F.out.1]
      rintro e w2 ⟨rfl, rfl⟩
      go_wp2_with fail
      refine (implLadder_any _ (by decide) _).mono ?_
      rw [F.out.2.1]
      rintro e w2 ⟨rfl, rfl⟩
      go_wp2_with fail
      refine (implLadder_any _ (by decide) _).mono ?_
      rw [F.out.2.2]
      rintro e w2 ⟨rfl, rfl⟩
      go_wp2_with fail
      refine (alive_any _).mono ?_
      rintro e w4 ⟨rfl, rfl⟩
      go_wp2_with fail
      go_ret
      exact ⟨rfl, B1⟩
    · by_cases h2 : s.size < 2
      · go_wp2_with fail
        refine (implLadder_any _ (by decide) _).mono ?_
        rw [F.out.1]
        rintro e w2 ⟨rfl, rfl⟩
        go_wp2_with fail
        refine (implLadder_any _ (by decide) _).mono ?_
        rw [F.out.2.1]
        rintro e w2 ⟨rfl, rfl⟩
        go_wp2_with fail
        refine (implLadder_any _ (by decide) _).mono ?_
        rw [F.out.2.2]
        rintro e w2 ⟨rfl, rfl⟩
        go_wp2_with fail
        refine (alive_any _).mono ?_
        rintro e w4 ⟨rfl, rfl⟩
        go_wp2_with fail
        go_ret
        exact ⟨rfl, B1⟩
      · have hx := lad_shorter hβ (by omega)
        have h3 : 2 ≤ s.size := by omega
        have HX := Lib.hid hx
        have hy : (s.extract 0 (s.size - 1)).size ≤ 9223372036854775807 := by simp; omega
        have HY := Lib.hid hy
        clear hx hy hβ
        go_wp2_with fail
        refine (implLadder_any _ HY.out _).mono ?_
        rw [HX.out]
        rintro e w2 ⟨rfl, rfl⟩
        go_wp2_with fail
        refine (implLadder_any _ (by decide) _).mono ?_
        rw [F.out.1]
        rintro e w2 ⟨rfl, rfl⟩
        go_wp2_with fail
        refine (implLadder_any _ (by decide) _).mono ?_
        rw [F.out.2.1]
        rintro e w2 ⟨rfl, rfl⟩
        go_wp2_with fail
        refine (implLadder_any _ (by decide) _).mono ?_
        rw [F.out.2.2]
        rintro e w2 ⟨rfl, rfl⟩
        go_wp2_with fail
        refine (alive_any _).mono ?_
        rintro e w4 ⟨rfl, rfl⟩
        go_wp2_with fail
        go_ret
        exact ⟨rfl, B1⟩

set_option maxHeartbeats 1000000 in
theorem FnExactLadderOk_walk (s : ByteArray) (hs : s.size ≤ 9223372036854775807) (w : World) :
    Calls Try.prog 10 #[.string s] w fun e w' => e = .returned (.bool true) ∧ w = w' := by
  by_cases hl : (1048576 : Int) < (s.size : Int)
  · go_enter Try.func10, Try.ntmps10
    go_wp2_with fail
    go_ret
    exact ⟨rfl, rfl⟩
  · go_enter Try.func10, Try.ntmps10
    go_wp2_with fail
    refine (specLadder_any s hs _).mono ?_
    rintro e w2 ⟨rfl, rfl⟩
    go_wp2_with fail
    refine (implLadder_any s hs _).mono ?_
    rintro e w2 ⟨rfl, rfl⟩
    go_wp2_with fail
    all_goals
      go_ret
      exact ⟨by simp_all, rfl⟩

end Go.Proofs.Yteikkbmmbnihaaa
