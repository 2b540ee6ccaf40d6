/-
  LadderOk in the program.
-/
import Derived.Test.YteikkbmmbnihaaaLad
namespace Go.Proofs.Yteikkbmmbnihaaa
open Go.RowKit Fl

theorem toList_ne {s : ByteArray} (h : 0 < s.size) : ¬ s.toList = [] := by
  rw [ByteArray.toList_eq]
  intro e
  have := congrArg List.length e
  rw [Array.length_toList] at this
  have e2 : s.data.size = s.size := rfl
  have e3 : s.data.size = 0 := this
  omega
theorem toList_nil {s : ByteArray} (h : ¬ 0 < s.size) : s.toList = [] := by
  rw [ByteArray.toList_eq]
  apply List.length_eq_zero_iff.1
  rw [Array.length_toList]
  have e2 : s.data.size = s.size := rfl
  omega

set_option maxHeartbeats 2000000 in
theorem implLadder_any (s : ByteArray) (hs : s.size ≤ 9223372036854775807) (w : World) :
    Calls Try.prog 18 #[.string s] w fun x w' => x = .returned (.bool (ladB s)) ∧ w = w' := by
  by_cases h0 : 0 < s.size
  · obtain ⟨b, hb⟩ : ∃ b, (s[0]'h0).toNat = b := ⟨_, rfl⟩
    have hh := head_at s h0
    rw [hb] at hh
    have HH := Lib.hid hh
    clear hh
    have hnl := toList_ne h0
    have hnl2 : s.toList.isEmpty = false := by
      cases h : s.toList with
      | nil => exact absurd h hnl
      | cons => rfl
    by_cases h4 : s.size ≤ 4
    · by_cases hsp : b = 115 ∨ b = 112
      · have HT := Lib.hid (show headB s = true by rw [HH.out]; simpa using hsp)
        have e0 : decide ((s.size : Int) < 1) = false := by simp; omega
        have e4 : decide (4 < (s.size : Int)) = false := by simp; omega
        have ee : ((((b : Nat) : Int) != 115) && (((b : Nat) : Int) != 112)) = false := by rcases hsp with rfl | rfl <;> rfl
        go_enter Try.func18, Try.ntmps18
        go_wp2_with fail
        all_goals
          go_loopw [3] (fun k wr => ∃ n : Nat, 1 ≤ n ∧ n ≤ s.size ∧ k = .int .i64 n ∧ digs s n = true ∧ wr = w)
            (fun k _ => s.size - (intOf k).toNat)
          case atStart => exact ⟨1, by omega, by omega, rfl, rfl, rfl⟩
          case round =>
            obtain ⟨n, hn1, hn2, rfl, hd, rfl⟩ := hrel
            have HD := Lib.hid hd
            clear hd
            by_cases hlt : n < s.size
            · obtain ⟨c, hc⟩ : ∃ c, (s[n]'hlt).toNat = c := ⟨_, rfl⟩
              have hdig := dig_at s hlt
              rw [hc] at hdig
              have HG := Lib.hid hdig
              clear hdig
              by_cases h48 : c < 48
              · have HL := Lib.hid (show ladB s = false by
                  have : dig s n = false := by rw [HG.out]; simp; omega
                  unfold ladB
                  rw [digs_false s hn1 hlt this]
                  rfl)
                go_wp2_with fail
                go_ret
                exact ⟨by rw [HL.out]; rfl, rfl⟩
              · by_cases h56 : 56 ≤ c
                · have HL := Lib.hid (show ladB s = false by
                    have : dig s n = false := by rw [HG.out]; simp; omega
                    unfold ladB
                    rw [digs_false s hn1 hlt this]
                    rfl)
                  go_wp2_with fail
                  go_ret
                  exact ⟨by rw [HL.out]; rfl, rfl⟩
                · have HN := Lib.hid (show digs s (n + 1) = true by
                    rw [digs_succ s hn1, HD.out, HG.out]; simp; omega)
                  go_wp2_with fail
                  exact ⟨⟨n + 1, by omega, by omega, by go_num, HN.out, by first | rfl | trivial⟩, by simp [intOf]; omega⟩
            · have hn : n = s.size := by omega
              have HL := Lib.hid (show ladB s = true by
                unfold ladB
                rw [← hn, HD.out, HT.out, hn]
                simp; omega)
              go_wp2_with fail
              go_ret
              exact ⟨by rw [HL.out]; rfl, rfl⟩
      · have HL := Lib.hid (show ladB s = false by
          unfold ladB
          rw [HH.out]
          have : (decide (b = 115) || decide (b = 112)) = false := by simpa using hsp
          rw [this, Bool.and_false])
        have e1 : (((b : Nat) : Int) != 115) = true := by simp; omega
        have e2 : (((b : Nat) : Int) != 112) = true := by simp; omega
        go_enter Try.func18, Try.ntmps18
        go_wp2_with fail
        all_goals
          go_ret
          exact ⟨by rw [HL.out]; rfl, rfl⟩
    · have HL := Lib.hid (show ladB s = false by
        unfold ladB
        have : decide (s.size ≤ 4) = false := by simpa using h4
        rw [this]
        simp)
      go_enter Try.func18, Try.ntmps18
      go_wp2_with fail
      go_ret
      exact ⟨by rw [HL.out]; rfl, rfl⟩
  · have HL := Lib.hid (show ladB s = false by
      unfold ladB
      rw [head_none s h0, Bool.and_false])
    have hnl := toList_nil h0
    have hnl2 : s.toList.isEmpty = true := by rw [hnl]; rfl
    go_enter Try.func18, Try.ntmps18
    go_wp2_with fail
    go_ret
    exact ⟨by rw [HL.out]; rfl, rfl⟩

end Go.Proofs.Yteikkbmmbnihaaa
