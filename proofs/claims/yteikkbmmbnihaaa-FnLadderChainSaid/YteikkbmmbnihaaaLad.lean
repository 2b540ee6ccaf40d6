/-
  Ladders: which texts they are, in the program and in the model.
-/
import Derived.Test.YteikkbmmbnihaaaTab
namespace Go.Proofs.Yteikkbmmbnihaaa
open Go.RowKit Fl

/-- The byte at a place is a digit of a ladder. -/
def dig (s : ByteArray) (k : Nat) : Bool := if h : k < s.size then decide (48 ≤ (s[k]'h).toNat) && decide ((s[k]'h).toNat ≤ 55) else true
/-- The bytes from the second one on, before a place. -/
def digs (s : ByteArray) : Nat → Bool
  | 0 => true
  | 1 => true
  | n + 2 => digs s (n + 1) && dig s (n + 1)
def headB (s : ByteArray) : Bool := if h : 0 < s.size then decide ((s[0]'h).toNat = 115) || decide ((s[0]'h).toNat = 112) else false
/-- A text is a ladder. -/
def ladB (s : ByteArray) : Bool := digs s s.size && (decide (1 ≤ s.size) && decide (s.size ≤ 4)) && headB s

theorem digs_succ (s : ByteArray) {n : Nat} (h : 1 ≤ n) : digs s (n + 1) = (digs s n && dig s n) := by
  cases n with
  | zero => omega
  | succ m => rfl
theorem digs_down (s : ByteArray) {n m : Nat} (h : n ≤ m) (hm : digs s m = true) : digs s n = true := by
  induction m with
  | zero => have : n = 0 := by omega
            subst this; exact hm
  | succ m ih =>
    by_cases he : n = m + 1
    · subst he; exact hm
    · refine ih (by omega) ?_
      by_cases h0 : 1 ≤ m
      · rw [digs_succ s h0, Bool.and_eq_true] at hm
        exact hm.1
      · have : m = 0 := by omega
        subst this; rfl
theorem digs_false (s : ByteArray) {n m : Nat} (h : 1 ≤ n) (hn : n < m) (hd : dig s n = false) : digs s m = false := by
  cases hm : digs s m
  · rfl
  · have := digs_down s (show n + 1 ≤ m by omega) hm
    rw [digs_succ s h, hd, Bool.and_false] at this
    cases this
theorem dig_at (s : ByteArray) {n : Nat} (h : n < s.size) : dig s n = (decide (48 ≤ (s[n]'h).toNat) && decide ((s[n]'h).toNat ≤ 55)) := by unfold dig; rw [dif_pos h]
theorem head_at (s : ByteArray) (h : 0 < s.size) : headB s = (decide ((s[0]'h).toNat = 115) || decide ((s[0]'h).toNat = 112)) := by unfold headB; rw [dif_pos h]
theorem head_none (s : ByteArray) (h : ¬0 < s.size) : headB s = false := by unfold headB; rw [dif_neg h]

set_option maxHeartbeats 2000000 in
theorem specLadder_any (s : ByteArray) (hs : s.size ≤ 9223372036854775807) (w : World) :
    Calls Try.prog 19 #[.string s] w fun x w' => x = .returned (.bool (ladB s)) ∧ w = w' := by
  go_enter Try.func19, Try.ntmps19
  go_wp2_with fail
  go_loopw [3] (fun k wr => ∃ n : Nat, 1 ≤ n ∧ (n ≤ s.size ∨ n = 1) ∧ k = .int .i64 n ∧ digs s n = true ∧ wr = w)
    (fun k _ => s.size - (intOf k).toNat)
  case atStart => exact ⟨1, by omega, .inr rfl, rfl, rfl, rfl⟩
  case round =>
    obtain ⟨n, hn1, hn2, rfl, hd, rfl⟩ := hrel
    have HD := Lib.hid hd
    clear hd
    by_cases hlt : n < s.size
    · obtain ⟨b, hb⟩ : ∃ b, (s[n]'hlt).toNat = b := ⟨_, rfl⟩
      have hdig := dig_at s hlt
      rw [hb] at hdig
      have HG := Lib.hid hdig
      clear hdig
      by_cases h48 : b < 48
      · have HL := Lib.hid (show ladB s = false by
          have : dig s n = false := by rw [HG.out]; simp; omega
          unfold ladB
          rw [digs_false s hn1 hlt this]
          rfl)
        go_wp2_with fail
        go_ret
        exact ⟨by rw [HL.out]; rfl, rfl⟩
      · by_cases h55 : 55 < b
        · have HL := Lib.hid (show ladB s = false by
            have : dig s n = false := by rw [HG.out]; simp; omega
            unfold ladB
            rw [digs_false s hn1 hlt this]
            rfl)
          go_wp2_with fail
          go_ret
          exact ⟨by rw [HL.out]; rfl, rfl⟩
        · have HN := Lib.hid (show digs s (n + 1) = true by
            rw [digs_succ s hn1, HD.out, HG.out]; simp; omega)
          go_wp2_with fail
          exact ⟨⟨n + 1, by omega, .inl (by omega), by go_num, HN.out, by first | rfl | trivial⟩, by simp [intOf]; omega⟩
    · have HF := Lib.hid (show digs s s.size = true from digs_down s (by omega) HD.out)
      by_cases h0 : 0 < s.size
      · obtain ⟨b, hb⟩ : ∃ b, (s[0]'h0).toNat = b := ⟨_, rfl⟩
        have hh := head_at s h0
        rw [hb] at hh
        have HH := Lib.hid hh
        clear hh
        by_cases h4 : s.size ≤ 4
        · have HI := Lib.hid (show (decide ((1 : Int) ≤ (s.size : Int)) && decide ((s.size : Int) ≤ 4)) = true by simp; omega)
          by_cases hs1 : b = 115
          · have HL := Lib.hid (show ladB s = true by
              unfold ladB
              rw [HF.out, HH.out, hs1]
              simp; omega)
            go_wp2_with fail
            refine (l1In_any _ _ _ _).mono ?_
            rw [HI.out]
            rintro e w1 ⟨rfl, rfl⟩
            go_wp2_with fail
            go_ret
            exact ⟨by rw [HL.out]; rfl, rfl⟩
          · by_cases hs2 : b = 112
            · have HL := Lib.hid (show ladB s = true by
                unfold ladB
                rw [HF.out, HH.out, hs2]
                simp; omega)
              go_wp2_with fail
              refine (l1In_any _ _ _ _).mono ?_
              rw [HI.out]
              rintro e w1 ⟨rfl, rfl⟩
              go_wp2_with fail
              go_ret
              exact ⟨by rw [HL.out]; rfl, rfl⟩
            · have HL := Lib.hid (show ladB s = false by
                unfold ladB
                rw [HF.out, HH.out]
                simp [hs1, hs2])
              go_wp2_with fail
              refine (l1In_any _ _ _ _).mono ?_
              rw [HI.out]
              rintro e w1 ⟨rfl, rfl⟩
              go_wp2_with fail
              go_ret
              have e1 : (((b : Nat) : Int) == 115) = false := by simp; omega
              have e2 : (((b : Nat) : Int) == 112) = false := by simp; omega
              refine ⟨?_, rfl⟩
              rw [HL.out]
              show Ending.returned (Value.bool (((b : Nat) : Int) == 115 || ((b : Nat) : Int) == 112)) = _
              rw [e1, e2]
              rfl
        · have HI := Lib.hid (show (decide ((1 : Int) ≤ (s.size : Int)) && decide ((s.size : Int) ≤ 4)) = false by simp; omega)
          have HL := Lib.hid (show ladB s = false by
            unfold ladB
            have : decide (s.size ≤ 4) = false := by simpa using h4
            rw [this]
            simp)
          go_wp2_with fail
          refine (l1In_any _ _ _ _).mono ?_
          rw [HI.out]
          rintro e w1 ⟨rfl, rfl⟩
          go_wp2_with fail
          go_ret
          exact ⟨by rw [HL.out]; rfl, rfl⟩
      · have HI := Lib.hid (show (decide ((1 : Int) ≤ (s.size : Int)) && decide ((s.size : Int) ≤ 4)) = false by simp; omega)
        have HL := Lib.hid (show ladB s = false by
          unfold ladB
          rw [head_none s h0, Bool.and_false])
        go_wp2_with fail
        refine (l1In_any _ _ _ _).mono ?_
        rw [HI.out]
        rintro e w1 ⟨rfl, rfl⟩
        go_wp2_with fail
        go_ret
        exact ⟨by rw [HL.out]; rfl, rfl⟩

end Go.Proofs.Yteikkbmmbnihaaa
