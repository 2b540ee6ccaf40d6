/-
  Numbers read from texts, in the model.
-/
import Derived.Test.YthbebgnjidaokaaDoorTxt2
import Derived.Test.YthbebgnjidaokaaDoorMo
namespace Go.Proofs.YthbebgnjidaokaaDoor
open Go.RowKit Fl

/-- A text's bytes. -/
abbrev byt (s : ByteArray) : Tx.Bs := s.data.toList
theorem byt_len (s : ByteArray) : (byt s).length = s.size := by
  show s.data.toList.length = s.data.size
  simp
theorem byt_at (s : ByteArray) {i : Nat} (h : i < s.size) : (byt s)[i]? = some (s[i]'h) := by
  show s.data.toList[i]? = some (s.data[i]'h)
  rw [Array.getElem?_toList, Array.getElem?_eq_getElem h]
theorem byt_drop (s : ByteArray) (a : Nat) : byt (s.extract a s.size) = (byt s).drop a := by
  show (s.extract a s.size).data.toList = s.data.toList.drop a
  rw [ByteArray.data_extract, Array.toList_extract]
  simp [List.extract]
  show List.take (s.data.size - a) _ = _
  rw [List.take_of_length_le]
  simp

theorem digV_plain {l : Tx.Bs} (h : ¬(1 < l.length ∧ l.head? = some 45)) : Tx.digV l = (Tx.natV l).map Int.ofNat := by
  unfold Tx.digV
  split
  · rename_i x r
    exact absurd ⟨by simp, rfl⟩ h
  · rfl
theorem digV_hyphen {r : Tx.Bs} (h : r ≠ []) : Tx.digV (45 :: r) = match Tx.digV r with
    | some n => if 0 < n then some (-n) else none
    | none => none := by
  cases r with
  | nil => exact absurd rfl h
  | cons x t => rfl

/-- What l1Digits gives. -/
def DigV (l : Tx.Bs) (z : Ending) : Prop := ∃ v : Int, z = .returned (.tuple #[.int .i64 v, .bool (Tx.digV l).isSome]) ∧ (Tx.digV l = some v ∨ Tx.digV l = none) ∧ -9999999 ≤ v ∧ v ≤ 9999999

set_option maxRecDepth 8000 in
set_option maxHeartbeats 4000000 in
theorem digits_loop {s : ByteArray} {b : Nat} (h0 : 0 < s.size) (hb : (s[0]'h0).toNat = b) (hlen : (byt s).length = s.size) (hs7 : s.size ≤ 7) (HI : Hid ((decide ((1 : Int) ≤ (s.size : Int)) && decide ((s.size : Int) ≤ 7)) = true))
    (HNo : Hid (Tx.natV (byt s) = none → DigV (byt s) (.returned (.tuple #[.int .i64 0, .bool false])))) (HD : Hid (Tx.natV (byt s) = Lib.decFrom 0 (byt s))) (HBad : Hid (∀ k (h : k < s.size), Lib.digitVal (s[k]'h) = none → Lib.decFrom 0 (byt s) = none))
    (HP : Hid (Tx.digV (byt s) = (Tx.natV (byt s)).map Int.ofNat)) (g : (1 < s.size ∧ ((b : Int) == 45) = false ∧ ((b : Int) == 48) = false) ∨ ¬1 < s.size) (w : World) :
    Calls Tryd.prog 10 #[.string s] w fun z w' => DigV (byt s) z ∧ w = w' := by
  rcases g with ⟨g1, q1, q2⟩ | g1
  all_goals
    go_enter Tryd.func10, Tryd.ntmps10
    go_wp2_with fail
    refine (l1In_any _ _ _ _).mono ?_
    first | rw [HI.out] | skip
    rintro z w1 ⟨rfl, hw1⟩
    subst hw1
    go_wp2_with fail
    go_loopw [6, 7] (fun nv kv wr => ∃ k m : Nat, k ≤ s.size ∧ kv = .int .i64 k ∧ nv = .int .i64 m ∧ Lib.decFrom 0 ((byt s).take k) = some m ∧ wr = w)
      (fun _ kv _ => s.size - (intOf kv).toNat)
    case atStart => exact ⟨0, 0, by omega, rfl, rfl, rfl, rfl⟩
    case round =>
      obtain ⟨k, m, hk, rfl, rfl, hF, rfl⟩ := hrel
      have hm7 : m < 10000000 := by
        have h1 := Lib.decFrom_lt _ _ _ hF
        rw [List.length_take] at h1
        have h2 : (0 + 1) * 10 ^ min k (byt s).length ≤ 10 ^ 7 := by
          rw [Nat.zero_add, Nat.one_mul]
          exact Nat.pow_le_pow_right (by decide) (by omega)
        omega
      by_cases hlt : k < s.size
      · obtain ⟨c, hc⟩ : ∃ c, (s[k]'hlt).toNat = c := ⟨_, rfl⟩
        by_cases h48 : c < 48
        · have HN := Lib.hid (HNo.out (HD.out.trans (HBad.out k hlt (by unfold Lib.digitVal; rw [if_neg (by rw [hc]; omega)]))))
          go_wp2_with fail
          go_ret2
          exact ⟨HN.out, rfl⟩
        · by_cases h57 : 57 < c
          · have HN := Lib.hid (HNo.out (HD.out.trans (HBad.out k hlt (by unfold Lib.digitVal; rw [if_neg (by rw [hc]; omega)]))))
            go_wp2_with fail
            go_ret2
            exact ⟨HN.out, rfl⟩
          · have hdv : Lib.digitVal (s[k]'hlt) = some (c - 48) := by unfold Lib.digitVal; rw [hc, if_pos (by omega)]
            have HS := Lib.hid (Lib.decFrom_take (byt s) k 0 m _ _ hF (byt_at s hlt) hdv)
            have e1 : IntKind.i64.wrap (10 * (m : Int)) = 10 * (m : Int) := IntWalk.i64_in _ (by omega)
            have e2 : ((c : Int) - 48) = ((c - 48 : Nat) : Int) := by omega
            have hm8 : m * 10 + (c - 48) < 100000000 := by omega
            clear hF hdv
            go_wp2_with fail
            exact ⟨⟨k + 1, m * 10 + (c - 48), by omega, by go_num, by go_num, HS.out, by first | rfl | trivial⟩, by simp [intOf]; omega⟩
      · have hke : k = s.size := by omega
        have hF' : Lib.decFrom 0 (byt s) = some m := by rw [← hF, hke, ← hlen, List.take_length]
        have HV : Hid (Tx.digV (byt s) = some (m : Int)) := Lib.hid (by rw [HP.out, HD.out, hF']; rfl)
        clear hF hF'
        go_wp2_with fail
        go_ret2
        exact ⟨⟨m, by rw [HV.out]; rfl, .inl HV.out, by omega, by omega⟩, rfl⟩

set_option maxRecDepth 8000 in
set_option maxHeartbeats 4000000 in
theorem l1Digits_any : ∀ (n : Nat) (s : ByteArray), s.size = n → n ≤ 1048576 → ∀ (w : World),
    Calls Tryd.prog 10 #[.string s] w fun z w' => DigV (byt s) z ∧ w = w' := by
  intro n
  induction n using Nat.strongRecOn with
  | ind n ih =>
    intro s hn hle w
    subst hn
    have hlen := byt_len s
    by_cases hm : 1 < s.size ∧ (byt s).head? = some 45
    · obtain ⟨h1, h45⟩ := hm
      have h0 : 0 < s.size := by omega
      have hb : (s[0]'h0).toNat = 45 := by
        have := byt_at s h0
        rw [List.head?_eq_getElem?] at h45
        rw [this] at h45
        injection h45 with h45
        rw [h45]
        rfl
      have hd := byt_drop s 1
      have hs1 : (s.extract 1 s.size).size = s.size - 1 := by rw [← byt_len, hd, List.length_drop]; omega
      have IH := Lib.hid (ih (s.size - 1) (by omega) (s.extract 1 s.size) hs1 (by omega))
      have hl : byt s = 45 :: (byt s).drop 1 := by
        cases hx : byt s with
        | nil => rw [hx] at hlen; simp at hlen; omega
        | cons x r =>
          rw [hx] at h45
          injection h45 with h45
          subst h45
          rfl
      have hne : (byt s).drop 1 ≠ [] := by
        intro e
        have := congrArg List.length e
        rw [List.length_drop] at this
        simp at this
        omega
      have HV := Lib.hid (digV_hyphen hne)
      rw [← hl, ← hd] at HV
      clear hl hne hd h45 ih
      go_enter Tryd.func10, Tryd.ntmps10
      go_wp2_with fail
      refine (IH.out _).mono ?_
      rintro z w1 ⟨⟨v, rfl, hv, v0, v1⟩, hw1⟩
      subst hw1
      have e1 : IntKind.i64.wrap (0 - v) = -v := by rw [IntWalk.i64_in _ (by omega)]; omega
      have e2 : IntKind.i64.wrap (-v) = -v := by rw [IntWalk.i64_in _ (by omega)]
      obtain ⟨o, ho⟩ : ∃ o, Tx.digV (byt (s.extract 1 s.size)) = o := ⟨_, rfl⟩
      rw [ho] at hv HV ⊢
      clear ho
      cases o with
      | none =>
        have HV' := Lib.hid (show Tx.digV (byt s) = none from HV.out)
        clear HV hv
        go_wp2_with fail
        go_ret2
        exact ⟨⟨-v, by rw [HV'.out]; rfl, .inr HV'.out, by omega, by omega⟩, rfl⟩
      | some m =>
        have hvm : m = v := by
          rcases hv with h | h
          · injection h
          · cases h
        subst hvm
        clear hv
        by_cases hp : 0 < m
        · have HV' := Lib.hid (show Tx.digV (byt s) = some (-m) by rw [HV.out]; show (if 0 < m then some (-m) else none) = _; rw [if_pos hp])
          clear HV
          go_wp2_with fail
          go_ret2
          exact ⟨⟨-m, by rw [HV'.out]; first | rfl | simp [hp], .inl HV'.out, by omega, by omega⟩, rfl⟩
        · have HV' := Lib.hid (show Tx.digV (byt s) = none by rw [HV.out]; show (if 0 < m then some (-m) else none) = _; rw [if_neg hp])
          clear HV
          go_wp2_with fail
          go_ret2
          exact ⟨⟨-m, by rw [HV'.out]; first | rfl | simp [hp], .inr HV'.out, by omega, by omega⟩, rfl⟩
    · have HP := Lib.hid (digV_plain (l := byt s) (by rw [hlen]; exact hm))
      clear ih
      have hno : ∀ {v : Int}, Tx.natV (byt s) = none → DigV (byt s) (.returned (.tuple #[.int .i64 0, .bool false])) := by
        intro v h
        have : Tx.digV (byt s) = none := by rw [HP.out, h]; rfl
        exact ⟨0, by rw [this]; rfl, .inr this, by omega, by omega⟩
      have HNo := Lib.hid (@hno 0)
      clear hno
      by_cases hsz : 1 ≤ s.size ∧ s.size ≤ 7
      · obtain ⟨hs1, hs7⟩ := hsz
        have HI := Lib.hid (show (decide ((1 : Int) ≤ (s.size : Int)) && decide ((s.size : Int) ≤ 7)) = true by simp; omega)
        have h0 : 0 < s.size := by omega
        obtain ⟨b, hb⟩ : ∃ b, (s[0]'h0).toNat = b := ⟨_, rfl⟩
        have hhd : (byt s).head? = some (s[0]'h0) := by rw [List.head?_eq_getElem?]; exact byt_at s h0
        have hm' : ¬(1 < s.size ∧ b = 45) := by
          rintro ⟨h1, h2⟩
          refine hm ⟨h1, ?_⟩
          rw [hhd]
          congr 1
          apply UInt8.toNat_inj.1
          rw [hb, h2]
          rfl
        by_cases hz : 1 < s.size ∧ b = 48
        · obtain ⟨hz1, hz2⟩ := hz
          have hn : Tx.natV (byt s) = none := by
            unfold Tx.natV
            rw [if_neg]
            rintro ⟨_, h⟩
            refine h ⟨by omega, ?_⟩
            rw [hhd]
            congr 1
            apply UInt8.toNat_inj.1
            rw [hb, hz2]
            rfl
          have HN := Lib.hid (HNo.out hn)
          subst hz2
          clear hn hm hm' hhd
          go_enter Tryd.func10, Tryd.ntmps10
          go_wp2_with fail
          refine (l1In_any _ _ _ _).mono ?_
          first | rw [HI.out] | skip
          rintro z w1 ⟨rfl, hw1⟩
          subst hw1
          go_wp2_with fail
          go_ret2
          exact ⟨HN.out, rfl⟩
        · have hnat : Tx.natV (byt s) = Lib.decFrom 0 (byt s) := by
            unfold Tx.natV
            rw [if_pos]
            refine ⟨by omega, ?_⟩
            rintro ⟨h1, h2⟩
            refine hz ⟨by omega, ?_⟩
            rw [hhd] at h2
            injection h2 with h2
            rw [← hb, h2]
            rfl
          have HD := Lib.hid hnat
          have hbad : ∀ k (h : k < s.size), Lib.digitVal (s[k]'h) = none → Lib.decFrom 0 (byt s) = none := by
            intro k h hd
            cases hx : Lib.decFrom 0 (byt s) with
            | none => rfl
            | some n =>
              obtain ⟨d, e⟩ := Lib.digit_of_decFrom _ _ _ hx k _ (byt_at s h)
              rw [hd] at e
              cases e
          have HBad := Lib.hid hbad
          have hfirst : (1 < s.size ∧ b ≠ 45 ∧ b ≠ 48) ∨ ¬1 < s.size := by
            by_cases h1 : ¬1 < s.size
            · exact .inr h1
            · exact .inl ⟨by omega, fun h => hm' ⟨by omega, h⟩, fun h => hz ⟨by omega, h⟩⟩
          clear hnat hbad hm hm' hz hhd
          have hq : ¬1 < s.size ∨ (((b : Int) == 45) = false ∧ ((b : Int) == 48) = false) := by
            rcases hfirst with ⟨g1, g2, g3⟩ | g1
            · exact .inr ⟨by simp; omega, by simp; omega⟩
            · exact .inl g1
          rcases hfirst with ⟨g1, g2, g3⟩ | g1
          · obtain ⟨q1, q2⟩ := hq.resolve_left (by omega)
            exact digits_loop h0 hb hlen hs7 HI HNo HD HBad HP (.inl ⟨g1, q1, q2⟩) w
          · exact digits_loop h0 hb hlen hs7 HI HNo HD HBad HP (.inr g1) w
      · have HI := Lib.hid (show (decide ((1 : Int) ≤ (s.size : Int)) && decide ((s.size : Int) ≤ 7)) = false by simp; omega)
        have hn : Tx.natV (byt s) = none := by
          unfold Tx.natV
          rw [if_neg]
          rintro ⟨⟨h1, h2⟩, _⟩
          rw [hlen] at h1 h2
          exact hsz ⟨h1, h2⟩
        have HN := Lib.hid (HNo.out hn)
        clear hn
        by_cases h00 : s.size = 0
        · go_enter Tryd.func10, Tryd.ntmps10
          go_wp2_with fail
          refine (l1In_any _ _ _ _).mono ?_
          first | rw [HI.out] | skip
          rintro z w1 ⟨rfl, hw1⟩
          subst hw1
          go_wp2_with fail
          go_ret2
          exact ⟨HN.out, rfl⟩
        · have h0 : 0 < s.size := by omega
          have h1 : 1 < s.size := by omega
          obtain ⟨b, hb⟩ : ∃ b, (s[0]'h0).toNat = b := ⟨_, rfl⟩
          have hhd : (byt s).head? = some (s[0]'h0) := by rw [List.head?_eq_getElem?]; exact byt_at s h0
          have hb45 : b ≠ 45 := by
            rintro rfl
            refine hm ⟨h1, ?_⟩
            rw [hhd]
            congr 1
            apply UInt8.toNat_inj.1
            rw [hb]
            rfl
          clear hhd hm
          go_enter Tryd.func10, Tryd.ntmps10
          go_wp2_with fail
          refine (l1In_any _ _ _ _).mono ?_
          first | rw [HI.out] | skip
          rintro z w1 ⟨rfl, hw1⟩
          subst hw1
          go_wp2_with fail
          go_ret2
          exact ⟨HN.out, rfl⟩

end Go.Proofs.YthbebgnjidaokaaDoor
