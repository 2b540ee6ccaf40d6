/-
  The walk of FnReadTable: it answers true.
-/
import Derived.Test.YthbebgnjidaokaaGreatDoorDrawRT
import Derived.Test.YthbebgnjidaokaaGreatDoorIRow
import Derived.Test.YthbebgnjidaokaaGreatDoorIText
namespace Go.Proofs.YthbebgnjidaokaaGreatDoor
open Go.RowKit Fl

/-- The rows that are read. -/
def readR (o : Option (List Tx.RowI)) : List RowW := (o.getD []).map rowM
theorem readR_ok {l : Tx.Bs} {o : Option (List Tx.RowI)} (h : readT l = o) : tabB (readR o) = true ∨ readR o = [] := by
  cases o with
  | none => exact .inr rfl
  | some rI => exact .inl (read_write h).1

set_option maxRecDepth 8000 in
set_option maxHeartbeats 2000000 in
theorem FnReadTable_walk (a : Option Addr) (len cap : Nat) (zs : List Int) (w : World) (h : IsRow .u8 w a len cap zs) (hLib : LibOk w) :
    Calls Tryz.prog 4 #[.slice a len cap] w fun e w' => e = .returned (.bool true) ∧ Below w.heap.size w w' := by
  by_cases hl : (1048576 : Int) < (len : Int)
  · go_enter Tryz.func4, Tryz.ntmps4
    go_wp2_with fail
    go_ret
    exact ⟨rfl, Below.refl _ _⟩
  · go_enter Tryz.func4, Tryz.ntmps4
    go_wp2_with fail
    refine (drawReadTable_any h).mono ?_
    rintro e w1 ⟨s, rfl, hs, B1⟩
    clear h
    have HB1 := Lib.hid B1
    have HLb := Lib.hid (hLib.below B1)
    clear B1 hLib
    obtain ⟨o, ho⟩ : ∃ o, readT (byt s) = o := ⟨_, rfl⟩
    obtain ⟨n, hn⟩ : ∃ n, (readR o).length = n := ⟨_, rfl⟩
    have HO := Lib.hid ho
    have HN := Lib.hid hn
    have I1 := implReadTable_any s (by omega) HLb.out
    rw [ho] at I1
    have S1 := fun w => specReadTable_any s (by omega) w
    rw [ho] at S1
    have HI := Lib.hid I1
    have HS := Lib.hid S1
    clear ho hn I1 S1
    go_wp2_with fail
    refine HI.out.mono ?_
    rintro z w2 ⟨v, rfl, O2, C2⟩
    have hlen : ((o.getD []).map rowM).length = n := HN.out
    rw [hlen] at O2
    obtain ⟨x, c, rfl, T2⟩ := trow_own (rs := readR o) O2 HN.out
    clear hlen
    have HT2 := Lib.hid T2
    have HC2 := Lib.hid C2
    clear O2 T2 C2 HI
    go_wp2_with fail
    refine (HS.out w2).mono ?_
    rintro z w3 ⟨g, c', rfl, O3, C3⟩
    have hlen : ((o.getD []).map rowM).length = n := HN.out
    rw [hlen] at O3
    rw [hlen]
    have T3 := row5_ofR (rs := readR o) (by rw [HN.out]; exact O3)
    have HT3 := Lib.hid (show TRow w3 (some ⟨g, 0, none⟩) (readR o) from .inr ⟨g, rfl, T3⟩)
    have HU3 := Lib.hid (HT2.out.calm C3)
    have HC3 := Lib.hid (calm_trans HC2.out C3)
    clear O3 T3 C3 HT2 HC2 HS hlen
    have hn9 : n ≤ 8 := by
      rw [← HN.out]
      rcases readR_ok HO.out with h | h
      · exact (tabB_len h).2
      · rw [h]; simp
    go_wp2_with fail
    refine (sameTable_eq HU3.out HT3.out HN.out HN.out (by omega) (tabE_refl (readR_ok HO.out))).mono ?_
    rintro z w4 ⟨rfl, C4⟩
    have HU4 := Lib.hid (HU3.out.calm C4)
    have HC4 := Lib.hid (calm_trans HC3.out C4)
    clear C4 HU3 HT3 HC3
    cases o with
    | none =>
      have hn0 : n = 0 := by rw [← HN.out]; rfl
      subst hn0
      go_wp2_with fail
      refine (alive_any _).mono ?_
      rintro z w5 ⟨rfl, hw5⟩
      subst hw5
      go_wp2_with fail
      go_ret
      exact ⟨rfl, below_calm HB1.out HB1.out.size HC4.out⟩
    | some rI =>
      obtain ⟨r1, r2, r3⟩ := read_write HO.out
      have hn1 : 1 ≤ n := by rw [← HN.out]; exact (tabB_len r1).1
      obtain ⟨g', rfl, R4⟩ := HU4.out.resolve_left (by intro e; have := HN.out; rw [e] at this; simp at this; omega)
      have HR4 := Lib.hid R4
      have e1 : textV (tabT (readR (some rI))) = .tuple #[.string s, .bool true] := by
        show textV (tabT (rI.map rowM)) = _
        rw [r2]
        show Value.tuple #[.string (txt (byt s)), .bool true] = _
        rw [txt_byt]
      have e2 : readT (byt (s ++ ⟨#[32]⟩)) = none := by rw [byt_app]; exact r3
      have hsz : (s ++ ⟨#[32]⟩ : ByteArray).size ≤ 1048576 := by
        rw [ByteArray.size_append]
        have : (⟨#[32]⟩ : ByteArray).size = 1 := rfl
        omega
      have HT := Lib.hid (show ∀ w : World, Calm w1 w → Row5 w g' (readR (some rI)) → Calls Tryz.prog 6 #[.slice (some ⟨g', 0, none⟩) n c] w fun z w' => z = .returned (.tuple #[.string s, .bool true]) ∧ Calm w w' by
        intro w C R
        have := implTableText_any (cap := c) R HN.out (by omega) (HLb.out.calm C)
        rw [e1] at this
        exact this)
      have HK := Lib.hid (show ∀ w : World, Row5 w g' (readR (some rI)) → Calls Tryz.prog 16 #[.slice (some ⟨g', 0, none⟩) n c] w fun z w' => z = .returned (.bool true) ∧ Calm w w' by
        intro w R
        have := implTableOk_any (cap := c) R HN.out (by omega)
        rw [show tabB (readR (some rI)) = true from r1] at this
        exact this)
      have HM := Lib.hid (show ∀ w : World, Calm w1 w → Calls Tryz.prog 9 #[.string (s ++ ⟨#[32]⟩)] w fun z w' => ∃ v, z = .returned (.tuple #[v, .bool false]) ∧ Calm w w' by
        intro w C
        refine (implReadTable_any _ (by omega) (HLb.out.calm C)).mono ?_
        rw [e2]
        rintro z w' ⟨v, rfl, _, C⟩
        exact ⟨v, rfl, C⟩)
      have hcat : s.size + 1 ≤ 9223372036854775807 := by omega
      have hcat2 : ¬ (9223372036854775807 < s.size + 1) := by omega
      clear r1 r2 r3 R4 HU4 e1 e2 hsz HO
      go_wp2_with fail
      refine (HT.out _ HC4.out HR4.out).mono ?_
      rintro z w5 ⟨rfl, C5⟩
      have HR5 := Lib.hid (HR4.out.calm C5)
      have HC5 := Lib.hid (calm_trans HC4.out C5)
      clear C5 HR4 HC4 HT
      go_wp2_with fail
      refine (HM.out _ HC5.out).mono ?_
      rintro z w6 ⟨v, rfl, C6⟩
      have HR6 := Lib.hid (HR5.out.calm C6)
      have HC6 := Lib.hid (calm_trans HC5.out C6)
      clear C6 HR5 HC5 HM
      go_wp2_with fail
      refine (HK.out _ HR6.out).mono ?_
      rintro z w7 ⟨rfl, C7⟩
      have HC7 := Lib.hid (calm_trans HC6.out C7)
      clear C7 HR6 HC6 HK
      go_wp2_with fail
      go_ret
      exact ⟨rfl, below_calm HB1.out HB1.out.size HC7.out⟩

end Go.Proofs.YthbebgnjidaokaaGreatDoor
