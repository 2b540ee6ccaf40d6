/-
  The walk of FnExactReadTable: it answers true.
-/
import Derived.Test.YthbebgnjidaokaaDoorMark
namespace Go.Proofs.YthbebgnjidaokaaDoor
open Go.RowKit Fl

set_option maxRecDepth 8000 in
set_option maxHeartbeats 2000000 in
theorem FnExactReadTable_walk (s : ByteArray) (hs : s.size ≤ 9223372036854775807) (w : World) (hLib : LibOk w) :
    Calls Tryd.prog 3 #[.string s] w fun e w' => e = .returned (.bool true) ∧ Below w.heap.size w w' := by
  by_cases hl : (1048576 : Int) < (s.size : Int)
  · go_enter Tryd.func3, Tryd.ntmps3
    go_wp2_with fail
    go_ret
    exact ⟨rfl, Below.refl _ _⟩
  · obtain ⟨o, ho⟩ : ∃ o, readT (byt s) = o := ⟨_, rfl⟩
    obtain ⟨n, hn⟩ : ∃ n, (readR o).length = n := ⟨_, rfl⟩
    have hok := readR_ok ho
    have hfin : ∀ r ∈ readR o, r.finB = true := by
      intro r hr
      rcases hok with h | h
      · exact tabB_fin h r hr
      · rw [h] at hr; simp at hr
    have hn8 : n ≤ 8 := by
      rw [← hn]
      rcases hok with h | h
      · exact (tabB_len h).2
      · rw [h]; simp
    have HI := Lib.hid (show ∀ w1 : World, Below w.heap.size w w1 → Calls Tryd.prog 5 #[.string s] w1 fun z w' => ∃ v, z = .returned (.tuple #[v, .bool o.isSome]) ∧ w'.ownsRow w1.heap.size 40 5 v n (cells5 (readR o)) ∧ Calm w1 w' by
      intro w1 B
      refine (implReadTable_any s (by omega) (hLib.below B)).mono ?_
      rw [ho]
      rintro z w' ⟨v, rfl, O, C⟩
      rw [show ((o.getD []).map rowM).length = n from hn] at O
      exact ⟨v, rfl, O, C⟩)
    have HS := Lib.hid (show ∀ w : World, Calls Tryd.prog 4 #[.string s] w fun z w' => ∃ g c, z = .returned (.tuple #[.slice (some ⟨g, 0, none⟩) n c, .bool o.isSome]) ∧ w'.ownsRow w.heap.size 40 5 (.slice (some ⟨g, 0, none⟩) n c) n (cells5 (readR o)) ∧ Calm w w' by
      intro w
      refine (specReadTable_any s (by omega) w).mono ?_
      rw [ho]
      rintro z w' ⟨g, c, rfl, O, C⟩
      rw [show ((o.getD []).map rowM).length = n from hn] at O ⊢
      exact ⟨g, c, rfl, O, C⟩)
    have HN := Lib.hid hn
    have HF := Lib.hid hfin
    obtain ⟨β, hβ⟩ : ∃ β, o.isSome = β := ⟨_, rfl⟩
    rw [hβ] at HI HS
    generalize readR o = rs at *
    clear ho hn hok hfin hβ hLib
    go_enter Tryd.func3, Tryd.ntmps3
    go_wp2_with fail
    refine (HS.out _).mono ?_
    rintro z w1 ⟨gs, cs, rfl, O1, C1⟩
    have HO1 := Lib.hid O1
    have HC1 := Lib.hid C1
    clear O1 C1 HS
    go_wp2_with fail
    refine (HI.out _ (below_calm (Below.refl _ _) (Nat.le_refl _) HC1.out)).mono ?_
    rintro z w2 ⟨v, rfl, O2, C2⟩
    obtain ⟨a, c, rfl, T2⟩ := trow_own O2 HN.out
    have HO2 := Lib.hid O2
    have HT2 := Lib.hid T2
    have HS2 := Lib.hid (show TRow w2 (some ⟨gs, 0, none⟩) rs from .inr ⟨gs, rfl, (row5_ofR (by rw [HN.out]; exact HO1.out)).calm C2⟩)
    have HC2 := Lib.hid (calm_trans HC1.out C2)
    have hgs := (own_cells HO1.out).2.2.1
    have HG := Lib.hid (show gs < w1.heap.size from hgs)
    have HZ := Lib.hid (show w1.heap.size ≤ w2.heap.size from C2.size)
    clear O2 T2 C2 HC1 hgs
    go_wp2_with fail
    refine (eqRowS_same HT2.out HS2.out HN.out (by omega) HF.out).mono ?_
    rintro z w3 ⟨rfl, C3⟩
    have HO3 := Lib.hid (HO2.out.kept C3 (by cases Value.ownBlock (.slice a n c) <;> simp))
    have HS3 := Lib.hid (HS2.out.calm C3)
    have HC3 := Lib.hid (calm_trans HC2.out C3)
    clear C3 HT2 HS2 HC2 HO2
    by_cases hn0 : n = 0
    · subst hn0
      go_wp2_with fail
      refine (markRowS_zero _ _ _).mono ?_
      rintro z w4 ⟨rfl, rfl⟩
      go_wp2_with fail
      refine (heldRowS_zero _ _ _).mono ?_
      rintro z w5 ⟨rfl, rfl⟩
      go_wp2_with fail
      refine (HI.out _ (below_calm (Below.refl _ _) (Nat.le_refl _) HC3.out)).mono ?_
      rintro z w6 ⟨v6, rfl, O6, C6⟩
      obtain ⟨a6, c6, rfl, T6⟩ := trow_own O6 HN.out
      have HT6 := Lib.hid T6
      have HS6 := Lib.hid (HS3.out.calm C6)
      have HC6 := Lib.hid (calm_trans HC3.out C6)
      clear O6 T6 C6 HI
      go_wp2_with fail
      refine (eqRowS_same HT6.out HS6.out HN.out (by omega) HF.out).mono ?_
      rintro z w7 ⟨rfl, C7⟩
      have HC7 := Lib.hid (calm_trans HC6.out C7)
      clear C7
      go_wp2_with fail
      refine (heldRowS_zero _ _ _).mono ?_
      rintro z w8 ⟨rfl, rfl⟩
      go_wp2_with fail
      go_ret
      exact ⟨rfl, below_calm (Below.refl _ _) (Nat.le_refl _) HC7.out⟩
    · have hav : ∃ g, a = some ⟨g, 0, none⟩ ∧ w1.heap.size ≤ g := by
        rcases HO3.out.2 with ⟨h, h0⟩ | ⟨g, cap, cur, hv, hb, _⟩
        · exact absurd h0 hn0
        · injection hv with hv _ _
          exact ⟨g, hv, hb⟩
      obtain ⟨g, rfl, hg⟩ := hav
      have hne : gs ≠ g := by have := HG.out; omega
      have M3 := Lib.hid (mk_start HO3.out)
      have hwg : w.heap.size ≤ g := by have := HC3.out.size; have := (own_cells HO1.out).2.2.2.1; have := HG.out; omega
      go_wp2_with fail
      refine (markRowS_any hn8 M3.out).mono ?_
      rintro z w4 ⟨rfl, M4⟩
      have HR4 := Lib.hid (mk_row M4)
      have HB4 := Lib.hid (below_drawn (below_calm (Below.refl _ _) (Nat.le_refl _) HC3.out) hwg HC3.out.size M4.gr)
      have HS4 := Lib.hid (show TRow w4 (some ⟨gs, 0, none⟩) rs by
        rcases HS3.out with h | ⟨g', e, h⟩
        · exact .inl h
        · injection e with e
          injection e with e
          subst e
          exact .inr ⟨gs, rfl, h.grown M4.gr hne⟩)
      clear M4 M3 HS3 HC3 HO3 HO1
      go_wp2_with fail
      refine (heldRowS_any hn8 HR4.out).mono ?_
      rintro z w5 ⟨rfl, m5, hw5⟩
      have C5 : Calm w4 w5 := by rw [hw5]; exact grown_drewN (grown_refl _ _) m5
      have HS5 := Lib.hid (HS4.out.calm C5)
      have HB5 := Lib.hid (below_calm HB4.out HB4.out.size C5)
      have HR5 := Lib.hid (show ∀ i, i < n → FiveAt (fun k => w5.cell? ⟨g, k, none⟩) i (markR i) from fun i hi => by rw [hw5]; exact HR4.out i hi)
      clear hw5 C5 HS4 HB4 HR4
      have hk0 : ¬ (1 + 5 * (n : Int) < 0) := by omega
      go_wp2_with fail
      refine (HI.out _ HB5.out).mono ?_
      rintro z w6 ⟨v6, rfl, O6, C6⟩
      obtain ⟨a6, c6, rfl, T6⟩ := trow_own O6 HN.out
      have HT6 := Lib.hid T6
      have HS6 := Lib.hid (HS5.out.calm C6)
      have HB6 := Lib.hid (below_calm HB5.out HB5.out.size C6)
      have HC6 := Lib.hid C6
      clear O6 T6 C6 HI HS5 HB5
      go_wp2_with fail
      refine (eqRowS_same HT6.out HS6.out HN.out (by omega) HF.out).mono ?_
      rintro z w7 ⟨rfl, C7⟩
      have HB7 := Lib.hid (below_calm HB6.out HB6.out.size C7)
      have HC7 := Lib.hid (calm_trans HC6.out C7)
      clear C7 HB6 HC6 HT6 HS6
      go_wp2_with fail
      refine (heldRowS_any hn8 (fun i hi => (HR5.out i hi).block (HC7.out.block g (World.block_lt_of_cell? w5 _ (HR5.out i hi).1) (fun e => by cases e)))).mono ?_
      rintro z w8 ⟨rfl, m8, hw8⟩
      have HB8 := Lib.hid (show Below w.heap.size w w8 by rw [hw8]; exact below_drewN HB7.out m8)
      clear hw8 HB7
      go_wp2_with fail
      go_ret
      exact ⟨rfl, HB8.out⟩

end Go.Proofs.YthbebgnjidaokaaDoor
