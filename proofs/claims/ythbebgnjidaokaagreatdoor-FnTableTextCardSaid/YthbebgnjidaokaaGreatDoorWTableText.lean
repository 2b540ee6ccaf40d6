/-
  The walk of FnTableText: it answers true.
-/
import Derived.Test.YthbebgnjidaokaaGreatDoorWReadTable
import Derived.BigQuiet
namespace Go.Proofs.YthbebgnjidaokaaGreatDoor
open Go.RowKit Fl

theorem int_ok {r : RowW} (hf : 0 ≤ r.f ∧ r.f ≤ 9999999) : r.int.ok :=
  ⟨⟨by show -9999999 ≤ r.f; omega, hf.2⟩, mT_ok _ _, mT_ok _ _, mT_ok _ _, mT_ok _ _⟩
theorem back_num {z : Tx.Cn} (h : Tx.numOk z) : fin .f32 (milliB z.1) = true ∧ fin .f32 (milliB z.2) = true :=
  ⟨fin_milli h.1.1 h.1.2, fin_milli h.2.1 h.2.2⟩
theorem back_fin (r : RowW) : (rowM r.int).finB = true := by
  obtain ⟨a, b⟩ := back_num (mT_ok r.m.a r.m.b)
  obtain ⟨c, d⟩ := back_num (mT_ok r.m.c r.m.d)
  obtain ⟨e, f⟩ := back_num (mT_ok r.m.e r.m.f)
  obtain ⟨g, h⟩ := back_num (mT_ok r.m.g r.m.h)
  show finTwo _ _ _ _ _ _ _ _ = true
  unfold finTwo
  show ((fin .f32 (milliB (mT r.m.a r.m.b).1) && fin .f32 (milliB (mT r.m.a r.m.b).2)) && (fin .f32 (milliB (mT r.m.c r.m.d).1) && fin .f32 (milliB (mT r.m.c r.m.d).2)) && (fin .f32 (milliB (mT r.m.e r.m.f).1) && fin .f32 (milliB (mT r.m.e r.m.f).2)) && (fin .f32 (milliB (mT r.m.g r.m.h).1) && fin .f32 (milliB (mT r.m.g r.m.h).2))) = true
  rw [a, b, c, d, e, f, g, h]
  rfl
theorem rowsB_back (rs : List RowW) : ∀ p, rowsB p rs = true → rowsB p ((rs.map RowW.int).map rowM) = true := by
  induction rs with
  | nil => intro p _; rfl
  | cons x xs ih =>
    intro p h
    have h' : (freqB x.f && x.finB && afterB p x.f && rowsB (some x.f) xs) = true := h
    simp only [Bool.and_eq_true] at h'
    show (freqB x.f && (rowM x.int).finB && afterB p x.f && rowsB (some x.f) ((xs.map RowW.int).map rowM)) = true
    rw [h'.1.1.1, back_fin, h'.1.2, ih _ h'.2]
    rfl
/-- What is written is read. -/
theorem write_read {rs : List RowW} {l : Tx.Bs} (h : tabT rs = some l) : readT l = some (rs.map RowW.int) ∧ tabT ((rs.map RowW.int).map rowM) = some l ∧ tabB rs = true ∧ ∀ r ∈ rs, r.told = true := by
  unfold tabT at h
  cases ht : tabB rs
  · rw [ht] at h; simp at h
  · cases ha : rs.all RowW.told
    · rw [ht, ha] at h; simp at h
    · rw [ht, ha] at h
      injection h with h
      have hb : tabB ((rs.map RowW.int).map rowM) = true := by
        unfold tabB at ht ⊢
        simp only [Bool.and_eq_true] at ht ⊢
        refine ⟨rowsB_back rs none ht.1, ?_⟩
        rw [List.length_map, List.length_map]
        exact ht.2
      have hr : readT l = some (rs.map RowW.int) := by
        unfold readT
        rw [← h, Tx.rowsV_textT (by
          intro r hr
          obtain ⟨x, hx, rfl⟩ := List.mem_map.1 hr
          exact int_ok (tabB_freq ht x hx))]
        simp only
        rw [hb]
        rfl
      refine ⟨hr, (read_write hr).2.1, rfl, ?_⟩
      rw [List.all_eq_true] at ha
      exact ha

/-- A number that is as its thousandths say. -/
def NE (z : Nat × Nat) : Prop := NumE (milliB (mT z.1 z.2).1) (milliB (mT z.1 z.2).2) z.1 z.2
theorem rowE_back {r : RowW} (h : ∀ i, (hi : i < r.nums.length) → NE r.nums[i]) : RowE (rowM r.int) r :=
  ⟨rfl, h 0 (by show 0 < 4; omega), h 1 (by show 1 < 4; omega), h 2 (by show 2 < 4; omega), h 3 (by show 3 < 4; omega)⟩
theorem told_num {r : RowW} (h : r.told = true) : ∀ i, (hi : i < r.nums.length) → mB r.nums[i].1 r.nums[i].2 = true := by
  unfold RowW.told at h
  simp only [Bool.and_eq_true] at h
  intro i hi
  have hi4 : i < 4 := hi
  rcases (show i = 0 ∨ i = 1 ∨ i = 2 ∨ i = 3 by omega) with rfl | rfl | rfl | rfl
  · exact h.1
  · exact h.2.1
  · exact h.2.2.1
  · exact h.2.2.2
theorem mB_fin {a b : Nat} (h : mB a b = true) : NumF (milliB (mT a b).1) (milliB (mT a b).2) a b := by
  obtain ⟨h1, h2⟩ := back_num (mT_ok a b)
  unfold mB mI at h
  split at h
  · rename_i hh
    simp only [Bool.and_eq_true] at hh
    exact ⟨h1, h2, hh.1.1.1, hh.1.1.2⟩
  · cases h

set_option maxRecDepth 8000 in
set_option maxHeartbeats 2000000 in
theorem drawTableText_any {a : Option Addr} {len cap : Nat} {zs : List Int} {w : World} (h : IsRow .u8 w a len cap zs) :
    Calls Tryz.prog 5 #[.slice a len cap] w fun e w' => ∃ (g c : Nat) (rs : List RowW), e = .returned (.slice (some ⟨g, 0, none⟩) rs.length c) ∧ rs.length ≤ 9 ∧ rs.length ≤ c ∧ Row5 w' g rs ∧ Below w.heap.size w w' := by
  go_enter Tryz.func5, Tryz.ntmps5
  go_wp2_with fail
  refine (open_any h).mono ?_
  rintro e w1 ⟨b, a1, len1, cap1, rfl, R1, hb, B1⟩
  go_wp2_with fail
  refine (table_any R1 (by omega) (by omega) (by omega)).mono ?_
  rintro e w2 ⟨g, c, k2, rs, rfl, hl, _, _, _, O2, G2⟩
  have HO := Lib.hid O2
  have HB := Lib.hid (below_drawn B1 hb B1.size G2)
  clear O2 G2 B1
  go_wp2_with fail
  go_ret
  exact ⟨g, c, rs, rfl, hl, (own_cells HO.out).2.2.2.2, row5_of HO.out, HB.out⟩

set_option maxRecDepth 8000 in
set_option maxHeartbeats 4000000 in
theorem FnTableText_walk (a : Option Addr) (len cap : Nat) (zs : List Int) (w : World) (h : IsRow .u8 w a len cap zs) (hLib : LibOk w) :
    Calls Tryz.prog 3 #[.slice a len cap] w fun e w' => e = .returned (.bool true) ∧ Below w.heap.size w w' := by
  by_cases hl : (1048576 : Int) < (len : Int)
  · go_enter Tryz.func3, Tryz.ntmps3
    go_wp2_with fail
    go_ret
    exact ⟨rfl, Below.refl _ _⟩
  · go_enter Tryz.func3, Tryz.ntmps3
    go_wp2_with fail
    refine (drawTableText_any h).mono ?_
    rintro e w1 ⟨g, c, rs, rfl, h9, hrc, R1, B1⟩
    clear h
    have HR1 := Lib.hid R1
    have HB1 := Lib.hid B1
    have HLb := Lib.hid (hLib.below B1)
    clear hLib
    clear R1 B1
    cases ho : tabT rs with
    | none =>
      have hv : textV (tabT rs) = .tuple #[.string ⟨#[]⟩, .bool false] := by rw [ho]; rfl
      have HV := Lib.hid hv
      clear hv ho
      go_wp2_with fail
      refine (implTableText_any HR1.out rfl (by omega) HLb.out).mono ?_
      rw [HV.out]
      rintro z w2 ⟨rfl, C2⟩
      have HC2 := Lib.hid C2
      clear C2
      go_wp2_with fail
      refine (specTableText_any (HR1.out.calm HC2.out) rfl (by omega)).mono ?_
      rw [HV.out]
      rintro z w3 ⟨rfl, C3⟩
      have HC3 := Lib.hid (calm_trans HC2.out C3)
      clear C3 HC2
      go_wp2_with fail
      refine (alive_any _).mono ?_
      rintro z w5 ⟨rfl, hw5⟩
      subst hw5
      go_wp2_with fail
      go_ret
      exact ⟨rfl, below_calm HB1.out HB1.out.size HC3.out⟩
    | some l =>
      have hv : textV (tabT rs) = .tuple #[.string (txt l), .bool true] := by rw [ho]; rfl
      obtain ⟨r1, r2, r3, r4⟩ := write_read ho
      obtain ⟨s, hs⟩ : ∃ s, txt l = s := ⟨_, rfl⟩
      have hsz : s.size ≤ 960 := by rw [← hs, txt_size]; exact tabT_len ho
      have hb : byt s = l := by rw [← hs, byt_txt]
      rw [hs] at hv
      have HV := Lib.hid hv
      have HI := Lib.hid (show ∀ w : World, Calm w1 w → Calls Tryz.prog 9 #[.string s] w fun z w' => ∃ g' c', z = .returned (.tuple #[.slice (some ⟨g', 0, none⟩) rs.length c', .bool true]) ∧ Row5 w' g' ((rs.map RowW.int).map rowM) ∧ Calm w w' by
        intro w C
        refine (implReadTable_any s (by omega) (HLb.out.calm C)).mono ?_
        rw [hb, r1]
        rintro z w' ⟨v, rfl, O, C⟩
        have hlen : (((some (rs.map RowW.int)).getD []).map rowM).length = rs.length := by simp
        rw [hlen] at O
        obtain ⟨x, c', rfl, T⟩ := trow_own (rs := (rs.map RowW.int).map rowM) O (by simp)
        have h1 := (tabB_len r3).1
        obtain ⟨g', rfl, R⟩ := T.resolve_left (by intro e; have := congrArg List.length e; simp at this; subst this; simp at h1)
        exact ⟨g', c', rfl, R, C⟩)
      have HA := Lib.hid (show ∀ (w : World) (g' c' : Nat), Calm w1 w → Row5 w g' ((rs.map RowW.int).map rowM) → Calls Tryz.prog 6 #[.slice (some ⟨g', 0, none⟩) rs.length c'] w fun z w' => z = .returned (.tuple #[.string s, .bool true]) ∧ Calm w w' by
        intro w g' c' C R
        have := implTableText_any (cap := c') R (by simp : _ = rs.length) (by omega) (HLb.out.calm C)
        rw [r2] at this
        rw [← hs]
        exact this)
      have HT := Lib.hid r4
      clear hv ho r1 r2 r3 r4 hs hb
      go_wp2_with fail
      refine (implTableText_any HR1.out rfl (by omega) HLb.out).mono ?_
      rw [HV.out]
      rintro z w2 ⟨rfl, C2⟩
      have HC2 := Lib.hid C2
      clear C2
      go_wp2_with fail
      refine (specTableText_any (HR1.out.calm HC2.out) rfl (by omega)).mono ?_
      rw [HV.out]
      rintro z w3 ⟨rfl, C3⟩
      have HC3 := Lib.hid (calm_trans HC2.out C3)
      clear C3 HC2 HV
      go_wp2_with fail
      refine (HI.out _ HC3.out).mono ?_
      rintro z w4 ⟨g', c', rfl, R4, C4⟩
      have HR4 := Lib.hid R4
      have HC4 := Lib.hid (calm_trans HC3.out C4)
      clear C4 R4 HC3 HI
      go_wp2_with fail
      refine (HA.out _ _ _ HC4.out HR4.out).mono ?_
      rintro z w5 ⟨rfl, C5⟩
      have HR5 := Lib.hid (HR4.out.calm C5)
      have HC5 := Lib.hid (calm_trans HC4.out C5)
      clear C5 HR4 HC4 HA
      go_wp2_with fail
      go_loopw [12] (fun kv wr => ∃ k : Nat, k ≤ rs.length ∧ kv = .int .i64 k ∧ (∀ i, (h : i < rs.length) → i < k → RowE (rowM rs[i].int) rs[i]) ∧ Calm w5 wr)
        (fun kv _ => rs.length - (intOf kv).toNat)
      case atStart => exact ⟨0, by omega, rfl, fun i _ h => absurd h (by omega), grown_refl _ _⟩
      case round =>
        obtain ⟨k, hk, rfl, hE, C⟩ := hrel
        have HE := Lib.hid hE
        have HC := Lib.hid C
        clear hE C
        by_cases hlt : k < rs.length
        · have hcells : ∀ w', Calm w5 w' → FiveAt (fun j => w'.cell? ⟨g, j, none⟩) k rs[k] := fun w' C => (HR1.out.calm (calm_trans HC5.out C)) k hlt
          have htold := told_num (HT.out rs[k] (List.getElem_mem hlt))
          have hnext : RowE (rowM rs[k].int) rs[k] → ∀ i, (h : i < rs.length) → i < k + 1 → RowE (rowM rs[i].int) rs[i] := by
            intro h i hi hik
            by_cases e : i = k
            · subst e; exact h
            · exact HE.out i hi (by omega)
          generalize rs[k] = r at *
          have HL := Lib.hid hcells
          have HTo := Lib.hid htold
          have HNx := Lib.hid hnext
          clear hcells htold hnext
          obtain ⟨a0, a1, a2, a3, a4⟩ := HL.out _ HC.out
          have hgl := World.block_lt_of_cell? wr _ a0
          dsimp only at a0 a1 a2 a3 a4 hgl
          have A0 := Lib.hid (At.new wr (.cells #[.complex .f32 r.m.a r.m.b, .complex .f32 r.m.c r.m.d, .complex .f32 r.m.e r.m.f, .complex .f32 r.m.g r.m.h] 30))
          go_wp2_with fail
          go_region
          have A1 : At (wr.alloc (.cells #[.complex .f32 r.m.a r.m.b, .complex .f32 r.m.c r.m.d, .complex .f32 r.m.e r.m.f, .complex .f32 r.m.g r.m.h] 30)).drew wr.heap.size (.cells #[.complex .f32 r.m.a r.m.b, .complex .f32 r.m.c r.m.d, .complex .f32 r.m.e r.m.f, .complex .f32 r.m.g r.m.h] 30) := A0.out
          have C1 : Calm w5 (wr.alloc (.cells #[.complex .f32 r.m.a r.m.b, .complex .f32 r.m.c r.m.d, .complex .f32 r.m.e r.m.f, .complex .f32 r.m.g r.m.h] 30)).drew := grown_drew (calm_allocR HC.out _)
          obtain ⟨x, hx⟩ : ∃ x, wr.heap.size = x := ⟨_, rfl⟩
          rw [hx] at A1 ⊢
          generalize (wr.alloc (.cells #[.complex .f32 r.m.a r.m.b, .complex .f32 r.m.c r.m.d, .complex .f32 r.m.e r.m.f, .complex .f32 r.m.g r.m.h] 30)).drew = w6 at A1 C1 ⊢
          have HA1 := Lib.hid A1
          have HC1 := Lib.hid C1
          clear a0 a1 a2 a3 a4 hgl A0 A1 C1 hx HC
          go_wp2_with fail
          go_loopw [14] (fun jv wv => ∃ j : Nat, j ≤ 4 ∧ jv = .int .i64 j ∧ (∀ i, (h : i < r.nums.length) → i < j → NE r.nums[i]) ∧ Calm w6 wv)
            (fun jv _ => 4 - (intOf jv).toNat)
          case atStart => exact ⟨0, by omega, rfl, fun i _ h => absurd h (by omega), grown_refl _ _⟩
          case round =>
            obtain ⟨j, hj, rfl, hN, C⟩ := hrel
            have HNj := Lib.hid hN
            have HCj := Lib.hid C
            clear hN C
            by_cases hj4 : j < 4
            · have hjn : j < r.nums.length := hj4
              have hv : wr.cell? ⟨x, j, none⟩ = some (.complex .f32 r.nums[j].1 r.nums[j].2) := by
                have HAv := HA1.out.calm HCj.out
                rcases (show j = 0 ∨ j = 1 ∨ j = 2 ∨ j = 3 by omega) with rfl | rfl | rfl | rfl
                · exact HAv.cell (i := 0) rfl
                · exact HAv.cell (i := 1) rfl
                · exact HAv.cell (i := 2) rfl
                · exact HAv.cell (i := 3) rfl
              have htj := HTo.out j hjn
              have hyes : NE r.nums[j] → ∀ i, (h : i < r.nums.length) → i < j + 1 → NE r.nums[i] := by
                intro h i hi hij
                by_cases e : i = j
                · subst e; exact h
                · exact HNj.out i hi (by omega)
              have HYs := Lib.hid hyes
              clear hyes
              obtain ⟨z, hz⟩ : ∃ z, r.nums[j] = z := ⟨_, rfl⟩
              rw [hz] at hv htj
              have HY := Lib.hid (hz ▸ HYs.out : NE z → ∀ i, (h : i < r.nums.length) → i < j + 1 → NE r.nums[i])
              clear HYs hz
              have al := World.block_lt_of_cell? wr _ hv
              have hm : mOf z.1 z.2 = .tuple #[.int .i64 (mT z.1 z.2).1, .int .i64 (mT z.1 z.2).2, .bool true] := by rw [mOf_is, htj]
              obtain ⟨⟨p0, p1⟩, q0, q1⟩ := mT_ok z.1 z.2
              have hmv := milliV_in ⟨p0, p1⟩ ⟨q0, q1⟩
              have HF := Lib.hid (mB_fin htj)
              have HM := Lib.hid hm
              have HV := Lib.hid hmv
              clear hm hmv htj p0 p1 q0 q1
              have HP := Lib.hid (show NE z = NumE (milliB (mT z.1 z.2).1) (milliB (mT z.1 z.2).2) z.1 z.2 from rfl)
              generalize mT z.1 z.2 = pq at *
              obtain ⟨p, q⟩ := pq
              obtain ⟨zx, zy⟩ := z
              dsimp only at hv HF HM HV HP
              go_wp2_with fail
              refine (specMilliOf_any _ _ _).mono ?_
              rw [HM.out]
              rintro y w7 ⟨rfl, n7, hw7⟩
              have C7 := Lib.hid (show Calm w6 w7 by rw [hw7]; exact grown_drewN HCj.out n7)
              have hv7 : w7.cell? ⟨x, j, none⟩ = some (.complex .f32 zx zy) := by rw [hw7]; exact hv
              have al7 := World.block_lt_of_cell? w7 _ hv7
              clear hw7 hv al
              obtain ⟨β, hβ⟩ : ∃ β, (pE (milliB p) zx && pE (milliB q) zy) = β := ⟨_, rfl⟩
              have HB := Lib.hid (sameBits_fin HF.out)
              rw [hβ] at HB
              have HE' := Lib.hid (show β = true → NE (zx, zy) by
                intro h
                rw [← hβ, Bool.and_eq_true] at h
                rw [HP.out]
                exact ⟨HF.out, h.1, h.2⟩)
              clear hβ HP HF HM
              go_wp2_with fail
              have HMi := Lib.hid (show ∀ w : World, Calls Tryz.prog 12 #[.int .i64 p, .int .i64 q] w fun e w' => e = .returned (.complex .f32 (milliB p) (milliB q)) ∧ ∃ m, w' = w.drewN m by
                intro w
                refine (specMilli_any p q w).mono ?_
                rw [HV.out]
                rintro e w' ⟨rfl, rfl⟩
                exact ⟨rfl, 0, rfl⟩)
              go_quiet (first
                | (go_at_call 12; refine Calls.quiet_of (HMi.out _))
                | (go_at_call 11; refine Calls.quiet_of (HB.out _)))
              cases β
              · go_wp2_with fail
                go_ret
                exact ⟨rfl, below_calm HB1.out HB1.out.size (grown_drewN (calm_trans HC5.out (calm_trans HC1.out C7.out)) nq)⟩
              · go_wp2_with fail
                exact ⟨⟨j + 1, by omega, by go_num, HY.out (HE'.out rfl), grown_drewN C7.out _⟩, by simp [intOf]; omega⟩
            · have hj' : j = 4 := by omega
              subst hj'
              have hrow := HNx.out (rowE_back fun i hi => HNj.out i hi hi)
              go_wp2_with fail
              exact ⟨⟨k + 1, by omega, by go_num, hrow, calm_trans HC1.out HCj.out⟩, by simp [intOf]; omega⟩
        · have hn' : k = rs.length := by omega
          subst hn'
          have h1 := Lib.hid (show TRow wr (some ⟨g', 0, none⟩) ((rs.map RowW.int).map rowM) from .inr ⟨g', rfl, HR5.out.calm HC.out⟩)
          have h2 := Lib.hid (show TRow wr (some ⟨g, 0, none⟩) rs from .inr ⟨g, rfl, HR1.out.calm (calm_trans HC5.out HC.out)⟩)
          have h3 := Lib.hid (show ∀ i, (h : i < ((rs.map RowW.int).map rowM).length) → (h' : i < rs.length) → RowE ((rs.map RowW.int).map rowM)[i] rs[i] from fun i h h' => by
            rw [List.getElem_map, List.getElem_map]
            exact HE.out i h' h')
          go_wp2_with fail
          refine (sameTable_eq h1.out h2.out (by simp) rfl (by omega) h3.out).mono ?_
          rintro z w7 ⟨rfl, C7⟩
          have HC7 := Lib.hid (calm_trans HC5.out (calm_trans HC.out C7))
          clear C7
          go_wp2_with fail
          go_ret
          exact ⟨rfl, below_calm HB1.out HB1.out.size HC7.out⟩

end Go.Proofs.YthbebgnjidaokaaGreatDoor
