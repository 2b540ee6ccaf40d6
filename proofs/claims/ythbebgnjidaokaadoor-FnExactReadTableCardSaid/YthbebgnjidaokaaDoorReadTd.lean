/-
  ReadTable in the model: its contract.
-/
import Derived.Test.YthbebgnjidaokaaDoorReadTc
namespace Go.Proofs.YthbebgnjidaokaaDoor
open Go.RowKit Fl

/-- What ReadTable gives: rows that are owned, or none. -/
def ReadV (w w' : World) (o : Option (List Tx.RowI)) (z : Ending) : Prop := ∃ (g c : Nat), z = .returned (.tuple #[.slice (some ⟨g, 0, none⟩) ((o.getD []).map rowM).length c, .bool o.isSome]) ∧ w'.ownsRow w.heap.size 40 5 (.slice (some ⟨g, 0, none⟩) ((o.getD []).map rowM).length c) ((o.getD []).map rowM).length (cells5 ((o.getD []).map rowM)) ∧ Calm w w'
theorem cutL_len (c : UInt8) (l : Tx.Bs) : (Tx.cutL c l).length ≤ l.length + 1 := by
  induction l with
  | nil => simp [Tx.cutL]
  | cons b r ih =>
    unfold Tx.cutL
    split
    · simp; omega
    · split
      · rename_i x xs hc
        rw [hc] at ih
        simp at ih ⊢
        omega
      · simp
theorem readV_none {w v : World} (C : Calm w v) : ∃ (g c : Nat), Ending.returned (.tuple #[.slice (some ⟨v.heap.size, 0, none⟩) 0 0, .bool false]) = .returned (.tuple #[.slice (some ⟨g, 0, none⟩) (((none : Option (List Tx.RowI)).getD []).map rowM).length c, .bool (none : Option (List Tx.RowI)).isSome]) ∧ (v.alloc (.cells #[] 40)).ownsRow w.heap.size 40 5 (.slice (some ⟨g, 0, none⟩) (((none : Option (List Tx.RowI)).getD []).map rowM).length c) (((none : Option (List Tx.RowI)).getD []).map rowM).length (cells5 (((none : Option (List Tx.RowI)).getD []).map rowM)) ∧ Calm w (v.alloc (.cells #[] 40)) :=
  ⟨v.heap.size, 0, rfl, World.ownsRow_made (base := w.heap.size) (e := 40) (size := 5) v #[] 0 C.size (by decide) rfl, calm_allocR C _⟩

set_option maxRecDepth 8000 in
set_option maxHeartbeats 4000000 in
theorem specReadTable_any (s : ByteArray) (hs : s.size ≤ 1048576) (w : World) :
    Calls Tryd.prog 4 #[.string s] w fun z w' => ReadV w w' (readT (byt s)) z := by
  obtain ⟨i0, hi, hz0, hz1, hz2⟩ := info_parts Tryd.infoRowR
  obtain ⟨i1, hi1, hy0, hy1, hy2⟩ := info_parts Tryd.infoCR
  have HN0 := Lib.hid (show RdHold w (w.alloc (.cells #[] 40)) (.slice (some ⟨w.heap.size, 0, none⟩) 0 0) ([].map rowM) from ⟨World.ownsRow_made (base := w.heap.size) (e := 40) (size := 5) w #[] 0 (Nat.le_refl _) (by decide) rfl, by simp, calm_new w _⟩)
  go_enter Tryd.func4, Tryd.ntmps4
  go_wp2_with fail
  refine (l1Cut_any s 10 hs _).mono ?_
  rintro z w1 ⟨g, n, cap, ps, rfl, hn, hps, hL, C1, hLb⟩
  subst hn
  have HL := Lib.hid (SL.mk hL hLb)
  have HN1 := Lib.hid (HN0.out.calm C1)
  have HPS := Lib.hid hps
  have hpl : ps.length ≤ 1048577 := by
    have := congrArg List.length hps
    rw [List.length_map] at this
    rw [this]
    have := cutL_len 10 (byt s)
    rw [byt_len] at this
    omega
  have hp1 : 1 ≤ ps.length := by
    have := congrArg List.length hps
    rw [List.length_map] at this
    rw [this]
    exact List.length_pos_iff.2 (Tx.cutL_ne _ _)
  have hshort : ∀ p ∈ ps, p.size ≤ 1048576 := fun p hp => Nat.le_trans (piece_short hps hp) hs
  have HSh := Lib.hid hshort
  clear hL hLb C1 HN0 hps hshort
  go_wp2_with fail
  go_loopw [4, 6] (fun v kv wr => ∃ (k : Nat) (rI : List Tx.RowI), k ≤ ps.length - 1 ∧ kv = .int .i64 k ∧ rI.length = k ∧ (ps.take k).map (fun p => Tx.lineV (byt p)) = rI.map some ∧ RdHold w wr v (rI.map rowM) ∧ SL wr g ps)
    (fun _ kv _ => ps.length - (intOf kv).toNat)
  case atStart => exact ⟨0, [], by omega, rfl, rfl, rfl, HN1.out, HL.out⟩
  case round =>
    obtain ⟨k, rI, hk, rfl, hrl, hM, N, hSL⟩ := hrel
    have HN := Lib.hid N
    have HM := Lib.hid hM
    have HC := Lib.hid hSL
    clear N hM HN1 hSL HL
    by_cases hlt : k < ps.length - 1
    · have hk' : k < ps.length := by omega
      have c0 : wr.cell? ⟨g, k, none⟩ = some (.string ps[k]) := HC.out.l k hk'
      have gl := World.block_lt_of_cell? wr _ c0
      have hsz := HSh.out ps[k] (List.getElem_mem hk')
      have HBad := Lib.hid (fun h : Tx.lineV (byt ps[k]) = none => readT_bad HPS.out (by omega : k + 1 < ps.length) h)
      have HNext := Lib.hid (fun (r : Tx.RowI) (h : Tx.lineV (byt ps[k]) = some r) => take_map_lines hk' HM.out h)
      generalize ps[k] = q at *
      go_wp2_with fail
      refine (l1Cut_any q 32 hsz _).mono ?_
      rintro z w2 ⟨g2, n2, cap2, qs, rfl, hn2, hqs, hL2, C2, _⟩
      subst hn2
      have HL2 := Lib.hid hL2
      have HN2 := Lib.hid (HN.out.calm C2)
      have HC2 := Lib.hid (HC.out.calm C2)
      clear hL2 C2 c0 gl HN HC
      by_cases h5 : qs.length = 5
      · obtain ⟨q0, q1, q2, q3, q4, rfl⟩ : ∃ a b c d e, qs = [a, b, c, d, e] := by
          match qs, h5 with
          | [a, b, c, d, e], _ => exact ⟨a, b, c, d, e, rfl⟩
        have HW := Lib.hid (lineV_words hqs.symm)
        have hsh : ∀ p ∈ [q0, q1, q2, q3, q4], p.size ≤ 1048576 := fun p hp => Nat.le_trans (piece_short hqs hp) hsz
        have HS2 := Lib.hid hsh
        have b0 : w2.cell? ⟨g2, 0, none⟩ = some (.string q0) := HL2.out 0 (by simp)
        have gl := World.block_lt_of_cell? w2 _ b0
        have HD := Lib.hid (l1Digits_any q0.size q0 rfl (hsh q0 (List.mem_cons_self ..)))
        clear hsh h5 hqs
        go_wp2_with fail
        refine (HD.out _).mono ?_
        rintro z w3 ⟨⟨f, rfl, hf, f0, f1⟩, hw3⟩
        subst hw3
        have HF := Lib.hid hf
        clear hf HD b0 gl
        obtain ⟨F, hF⟩ : ∃ F, (Tx.digV (byt q0)).isSome = F := ⟨_, rfl⟩
        have HFe := Lib.hid hF
        have HLh := Lib.hid (show LHold w2 (w2.alloc (.cells #[] 33)) (.slice (some ⟨w2.heap.size, 0, none⟩) 0 0) [] from ⟨World.ownsRow_made (base := w2.heap.size) (e := 33) (size := 1) w2 #[] 0 (Nat.le_refl _) (by decide) rfl, by simp, calm_new w2 _⟩)
        rw [hF]
        clear hF
        go_wp2_with fail
        go_loopw [9, 10, 11] (fun okv lv jv wr => ∃ (j : Nat) (zs : List (Nat × Nat)), 1 ≤ j ∧ j ≤ 5 ∧ jv = .int .i64 j ∧ okv = .bool (okJ F [q0, q1, q2, q3, q4] j) ∧ zs.length + 1 = j ∧ (∀ i, (h : i < zs.length) → ∀ v, Tx.numV (byt ([q0, q1, q2, q3, q4].getD (i + 1) q0)) = some v → zs[i] = (milliB v.1, milliB v.2)) ∧ LHold w2 wr lv zs)
          (fun _ _ jv _ => 5 - (intOf jv).toNat)
        case atStart => exact ⟨1, [], by omega, by omega, rfl, by rw [okJ_one _ _ (by simp)], rfl, fun i h => absurd h (by simp), HLh.out⟩
        case round =>
          obtain ⟨j, zs, j1, j5, rfl, rfl, hzl, hzs, NL⟩ := hrel
          have HNL := Lib.hid NL
          have HZ := Lib.hid hzs
          clear NL hzs HLh
          by_cases hj : j < 5
          · have hjq : j < [q0, q1, q2, q3, q4].length := hj
            have HSt := Lib.hid (okJ_step F [q0, q1, q2, q3, q4] j1 hjq)
            have b0 : wr.cell? ⟨g2, j, none⟩ = some (.string [q0, q1, q2, q3, q4][j]) := (HL2.out.calm HNL.out.c) j hjq
            have gl := World.block_lt_of_cell? wr _ b0
            have hgd : [q0, q1, q2, q3, q4].getD j q0 = [q0, q1, q2, q3, q4][j] := by rw [List.getD_eq_getElem?_getD, List.getElem?_eq_getElem hjq]; rfl
            have hps := HS2.out _ (List.getElem_mem hjq)
            obtain ⟨p, hp⟩ : ∃ p, [q0, q1, q2, q3, q4][j] = p := ⟨_, rfl⟩
            rw [hp] at b0 hgd hps HSt
            have HGd := Lib.hid hgd
            have HRd := Lib.hid (l8Read_any p hps)
            obtain ⟨ω, hω⟩ : ∃ ω, okJ F [q0, q1, q2, q3, q4] j = ω := ⟨_, rfl⟩
            rw [hω] at HSt ⊢
            clear hp hω hgd
            go_wp2_with fail
            refine (HRd.out _).mono ?_
            rintro y w4 ⟨⟨a, b, rfl, hab⟩, C4⟩
            have HN4 := Lib.hid (HNL.out.calm C4)
            have HAB := Lib.hid hab
            clear hab C4 b0 gl HNL HRd
            have HWk := Lib.hid (show wordOk p = (Tx.numV (byt p)).isSome from rfl)
            obtain ⟨β, hβ⟩ : ∃ β, (Tx.numV (byt p)).isSome = β := ⟨_, rfl⟩
            rw [hβ] at HWk ⊢
            clear hβ
            have H4 := Lib.hid (HN4.out.calm (World.grownBy_alloc w4 (.cells #[.complex .f32 a b] 33) none))
            have hown := H4.out.own
            have hsz := HN4.out.c.size
            cases ω <;> cases β
            all_goals
              go_wp2_with (first | (at_builtin; refine wpList_append_own _ rfl _ _ 32 rfl w2.heap.size 33 i1 (.complex .f32 0 0) 1 8 Tryd.underlying32 hi1 hy0 hy1 hy2 rfl (by decide) _ _ _ rfl hown ⟨w4.heap.size, 0, none⟩ 1 1 [.complex .f32 a b] rfl rfl ?c1 ?c2 ?c3 ?c4 ?c5 ?_) | fail)
              case c1 =>
                intro jj u hu
                have A := At.new w4 (.cells #[.complex .f32 a b] 33)
                cases jj with
                | zero =>
                  simp at hu
                  subst hu
                  exact A.cell (i := 0) rfl
                | succ jj => simp at hu
              case c2 => intro u hu; simp at hu; subst hu; rfl
              case c3 => unfold maxLen; omega
              case c4 => omega
              case c5 => simp; omega
              intro v' w5 O' G' hnil
              have hnn : v' ≠ .slice none 0 0 := by intro e; first | exact hnil e | exact H4.out.nn (hnil.1 e).1
              have H5 := Lib.hid (H4.out.app (z := (a, b)) (by rw [hzl]; exact O') G' hnn)
              clear O' G' hnil hnn hown H4 HN4
              go_wp2_with fail
              refine ⟨⟨j + 1, zs ++ [(a, b)], by omega, by omega, by go_num, ?_, by simp; omega, ?_, H5.out⟩, by simp [intOf]; omega⟩
              · rw [HSt.out, HWk.out]; rfl
              · intro i hi v hv
                by_cases e : i < zs.length
                · rw [List.getElem_append_left e]
                  exact HZ.out i e v hv
                · have e2 : i = zs.length := by simp at hi; omega
                  subst e2
                  rw [hzl, HGd.out] at hv
                  obtain ⟨e3, e4⟩ := HAB.out v hv
                  rw [List.getElem_append_right (Nat.le_refl _)]
                  simp [e3, e4]
          · have hj5 : j = 5 := by omega
            subst hj5
            obtain ⟨z1, z2, z3, z4, rfl⟩ : ∃ a b c d, zs = [a, b, c, d] := by
              match zs, hzl with
              | [a, b, c, d], _ => exact ⟨a, b, c, d, rfl⟩
            have hZ1 : ∀ v, Tx.numV (byt q1) = some v → z1 = (milliB v.1, milliB v.2) := HZ.out 0 (by simp)
            have hZ2 : ∀ v, Tx.numV (byt q2) = some v → z2 = (milliB v.1, milliB v.2) := HZ.out 1 (by simp)
            have hZ3 : ∀ v, Tx.numV (byt q3) = some v → z3 = (milliB v.1, milliB v.2) := HZ.out 2 (by simp)
            have hZ4 : ∀ v, Tx.numV (byt q4) = some v → z4 = (milliB v.1, milliB v.2) := HZ.out 3 (by simp)
            have hok : okJ F [q0, q1, q2, q3, q4] 5 = (F && (wordOk q1 && (wordOk q2 && (wordOk q3 && wordOk q4)))) := by
              unfold okJ
              simp
            have hOut : (okJ F [q0, q1, q2, q3, q4] 5 = false ∧ Tx.lineV (byt q) = none) ∨ (okJ F [q0, q1, q2, q3, q4] 5 = true ∧ ∃ r : Tx.RowI, Tx.lineV (byt q) = some r ∧ rowM r = ⟨f, ⟨z1.1, z1.2, z2.1, z2.2, z3.1, z3.2, z4.1, z4.2⟩⟩) := by
              rw [hok, ← HFe.out, HW.out]
              unfold wordOk
              rcases HF.out with hf | hf
              · rw [hf]
                cases h1 : Tx.numV (byt q1) with
                | none => exact .inl ⟨rfl, rfl⟩
                | some v1 =>
                  cases h2 : Tx.numV (byt q2) with
                  | none => exact .inl ⟨rfl, rfl⟩
                  | some v2 =>
                    cases h3 : Tx.numV (byt q3) with
                    | none => exact .inl ⟨rfl, rfl⟩
                    | some v3 =>
                      cases h4 : Tx.numV (byt q4) with
                      | none => exact .inl ⟨rfl, rfl⟩
                      | some v4 =>
                        refine .inr ⟨rfl, _, rfl, ?_⟩
                        rw [hZ1 v1 h1, hZ2 v2 h2, hZ3 v3 h3, hZ4 v4 h4]
                        rfl
              · rw [hf]
                exact .inl ⟨rfl, rfl⟩
            have HO := Lib.hid hOut
            clear hOut hok hZ1 hZ2 hZ3 hZ4 HZ
            rcases HO.out with ⟨ho, hl⟩ | ⟨ho, r, hl, hr⟩
            · have HB := Lib.hid (HBad.out hl)
              rw [ho]
              clear HO hl ho
              go_wp2_with fail
              go_ret2
              rw [HB.out]
              exact readV_none (calm_trans HN2.out.c HNL.out.c)
            · have HNx := Lib.hid (HNext.out r hl)
              have HRm := Lib.hid hr
              rw [ho]
              clear HO hl ho hr
              obtain ⟨x, cx, hv⟩ := own_formS HNL.out.own HNL.out.nn
              subst hv
              have hcell : ∀ i, i < 4 → wr.cell? ⟨x, i, none⟩ = (cellsZ [z1, z2, z3, z4])[i]? := fun i hi => HNL.out.own.cellAt _ (by simpa using hi)
              have m0 : wr.cell? ⟨x, 0, none⟩ = some (.complex .f32 z1.1 z1.2) := hcell 0 (by omega)
              have m1 : wr.cell? ⟨x, 1, none⟩ = some (.complex .f32 z2.1 z2.2) := hcell 1 (by omega)
              have m2 : wr.cell? ⟨x, 2, none⟩ = some (.complex .f32 z3.1 z3.2) := hcell 2 (by omega)
              have m3 : wr.cell? ⟨x, 3, none⟩ = some (.complex .f32 z4.1 z4.2) := hcell 3 (by omega)
              have HMx := Lib.hid (matrix_any (cap := cx) m0 m1 m2 m3)
              have HC3 := Lib.hid (HC2.out.calm HNL.out.c)
              have HN3 := Lib.hid (HN2.out.calm HNL.out.c)
              clear m0 m1 m2 m3 hcell
              go_wp2_with fail
              refine (HMx.out).mono ?_
              rintro y w4 ⟨rfl, C4⟩
              have HN4 := Lib.hid (HN3.out.calm C4)
              have HC4 := Lib.hid (HC3.out.calm C4)
              clear C4 HN3 HC3 HMx
              have H4 := Lib.hid (HN4.out.calm (World.grownBy_alloc w4 (.cells #[.int .i64 f, .complex .f32 z1.1 z1.2, .complex .f32 z2.1 z2.2, .complex .f32 z3.1 z3.2, .complex .f32 z4.1 z4.2] 40) none))
              have HC5 := Lib.hid (HC4.out.calm (World.grownBy_alloc w4 (.cells #[.int .i64 f, .complex .f32 z1.1 z1.2, .complex .f32 z2.1 z2.2, .complex .f32 z3.1 z3.2, .complex .f32 z4.1 z4.2] 40) none))
              have hown := H4.out.own
              have hsz := HN4.out.c.size
              have hlm : (rI.map rowM).length = k := by rw [List.length_map]; exact hrl
              go_wp2_with (first | (at_builtin; refine wpList_append_own _ rfl _ _ 22 rfl w.heap.size 40 i0 (.agg #[.int .i64 0, .complex .f32 0 0, .complex .f32 0 0, .complex .f32 0 0, .complex .f32 0 0]) 5 40 Tryd.underlying22 hi hz0 hz1 hz2 rfl (by decide) _ _ _ rfl hown ⟨w4.heap.size, 0, none⟩ 1 1 [.int .i64 f, .complex .f32 z1.1 z1.2, .complex .f32 z2.1 z2.2, .complex .f32 z3.1 z3.2, .complex .f32 z4.1 z4.2] rfl rfl ?d1 ?d2 ?d3 ?d4 ?d5 ?_) | fail)
              case d1 =>
                intro jj u hu
                have A := At.new w4 (.cells #[.int .i64 f, .complex .f32 z1.1 z1.2, .complex .f32 z2.1 z2.2, .complex .f32 z3.1 z3.2, .complex .f32 z4.1 z4.2] 40)
                have e : (⟨w4.heap.size, 0, none⟩ : Addr).add jj = ⟨w4.heap.size, jj, none⟩ := by
                  simp [Addr.add]
                  try omega
                rw [e]
                exact A.cell (by simpa using hu)
              case d2 => intro u hu; simp at hu; rcases hu with rfl | rfl | rfl | rfl | rfl <;> rfl
              case d3 => rw [hlm]; unfold maxLen; omega
              case d4 => rw [hlm]; omega
              case d5 => simp; omega
              intro v' w5 O' G' hnil
              have hnn : v' ≠ .slice none 0 0 := by intro e; first | exact hnil e | exact H4.out.nn (hnil.1 e).1
              have H5 := Lib.hid (H4.out.app (r := ⟨f, ⟨z1.1, z1.2, z2.1, z2.2, z3.1, z3.2, z4.1, z4.2⟩⟩) (by first | exact O' | (rw [hlm]; exact O') | (rw [List.length_map, hrl]; exact O')) G' hnn)
              have HC6 := Lib.hid (HC5.out.own H4.out.own G')
              clear O' G' hnil hnn hown H4 HN4 HC4 HC5
              go_wp2_with fail
              refine ⟨⟨k + 1, rI ++ [r], by omega, by go_num, by simp [hrl], HNx.out, ?_, HC6.out⟩, by simp [intOf]; omega⟩
              rw [List.map_append]
              show RdHold w w5 _ (rI.map rowM ++ [rowM r])
              rw [HRm.out]
              exact H5.out
      · have HB := Lib.hid (HBad.out (lineV_short (by rw [← hqs, List.length_map]; exact h5)))
        go_wp2_with fail
        go_ret2
        rw [HB.out]
        exact readV_none HN2.out.c
    · have hke : k = ps.length - 1 := by omega
      have hne : ps ≠ [] := by rintro rfl; simp at hp1
      have HR := Lib.hid (readT_all HPS.out hne (by rw [← hke]; exact HM.out))
      have hgl : ps.getLast hne = ps[ps.length - 1]'(by omega) := List.getLast_eq_getElem ..
      have c0 : wr.cell? ⟨g, ps.length - 1, none⟩ = some (.string (ps[ps.length - 1]'(by omega))) := HC.out.l _ (by omega)
      rw [← hgl] at c0
      clear hgl
      generalize ps.getLast hne = q at *
      obtain ⟨x, cx, hv⟩ := own_formS HN.out.own HN.out.nn
      subst hv
      have R5 := Lib.hid (row5_ofR HN.out.own)
      have ej : ((ps.length : Int) - 1) = ((ps.length - 1 : Nat) : Int) := by omega
      have gl := World.block_lt_of_cell? wr _ c0
      subst hke
      have hlm : (rI.map rowM).length = ps.length - 1 := by rw [List.length_map]; exact hrl
      by_cases hq : byt q = []
      · have hl1 : q.toList = [] := by rw [ByteArray.toList_eq]; exact hq
        have hl2 : q.toList.isEmpty = true := by rw [hl1]; rfl
        rw [if_pos hq] at HR
        obtain ⟨β, hβ⟩ : ∃ β, tabB (rI.map rowM) = β := ⟨_, rfl⟩
        have HT := Lib.hid (specTableOk_any (cap := cx) R5.out rfl (by omega))
        rw [hβ] at HT HR
        clear hβ
        have HO := Lib.hid HN.out.own
        have HCw := Lib.hid HN.out.c
        generalize hrm : rI.map rowM = rs at *
        go_wp2_with fail
        rw [hlm] at HT
        refine (HT.out).mono ?_
        rintro y w2 ⟨rfl, C2⟩
        have HR2 := Lib.hid HR.out
        have HO2 := Lib.hid (HO.out.kept C2 (by simp [Value.ownBlock]))
        have HC2 := Lib.hid (calm_trans HCw.out C2)
        clear HO C2 HR
        cases β
        all_goals go_wp2_with fail
        all_goals go_ret2
        · rw [HR2.out]
          exact readV_none HC2.out
        · refine ⟨x, cx, ?_, ?_, HC2.out⟩
          · rw [HR2.out]
            show _ = Ending.returned (.tuple #[.slice (some ⟨x, 0, none⟩) (rI.map rowM).length cx, .bool true])
            rw [hrm, hlm]
            rfl
          · rw [HR2.out]
            show World.ownsRow _ _ _ _ (.slice (some ⟨x, 0, none⟩) (rI.map rowM).length cx) (rI.map rowM).length (cells5 (rI.map rowM))
            rw [hrm]
            exact HO2.out
      · have hl1 : ¬q.toList = [] := by rw [ByteArray.toList_eq]; exact hq
        have hl2 : q.toList.isEmpty = false := by
          cases h : q.toList with
          | nil => exact absurd h hl1
          | cons => rfl
        rw [if_neg hq] at HR
        have HR2 := Lib.hid HR.out
        have HCw := Lib.hid HN.out.c
        go_wp2_with fail
        go_ret2
        rw [HR2.out]
        exact readV_none HCw.out

end Go.Proofs.YthbebgnjidaokaaDoor
