/-
  The draw of frequencies and columns.
-/
import Derived.Test.YthbebgnjidaokaaFrom
import Derived.Test.YthbebgnjidaokaaWTableOk
namespace Go.Proofs.Ythbebgnjidaokaa
open Go.RowKit Fl

theorem Try.infoInt : (Try.prog.info? 3).map (fun i => (i.zero, i.size, i.bytes)) = some (some (.int .i64 0), 1, 8) := by kernel_rfl
def cellsI (fs : List Int) : List Value := fs.map fun f => .int .i64 f
structure IHold (w wr : World) (v : Value) (fs : List Int) : Prop where
  own : wr.ownsRow w.heap.size 3 1 v fs.length (cellsI fs)
  nn : v ≠ .slice none 0 0
  c : Calm w wr
theorem IHold.calm {w wr wx : World} {v : Value} {fs : List Int} (H : IHold w wr v fs) (C : Calm wr wx) : IHold w wx v fs :=
  ⟨H.own.kept C (by cases v.ownBlock <;> simp), H.nn, calm_trans H.c C⟩
theorem IHold.app {w wr wx : World} {v v' : Value} {fs : List Int} {f : Int} (H : IHold w wr v fs) (O : wx.ownsRow w.heap.size 3 1 v' (fs.length + 1) (cellsI fs ++ [.int .i64 f])) (G : wr.grownBy wx v.ownBlock) (hn : v' ≠ .slice none 0 0) : IHold w wx v' (fs ++ [f]) :=
  ⟨by rw [List.length_append]; unfold cellsI at *; rw [List.map_append]; exact O, hn, calm_over H.c G (fun g e => (H.own.lt g e).1)⟩
theorem irow_of {w : World} {base g n cap : Nat} {e : TypeId} {fs : List Int} (h : w.ownsRow base e 1 (.slice (some ⟨g, 0, none⟩) n cap) n (cellsI fs)) (hn : fs.length = n) : IRow w (some ⟨g, 0, none⟩) fs := by
  refine .inr ⟨g, rfl, fun i hi => ?_⟩
  rw [h.cellAt _ (by omega)]
  unfold cellsI
  rw [List.getElem?_map, List.getElem?_eq_getElem hi]
  rfl

theorem results_tmp5 {fn : Func} {t u v x y : Tmp} (h : fn.results = #[.tmp t, .tmp u, .tmp v, .tmp x, .tmp y]) (tmps : Array Value) (P : Program) (w : World) :
    (results fn tmps).run P w = .ok (.tuple #[tmps.getD t undef, tmps.getD u undef, tmps.getD v undef, tmps.getD x undef, tmps.getD y undef]) w := by
  simp [results, h]

set_option maxRecDepth 8000 in
set_option maxHeartbeats 4000000 in
theorem drawFrom_any {a : Option Addr} {len cap : Nat} {zs : List Int} {w : World} (h : IsRow .u8 w a len cap zs) :
    Calls Try.prog 15 #[.slice a len cap] w fun e w' => ∃ (rs : List RowW) (D : List (Nat × Nat)) (x0 x1 x2 x3 x4 : Option Addr) (k0 k1 k2 k3 k4 : Nat),
      e = .returned (.tuple #[.slice x0 rs.length k0, .slice x1 (colB rs 0).length k1, .slice x2 (colB rs 1).length k2, .slice x3 (colB rs 2).length k3, .slice x4 D.length k4]) ∧ rs.length ≤ 9 ∧ (D = colB rs 3 ∨ D = colB rs 3 ++ [(1065353216, 0)]) ∧
      IRow w' x0 (rs.map RowW.f) ∧ CRow w' x1 (colB rs 0) ∧ CRow w' x2 (colB rs 1) ∧ CRow w' x3 (colB rs 2) ∧ CRow w' x4 D ∧ Below w.heap.size w w' := by
  obtain ⟨i0, hi, hz0, hz1, hz2⟩ := info_parts Try.infoInt
  obtain ⟨i1, hi1, hy0, hy1, hy2⟩ := info_parts Try.infoCR
  go_enter Try.func15, Try.ntmps15
  go_wp2_with fail
  refine (open_any h).mono ?_
  rintro e w1 ⟨b, a1, len1, cap1, rfl, R1, hb, B1⟩
  have hlt := R1.lt
  go_wp2_with fail
  refine (table_any R1 (by omega) (by omega) (by omega)).mono ?_
  rintro e w2 ⟨g, c, k2, rs, rfl, hl9, _, hk2, R2, O2, G2⟩
  have HT := Lib.hid (row5_of O2)
  have hgb : g ≠ b := by have := (own_cells O2).2.2.2.1; omega
  have hg2 := (own_cells O2).2.2.1
  have HB := Lib.hid (below_drawn B1 hb B1.size G2)
  have HR := Lib.hid R2
  clear O2 G2 B1 R2
  have HN0 := Lib.hid (show IHold w2 (w2.alloc (.cells #[] 3)) (.slice (some ⟨w2.heap.size, 0, none⟩) 0 0) ((rs.take 0).map RowW.f) from ⟨World.ownsRow_made (base := w2.heap.size) (e := 3) (size := 1) w2 #[] 0 (Nat.le_refl _) (by decide) rfl, by simp, calm_new w2 _⟩)
  go_wp2_with fail
  go_loopw [9, 10] (fun v kv wr => ∃ k : Nat, k ≤ rs.length ∧ kv = .int .i64 k ∧ IHold w2 wr v ((rs.take k).map RowW.f))
    (fun _ kv _ => rs.length - (intOf kv).toNat)
  case atStart => exact ⟨0, by omega, rfl, HN0.out⟩
  case round =>
    obtain ⟨k, hk, rfl, N⟩ := hrel
    have HN := Lib.hid N
    clear N HN0
    by_cases hlt : k < rs.length
    · obtain ⟨x0, _⟩ := (HT.out.calm HN.out.c) k hlt
      have hml : ((rs.take k).map RowW.f).length = k := by rw [List.length_map, List.length_take]; omega
      have HS := Lib.hid (show (rs.take (k + 1)).map RowW.f = (rs.take k).map RowW.f ++ [rs[k].f] by
        rw [← List.take_append_getElem hlt, List.map_append]
        rfl)
      generalize rs[k].f = f at *
      have gl := World.block_lt_of_cell? wr _ x0
      dsimp only at x0 gl
      have H4 := Lib.hid (HN.out.calm (World.grownBy_alloc wr (.cells #[.int .i64 f] 3) none))
      have hown := H4.out.own
      have hsz := HN.out.c.size
      go_wp2_with (first | (at_builtin; refine wpList_append_own _ rfl _ _ 33 rfl w2.heap.size 3 i0 (.int .i64 0) 1 8 Try.underlying33 hi hz0 hz1 hz2 rfl (by decide) _ _ _ rfl hown ⟨wr.heap.size, 0, none⟩ 1 1 [.int .i64 f] rfl rfl ?c1 ?c2 ?c3 ?c4 ?c5 ?_) | fail)
      case c2 => rfl
      case c3 => unfold maxLen; omega
      case c4 => omega
      case c5 => omega
      intro v' w5 O' G' hnil
      have hnn : v' ≠ .slice none 0 0 := by intro e; first | exact hnil e | exact H4.out.nn (hnil.1 e).1
      have H5 := Lib.hid (H4.out.app (f := f) (by rw [hml, List.map_take]; exact O') G' hnn)
      clear O' G' hnil hnn hown H4 HN
      go_wp2_with fail
      exact ⟨⟨k + 1, by omega, by go_num, by rw [HS.out]; exact H5.out⟩, by simp [intOf]; omega⟩
    · have hn' : k = rs.length := by omega
      subst hn'
      rw [List.take_length] at HN
      obtain ⟨fx, fc, hv⟩ := own_formT HN.out.own HN.out.nn
      subst hv
      have hfx := (own_cells HN.out.own).2.2.2.1
      have hfxl := (own_cells HN.out.own).2.2.1
      have hfb : fx ≠ b := by have := HR.out.lt; omega
      have hgw : g < wr.heap.size := Nat.lt_of_lt_of_le hg2 HN.out.c.size
      have hfl : (rs.map RowW.f).length = rs.length := List.length_map ..
      have HFr := Lib.hid (irow_of HN.out.own rfl)
      have HBr := Lib.hid (below_calm HB.out HB.out.size HN.out.c)
      have HTr := Lib.hid (HT.out.calm HN.out.c)
      have HRr := Lib.hid (HR.out.calmE HN.out.c)
      have hbr : b < wr.heap.size := HRr.out.lt
      rw [hfl]
      clear HN HT HR HB
      go_wp2_with fail
      refine (specColumn_own HTr.out rfl (by omega) (by omega) (by omega)).mono ?_
      rintro z w3 ⟨dx, dc, rfl, O3, C3⟩
      have HO3 := Lib.hid O3
      have HF3 := Lib.hid (HFr.out.calm C3)
      have HB3 := Lib.hid (below_calm HBr.out HBr.out.size C3)
      have HT3 := Lib.hid (HTr.out.calm C3)
      have HR3 := Lib.hid (HRr.out.calmE C3)
      have hb3 := HR3.out.lt
      have hwr : b < wr.heap.size := hbr
      have hwz := C3.size
      clear O3 C3 HFr HBr HTr HRr hbr
      go_wp2_with fail
      refine (odd_any HR3.out (by omega) (by omega) (by omega)).mono ?_
      rintro e w4 ⟨v, k4, ⟨β, rfl, _⟩, rfl, hk4, R4, G4⟩
      have HO4 := Lib.hid (HO3.out.kept G4 (.inr (by intro e; have := (HO3.out.lt _ e).1; omega)))
      have HF4 := Lib.hid (show IRow w4 (some ⟨fx, 0, none⟩) (rs.map RowW.f) from by
        rcases HF3.out with h | ⟨g', e, h⟩
        · exact .inl h
        · injection e with e
          injection e with e
          subst e
          exact .inr ⟨fx, rfl, fun i hi => by rw [World.cell?_of_block (w := w3) (G4.block fx (World.block_lt_of_cell? w3 _ (h i hi)) (fun e2 => by injection e2 with e2; omega))]; exact h i hi⟩)
      have HT4 := Lib.hid (HT3.out.grown G4 hgb)
      have HB4 := Lib.hid (below_drawn HB3.out hb HB3.out.size G4)
      have hw4 : wr.heap.size ≤ w4.heap.size := Nat.le_trans hwz G4.size
      clear R4 G4 HO3 HF3 HT3 HB3 HR3
      cases β
      · have HC4 := Lib.hid (crow_of HO4.out rfl)
        clear HO4
        go_wp2_with fail
        refine (specColumn_any HT4.out rfl (by omega) (by omega) (by omega)).mono ?_
        rintro z w6 ⟨y0, z0, rfl, CA, C6⟩
        have HT6 := Lib.hid (HT4.out.calm C6)
        have HK6 := Lib.hid C6
        have HA6 := Lib.hid CA
        clear C6 CA
        go_wp2_with fail
        refine (specColumn_any HT6.out rfl (by omega) (by omega) (by omega)).mono ?_
        rintro z w7 ⟨y1, z1, rfl, CB, C7⟩
        have HT7 := Lib.hid (HT6.out.calm C7)
        have HA7 := Lib.hid (HA6.out.calm C7)
        have HK7 := Lib.hid (calm_trans HK6.out C7)
        have HB7 := Lib.hid CB
        clear C7 CB HA6 HK6 HT6
        go_wp2_with fail
        refine (specColumn_any HT7.out rfl (by omega) (by omega) (by omega)).mono ?_
        rintro z w8 ⟨y2, z2, rfl, CC, C8⟩
        have HK8 := Lib.hid (calm_trans HK7.out C8)
        have HA8 := Lib.hid (HA7.out.calm C8)
        have HB8 := Lib.hid (HB7.out.calm C8)
        have HC8 := Lib.hid CC
        clear C8 CC HA7 HB7 HK7 HT7
        go_wp2_with fail
        refine bodyPost_ret (results_tmp5 rfl _ _ _) rfl ?_
        exact ⟨rs, colB rs 3, _, _, _, _, _, _, _, _, _, _, rfl, hl9, .inl rfl, HF4.out.calm HK8.out, HA8.out, HB8.out, HC8.out, HC4.out.calm HK8.out, below_calm HB4.out HB4.out.size HK8.out⟩
      · have H5 := Lib.hid (HO4.out.kept (World.grownBy_alloc w4 (.cells #[.complex .f32 1065353216 0] 39) none) (.inr (by simp [Value.ownBlock])))
        have hown := H5.out
        have hcl : (colB rs 3).length ≤ 9 := by
          unfold colB
          split
          · rw [List.length_map]; exact hl9
          · simp
        go_wp2_with (first | (at_builtin; refine wpList_append_own _ rfl _ _ 30 rfl wr.heap.size 39 i1 (.complex .f32 0 0) 1 8 Try.underlying30 hi1 hy0 hy1 hy2 rfl (by decide) _ _ _ rfl hown ⟨w4.heap.size, 0, none⟩ 1 1 [.complex .f32 1065353216 0] rfl rfl ?d1 ?d2 ?d3 ?d4 ?d5 ?_) | fail)
        case d1 =>
          intro jj u hu
          have A := At.new w4 (.cells #[.complex .f32 1065353216 0] 39)
          cases jj with
          | zero =>
            simp at hu
            subst hu
            exact A.cell (i := 0) rfl
          | succ jj => simp at hu
        case d2 => intro u hu; simp at hu; subst hu; rfl
        case d3 => unfold maxLen; omega
        case d4 => omega
        case d5 => simp; omega
        intro v' w5 O' G' hnil
        have hnn : v' ≠ .slice none 0 0 := by intro e; first | exact hnil e | (have := (hnil.1 e).1; cases this)
        obtain ⟨dx', dc', hv'⟩ := own_formT O' hnn
        subst hv'
        have hdx := (own_cells HO4.out).2.2.2.1
        have G5 : w4.grownBy w5 (some dx) := Lib.grownBy_trans (World.grownBy_alloc w4 _ (some dx)) G'
        have hD : (colB rs 3 ++ [(1065353216, 0)]).length = (colB rs 3).length + 1 := by simp
        have HC5 := Lib.hid (show CRow w5 (some ⟨dx', 0, none⟩) (colB rs 3 ++ [(1065353216, 0)]) from crow_of (n := (colB rs 3).length + 1) (by unfold cellsC at *; rw [List.map_append]; exact O') hD)
        have HF5 := Lib.hid (show IRow w5 (some ⟨fx, 0, none⟩) (rs.map RowW.f) from by
          rcases HF4.out with h | ⟨g', e, h⟩
          · exact .inl h
          · injection e with e
            injection e with e
            subst e
            exact .inr ⟨fx, rfl, fun i hi => by rw [World.cell?_of_block (w := w4) (G5.block fx (World.block_lt_of_cell? w4 _ (h i hi)) (fun e2 => by injection e2 with e2; omega))]; exact h i hi⟩)
        have HT5 := Lib.hid (HT4.out.grown G5 (by omega))
        have HB5' := Lib.hid (below_drawn HB4.out (by have := HB4.out.size; omega) HB4.out.size G5)
        clear O' G' hnil hnn hown H5 HO4 HF4 HT4 HB4 G5
        go_wp2_with fail
        refine (specColumn_any HT5.out rfl (by omega) (by omega) (by omega)).mono ?_
        rintro z w6 ⟨y0, z0, rfl, CA, C6⟩
        have HT6 := Lib.hid (HT5.out.calm C6)
        have HK6 := Lib.hid C6
        have HA6 := Lib.hid CA
        clear C6 CA
        go_wp2_with fail
        refine (specColumn_any HT6.out rfl (by omega) (by omega) (by omega)).mono ?_
        rintro z w7 ⟨y1, z1, rfl, CB, C7⟩
        have HT7 := Lib.hid (HT6.out.calm C7)
        have HA7 := Lib.hid (HA6.out.calm C7)
        have HK7 := Lib.hid (calm_trans HK6.out C7)
        have HB7 := Lib.hid CB
        clear C7 CB HA6 HK6 HT6
        go_wp2_with fail
        refine (specColumn_any HT7.out rfl (by omega) (by omega) (by omega)).mono ?_
        rintro z w8 ⟨y2, z2, rfl, CC, C8⟩
        have HK8 := Lib.hid (calm_trans HK7.out C8)
        have HA8 := Lib.hid (HA7.out.calm C8)
        have HB8 := Lib.hid (HB7.out.calm C8)
        have HC8 := Lib.hid CC
        clear C8 CC HA7 HB7 HK7 HT7
        go_wp2_with fail
        refine bodyPost_ret (results_tmp5 rfl _ _ _) rfl ?_
        exact ⟨rs, colB rs 3 ++ [(1065353216, 0)], _, _, _, _, _, _, _, _, _, _, by rw [hD]; rfl, hl9, .inr rfl, HF5.out.calm HK8.out, HA8.out, HB8.out, HC8.out, HC5.out.calm HK8.out, below_calm HB5'.out HB5'.out.size HK8.out⟩

end Go.Proofs.Ythbebgnjidaokaa
