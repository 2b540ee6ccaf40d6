/-
  Columns: of a table, in the model.
-/
import Derived.Test.YthbebgnjidaokaaTbl
import Derived.Laws.OwnMore
namespace Go.Proofs.Ythbebgnjidaokaa
open Go.RowKit Fl

/-- A list of complex numbers. -/
def CRow (w : World) (a : Option Addr) (zs : List (Nat × Nat)) : Prop :=
  zs = [] ∨ ∃ g, a = some ⟨g, 0, none⟩ ∧ ∀ i, (h : i < zs.length) → w.cell? ⟨g, i, none⟩ = some (.complex .f32 zs[i].1 zs[i].2)
theorem CRow.calm {w w' : World} {a : Option Addr} {zs : List (Nat × Nat)} (H : CRow w a zs) (C : Calm w w') : CRow w' a zs := by
  rcases H with h | ⟨g, h1, h2⟩
  · exact .inl h
  · refine .inr ⟨g, h1, fun i hi => ?_⟩
    have := h2 i hi
    rw [World.cell?_of_block (w := w) (C.block g (World.block_lt_of_cell? w _ this) (fun e => by cases e))]
    exact this

def cellsC (zs : List (Nat × Nat)) : List Value := zs.map fun z => .complex .f32 z.1 z.2
theorem own_formC {w : World} {base : Nat} {e : TypeId} {size : Nat} {v : Value} {n : Nat} {xs : List Value} (h : w.ownsRow base e size v n xs) (hv : v ≠ .slice none 0 0) : ∃ g cap, v = .slice (some ⟨g, 0, none⟩) n cap := by
  rcases h.2 with ⟨h, _⟩ | ⟨g, cap, cur, h, hb, _⟩
  · exact absurd h hv
  · exact ⟨g, cap, h⟩
theorem crow_of {w : World} {base g n cap : Nat} {e : TypeId} {zs : List (Nat × Nat)} (h : w.ownsRow base e 1 (.slice (some ⟨g, 0, none⟩) n cap) n (cellsC zs)) (hn : zs.length = n) : CRow w (some ⟨g, 0, none⟩) zs := by
  refine .inr ⟨g, rfl, fun i hi => ?_⟩
  rw [h.cellAt _ (by omega)]
  unfold cellsC
  rw [List.getElem?_map, List.getElem?_eq_getElem hi]
  rfl

/-- One of the four numbers of a row. -/
def RowW.num (r : RowW) (k : Int) : Nat × Nat := if k = 0 then (r.m.a, r.m.b) else if k = 1 then (r.m.c, r.m.d) else if k = 2 then (r.m.e, r.m.f) else (r.m.g, r.m.h)
/-- The first numbers of a column. -/
def colP (rs : List RowW) (k : Int) (n : Nat) : List (Nat × Nat) := (rs.take n).map fun r => r.num k
theorem colP_step {rs : List RowW} {k : Int} {n : Nat} (h : n < rs.length) : colP rs k (n + 1) = colP rs k n ++ [rs[n].num k] := by
  unfold colP
  rw [← List.take_append_getElem h, List.map_append]
  rfl
theorem colP_len {rs : List RowW} {k : Int} {n : Nat} (h : n ≤ rs.length) : (colP rs k n).length = n := by
  unfold colP
  rw [List.length_map, List.length_take]
  omega
theorem colP_end (rs : List RowW) (k : Int) : colP rs k rs.length = rs.map fun r => r.num k := by
  unfold colP
  rw [List.take_length]
/-- What ColumnOf gives. -/
def colB (rs : List RowW) (k : Int) : List (Nat × Nat) := if tabB rs && (decide (0 ≤ k) && decide (k ≤ 3)) then rs.map fun r => r.num k else []

set_option maxHeartbeats 1000000 in
theorem numbers_any (a b c d e f g h : Nat) (w : World) :
    Calls Try.prog 35 #[.agg #[.complex .f32 a b, .complex .f32 c d, .complex .f32 e f, .complex .f32 g h]] w fun z w' => ∃ x, z = .returned (.slice (some ⟨x, 0, none⟩) 4 4) ∧ At w' x (.cells #[.complex .f32 a b, .complex .f32 c d, .complex .f32 e f, .complex .f32 g h] 39) ∧ w.heap.size ≤ x ∧ Calm w w' := by
  have hs : (w.alloc (.cells #[.complex .f32 a b, .complex .f32 c d, .complex .f32 e f, .complex .f32 g h] 41)).heap.size = w.heap.size + 1 := by simp
  go_enter Try.func35, Try.ntmps35
  go_wp2_with fail
  refine bodyPost_ret (results_tmp rfl _ _ _) rfl ?_
  have A := At.new (w.alloc (.cells #[.complex .f32 a b, .complex .f32 c d, .complex .f32 e f, .complex .f32 g h] 41)) (.cells #[.complex .f32 a b, .complex .f32 c d, .complex .f32 e f, .complex .f32 g h] 39)
  rw [hs] at A
  exact ⟨w.heap.size + 1, rfl, A, by omega, calm_allocR (calm_new w _) _⟩

theorem Try.infoC : (Try.prog.info? 39).map (fun i => (i.zero, i.size, i.bytes)) = some (some (.complex .f32 0 0), 1, 8) := by kernel_rfl

/-- What the loop of ColumnOf holds. -/
structure ColHold (w wr : World) (v : Value) (zs : List (Nat × Nat)) : Prop where
  own : wr.ownsRow w.heap.size 39 1 v zs.length (cellsC zs)
  nn : v ≠ .slice none 0 0
  c : Calm w wr
theorem ColHold.calm {w wr wx : World} {v : Value} {zs : List (Nat × Nat)} (H : ColHold w wr v zs) (C : Calm wr wx) : ColHold w wx v zs :=
  ⟨H.own.kept C (by cases v.ownBlock <;> simp), H.nn, calm_trans H.c C⟩
theorem ColHold.app {w wr wx : World} {v v' : Value} {zs : List (Nat × Nat)} {z : Nat × Nat} (H : ColHold w wr v zs) (O : wx.ownsRow w.heap.size 39 1 v' (zs.length + 1) (cellsC zs ++ [.complex .f32 z.1 z.2])) (G : wr.grownBy wx v.ownBlock) (hn : v' ≠ .slice none 0 0) : ColHold w wx v' (zs ++ [z]) := by
  refine ⟨by rw [List.length_append]; unfold cellsC at *; rw [List.map_append]; exact O, hn, ?_⟩
  refine ⟨G.os.trans H.c.os, G.tape.trans H.c.tape, G.output.trans H.c.output, Nat.le_trans H.c.size G.size, fun k hk hne => ?_⟩
  have hs := H.c.size
  rw [G.block k (by omega) (fun h => by have := (H.own.lt _ h.symm).1; omega)]
  exact H.c.block k hk hne

set_option maxRecDepth 8000 in
set_option maxHeartbeats 4000000 in
theorem specColumn_own {g n cap : Nat} {rs : List RowW} {w : World} {which : Int} (hR : Row5 w g rs) (hn : rs.length = n) (hl : n ≤ 9) (h0 : -10 ≤ which) (h1 : which ≤ 10) :
    Calls Try.prog 14 #[.slice (some ⟨g, 0, none⟩) n cap, .int .i64 which] w fun z w' => ∃ x c, z = .returned (.slice (some ⟨x, 0, none⟩) (colB rs which).length c) ∧ w'.ownsRow w.heap.size 39 1 (.slice (some ⟨x, 0, none⟩) (colB rs which).length c) (colB rs which).length (cellsC (colB rs which)) ∧ Calm w w' := by
  obtain ⟨i0, hi, hz0, hz1, hz2⟩ := info_parts Try.infoC
  have HR := Lib.hid hR
  clear hR
  subst hn
  have O0 := World.ownsRow_made (base := w.heap.size) (e := 39) (size := 1) w #[] 0 (Nat.le_refl _) (by decide) rfl
  have N0 : ColHold w (w.alloc (.cells #[] 39)) (.slice (some ⟨w.heap.size, 0, none⟩) 0 0) [] := ⟨O0, by simp, calm_new w _⟩
  have HN0 := Lib.hid N0
  clear N0 O0
  cases hT : (tabB rs && (decide (0 ≤ which) && decide (which ≤ 3)))
  · have hcol : colB rs which = [] := by unfold colB; rw [hT]; rfl
    rw [hcol]
    go_enter Try.func14, Try.ntmps14
    go_wp2_with fail
    go_loopw [5, 6] (fun v kv wr => ∃ n : Nat, kv = .int .i64 0 ∧ v = .slice (some ⟨w.heap.size, 0, none⟩) 0 0 ∧ ColHold w wr (.slice (some ⟨w.heap.size, 0, none⟩) 0 0) [])
      (fun _ kv _ => 0)
    case atStart => exact ⟨0, rfl, rfl, HN0.out⟩
    case round =>
      obtain ⟨_, rfl, rfl, N⟩ := hrel
      have HM := Lib.hid N
      have HC := Lib.hid N.c
      clear N HN0
      by_cases hz : rs.length = 0
      · go_wp2_with fail
        refine bodyPost_ret (results_tmp rfl _ _ _) rfl ?_
        exact ⟨w.heap.size, 0, rfl, HM.out.own, HC.out⟩
      · obtain ⟨β, hβ⟩ : ∃ β, tabB rs = β := ⟨_, rfl⟩
        rw [hβ] at hT
        have HB := Lib.hid hβ
        clear hβ
        cases β
        · go_wp2_with fail
          refine (specTableOk_any (HR.out.calm HC.out) rfl (by omega)).mono ?_
          rw [HB.out]
          rintro z w2 ⟨rfl, C⟩
          have HC2 := Lib.hid (calm_trans HC.out C)
          have HM2 := Lib.hid (HM.out.calm C)
          clear C HC HM
          go_wp2_with fail
          refine bodyPost_ret (results_tmp rfl _ _ _) rfl ?_
          exact ⟨w.heap.size, 0, rfl, HM2.out.own, HC2.out⟩
        · have HW := Lib.hid (show (decide (0 ≤ which) && decide (which ≤ 3)) = false by simpa using hT)
          clear hT
          go_wp2_with fail
          refine (specTableOk_any (HR.out.calm HC.out) rfl (by omega)).mono ?_
          rw [HB.out]
          rintro z w2 ⟨rfl, C⟩
          have HC2 := Lib.hid (calm_trans HC.out C)
          have HM2 := Lib.hid (HM.out.calm C)
          clear C HC HM
          go_wp2_with fail
          refine (l1In_any _ _ _ _).mono ?_
          rw [HW.out]
          rintro z w3 ⟨rfl, hw3⟩
          subst hw3
          go_wp2_with fail
          refine bodyPost_ret (results_tmp rfl _ _ _) rfl ?_
          exact ⟨w.heap.size, 0, rfl, HM2.out.own, HC2.out⟩
  · have hT' := hT
    simp only [Bool.and_eq_true] at hT'
    obtain ⟨hTb, hTw⟩ := hT'
    have HB := Lib.hid hTb
    have HW := Lib.hid (show (decide (0 ≤ which) && decide (which ≤ 3)) = true by simpa using hTw)
    have hw4 : which = 0 ∨ which = 1 ∨ which = 2 ∨ which = 3 := by
      simp at hTw
      omega
    have hcol : colB rs which = rs.map fun r => r.num which := by unfold colB; rw [hT]; rfl
    rw [hcol]
    clear hcol hT hTb hTw
    go_enter Try.func14, Try.ntmps14
    go_wp2_with fail
    go_loopw [5, 6] (fun v kv wr => ∃ n : Nat, n ≤ rs.length ∧ kv = .int .i64 n ∧ ColHold w wr v (colP rs which n))
      (fun _ kv _ => rs.length - (intOf kv).toNat)
    case atStart => exact ⟨0, by omega, rfl, HN0.out⟩
    case round =>
      obtain ⟨n, hn, rfl, N⟩ := hrel
      have HN := Lib.hid N
      clear N HN0
      by_cases hlt : n < rs.length
      · have hstep := colP_step (k := which) hlt
        have hcl := colP_len (k := which) hn
        have hcells : ∀ w', Calm w w' → FiveAt (fun j => w'.cell? ⟨g, j, none⟩) n rs[n] := fun w' C => HR.out.calm C n hlt
        generalize rs[n] = r at *
        have HL := Lib.hid hcells
        have HS := Lib.hid hstep
        clear hcells hstep
        go_wp2_with fail
        refine (specTableOk_any (HR.out.calm HN.out.c) rfl (by omega)).mono ?_
        rw [HB.out]
        rintro z w2 ⟨rfl, C⟩
        have HN2 := Lib.hid (HN.out.calm C)
        clear C HN
        go_wp2_with fail
        refine (l1In_any _ _ _ _).mono ?_
        rw [HW.out]
        rintro z w3 ⟨rfl, hw3⟩
        subst hw3
        obtain ⟨a0, a1, a2, a3, a4⟩ := HL.out _ HN2.out.c
        have hgl := World.block_lt_of_cell? w2 _ a0
        dsimp only at a0 a1 a2 a3 a4 hgl
        go_wp2_with fail
        refine (numbers_any _ _ _ _ _ _ _ _ _).mono ?_
        rintro z w4 ⟨x, rfl, A4, hx, C⟩
        have HN4 := Lib.hid (HN2.out.calm C)
        have HA4 := Lib.hid A4
        clear C HN2 a0 a1 a2 a3 a4 hgl A4
        have al := HA4.out.lt
        obtain ⟨e, f, hef⟩ : ∃ e f, r.num which = (e, f) := ⟨_, _, rfl⟩
        have hv : w4.cell? ⟨x, which.toNat, none⟩ = some (.complex .f32 e f) := by
          have h1 : (r.num which).1 = e := by rw [hef]
          have h2 : (r.num which).2 = f := by rw [hef]
          subst h1 h2
          rcases hw4 with rfl | rfl | rfl | rfl
          · exact HA4.out.cell (i := 0) rfl
          · exact HA4.out.cell (i := 1) rfl
          · exact HA4.out.cell (i := 2) rfl
          · exact HA4.out.cell (i := 3) rfl
        have hE := Lib.hid hef
        have hw0 : 0 ≤ which := by omega
        have hw3 : which < 4 := by omega
        clear hef hw4
        have H4 := Lib.hid (HN4.out.calm (World.grownBy_alloc w4 (.cells #[.complex .f32 e f] 39) none))
        have hown := H4.out.own
        have hsz := HN4.out.c.size
        go_wp2_with (first | (at_builtin; refine wpList_append_own _ rfl _ _ 30 rfl w.heap.size 39 i0 (.complex .f32 0 0) 1 8 Try.underlying30 hi hz0 hz1 hz2 rfl (by decide) _ _ _ rfl hown ⟨w4.heap.size, 0, none⟩ 1 1 [.complex .f32 e f] rfl rfl ?c1 ?c2 ?c3 ?c4 ?c5 ?_) | fail)
        case c1 =>
          intro j u hu
          have A := At.new w4 (.cells #[.complex .f32 e f] 39)
          cases j with
          | zero =>
            simp at hu
            subst hu
            exact A.cell (i := 0) rfl
          | succ j => simp at hu
        case c2 => intro u hu; simp at hu; subst hu; rfl
        case c3 => rw [hcl]; unfold maxLen; omega
        case c4 => rw [hcl]; omega
        case c5 => simp; omega
        intro v' w5 O' G' hnil
        have hnn : v' ≠ .slice none 0 0 := by intro e; first | exact hnil e | exact H4.out.nn (hnil.1 e).1
        have H5 := Lib.hid (H4.out.app (z := (e, f)) (by rw [hcl]; exact O') G' hnn)
        clear O' G' hnil hnn hown H4 hv al HN4 HA4
        go_wp2_with fail
        exact ⟨⟨n + 1, by omega, by go_num, by rw [HS.out, hE.out]; exact H5.out⟩, by simp [intOf]; omega⟩
      · have hn' : n = rs.length := by omega
        subst hn'
        rw [colP_end] at HN
        obtain ⟨x, c, hv⟩ := own_formC HN.out.own HN.out.nn
        subst hv
        go_wp2_with fail
        refine bodyPost_ret (results_tmp rfl _ _ _) rfl ?_
        exact ⟨x, c, rfl, HN.out.own, HN.out.c⟩

theorem specColumn_any {g n cap : Nat} {rs : List RowW} {w : World} {which : Int} (hR : Row5 w g rs) (hn : rs.length = n) (hl : n ≤ 9) (h0 : -10 ≤ which) (h1 : which ≤ 10) :
    Calls Try.prog 14 #[.slice (some ⟨g, 0, none⟩) n cap, .int .i64 which] w fun z w' => ∃ x c, z = .returned (.slice (some ⟨x, 0, none⟩) (colB rs which).length c) ∧ CRow w' (some ⟨x, 0, none⟩) (colB rs which) ∧ Calm w w' := by
  refine (specColumn_own hR hn hl h0 h1).mono ?_
  rintro z w' ⟨x, c, rfl, O, C⟩
  exact ⟨x, c, rfl, crow_of O rfl, C⟩

end Go.Proofs.Ythbebgnjidaokaa
