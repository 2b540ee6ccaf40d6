/-
  Rows and tables of a text, in the program.
-/
import Derived.Test.YthbebgnjidaokaaDoorIRead
import Derived.Test.YthbebgnjidaokaaDoorImplTb
namespace Go.Proofs.YthbebgnjidaokaaDoor
open Go.RowKit Fl

theorem results_row_tmp {fn : Func} {p u : Tmp} (hr : fn.results = #[.cell p 40, .tmp u]) (tmps : Array Value) {w : World} {A : Nat} {cs : Array Value}
    (hp : tmps.getD p undef = .pointer (some ⟨A, 0, none⟩)) (H : At w A (.cells cs 40)) (hs : cs.size = 5) :
    (results fn tmps).run Tryd.prog w = .ok (.tuple #[.agg cs, tmps.getD u undef]) w := by
  have hp' : tmps[p]?.getD undef = .pointer (some ⟨A, 0, none⟩) := by simpa using hp
  have l1 := run_loadVar_row (P := Tryd.prog) w A 40 40 _ _ _ H Tryd.underlying40 rfl (by rw [hs]; kernel_rfl)
  simp [results, hr, hp', asAddr, l1]
theorem at_set5 {w : World} {B : Nat} {a0 a1 a2 a3 a4 : Value} {T : TypeId} (H : At w B (.cells #[a0, a1, a2, a3, a4] T)) (v0 v1 v2 v3 v4 : Value) :
    At (((((w.setCell ⟨B, 0, none⟩ v0).setCell ⟨B, 1, none⟩ v1).setCell ⟨B, 2, none⟩ v2).setCell ⟨B, 3, none⟩ v3).setCell ⟨B, 4, none⟩ v4) B (.cells #[v0, v1, v2, v3, v4] T) := by
  have step : ∀ {w : World} {cs : Array Value} (p : Nat) (v : Value), At w B (.cells cs T) → At (w.setCell ⟨B, p, none⟩ v) B (.cells (cs.setIfInBounds p v) T) := by
    intro w cs p v H
    unfold At at *
    rw [setCell_eq_setRow w B p _ T (0, 0) _ H]
    exact setRow_heap w B _ _ T _ H
  exact step 4 _ (step 3 _ (step 2 _ (step 1 _ (step 0 _ H))))
theorem calm_set5 {w w1 : World} (h : Calm w w1) {B : Nat} (hB : w.heap.size ≤ B) (v0 v1 v2 v3 v4 : Value) :
    Calm w (((((w1.setCell ⟨B, 0, none⟩ v0).setCell ⟨B, 1, none⟩ v1).setCell ⟨B, 2, none⟩ v2).setCell ⟨B, 3, none⟩ v3).setCell ⟨B, 4, none⟩ v4) :=
  calm_setR (calm_setR (calm_setR (calm_setR (calm_setR h hB v0) hB v1) hB v2) hB v3) hB v4
/-- What readRow gives. -/
def rowVal (o : Option Tx.RowI) : Value := match o with
  | some r => .tuple #[.agg #[.int .i64 r.f, .complex .f32 (milliB r.a.1) (milliB r.a.2), .complex .f32 (milliB r.b.1) (milliB r.b.2), .complex .f32 (milliB r.c.1) (milliB r.c.2), .complex .f32 (milliB r.d.1) (milliB r.d.2)], .bool true]
  | none => .tuple #[.agg #[.int .i64 0, .complex .f32 0 0, .complex .f32 0 0, .complex .f32 0 0, .complex .f32 0 0], .bool false]
theorem fourVal_none : fourVal none = .tuple #[twoV 0 0 0 0 0 0 0 0, .bool false] := rfl
theorem fourVal_some (a b c d : Tx.Cn) : fourVal (some (a, b, c, d)) = .tuple #[twoV (milliB a.1) (milliB a.2) (milliB b.1) (milliB b.2) (milliB c.1) (milliB c.2) (milliB d.1) (milliB d.2), .bool true] := rfl

set_option maxRecDepth 8000 in
set_option maxHeartbeats 2000000 in
theorem readRow_any (s : ByteArray) (hs : s.size ≤ 2000000) {w : World} (L : LibOk w) :
    Calls Tryd.prog 15 #[.string s] w fun z w' => z = .returned (rowVal (rowG (byt s))) ∧ Calm w w' := by
  have HL := Lib.hid L
  have HZ0 := Lib.hid (At.new w (.cells #[.int .i64 0, .complex .f32 0 0, .complex .f32 0 0, .complex .f32 0 0, .complex .f32 0 0] 40))
  have HC0 := Lib.hid (calm_new w (.cells #[.int .i64 0, .complex .f32 0 0, .complex .f32 0 0, .complex .f32 0 0, .complex .f32 0 0] 40))
  have HCt := Lib.hid (cut_any s 32 hs (HL.out.calm HC0.out))
  have hlen := cut1_len 32 (byt s)
  rw [byt_len] at hlen
  have HV : Hid (rowG (byt s) = match intV (cut1 32 (byt s)).1, fourV (cut1 32 (byt s)).2.1 with
    | some f, some (a, b, c, d) => some ⟨f, a, b, c, d⟩
    | _, _ => none) := Lib.hid rfl
  generalize (cut1 32 (byt s)).1 = x at *
  generalize (cut1 32 (byt s)).2.1 = y at *
  generalize (cut1 32 (byt s)).2.2 = f at *
  clear L
  go_enter Tryd.func15, Tryd.ntmps15
  go_wp2_with fail
  refine HCt.out.mono ?_
  rintro z w2 ⟨rfl, C⟩
  have HC := Lib.hid (calm_trans HC0.out C)
  have HZ2 := Lib.hid (HZ0.out.calm C)
  have HL2 := Lib.hid (HL.out.calm HC.out)
  clear C HCt HZ0 HC0
  go_wp2_with fail
  refine (readInt_any (txt x) (by rw [txt_size]; omega) HL2.out).mono ?_
  rw [byt_txt']
  rintro z w3 ⟨rfl, C⟩
  have HC3 := Lib.hid (calm_trans HC.out C)
  have HZ3 := Lib.hid (HZ2.out.calm C)
  have HL3 := Lib.hid (HL2.out.calm C)
  clear C HL2 HC HZ2
  go_wp2_with fail
  refine (readTwo_any (txt y) (by rw [txt_size]; omega) HL3.out).mono ?_
  rw [byt_txt']
  rintro z w4 ⟨rfl, C⟩
  have HC4 := Lib.hid (calm_trans HC3.out C)
  have HZ4 := Lib.hid (HZ3.out.calm C)
  clear C HL3 HC3 HZ3
  have zl := HZ4.out.lt
  obtain ⟨o, ho⟩ : ∃ o, fourV y = o := ⟨_, rfl⟩
  obtain ⟨i, hi⟩ : ∃ i, intV x = i := ⟨_, rfl⟩
  rw [ho, hi] at HV
  rw [ho, hi]
  clear ho hi
  have z0 : w4.cell? ⟨w.heap.size, 0, none⟩ = some (.int .i64 0) := HZ4.out.cell (i := 0) rfl
  have z1 : w4.cell? ⟨w.heap.size, 1, none⟩ = some (.complex .f32 0 0) := HZ4.out.cell (i := 1) rfl
  have z2 : w4.cell? ⟨w.heap.size, 2, none⟩ = some (.complex .f32 0 0) := HZ4.out.cell (i := 2) rfl
  have z3 : w4.cell? ⟨w.heap.size, 3, none⟩ = some (.complex .f32 0 0) := HZ4.out.cell (i := 3) rfl
  have z4 : w4.cell? ⟨w.heap.size, 4, none⟩ = some (.complex .f32 0 0) := HZ4.out.cell (i := 4) rfl
  have f0 := HZ4.out.fr 0
  have f1 := HZ4.out.fr 1
  have f2 := HZ4.out.fr 2
  have f3 := HZ4.out.fr 3
  have f4 := HZ4.out.fr 4
  cases o with
  | none =>
    have HX : Hid (rowG (byt s) = none) := Lib.hid (by rw [HV.out]; cases i <;> rfl)
    rw [fourVal_none]
    cases i with
    | none =>
      go_wp2_with fail
      refine bodyPost_ret (results_row_tmp rfl _ rfl ((at_set5 HZ4.out _ _ _ _ _).alloc _) rfl) rfl ?_
      exact ⟨by rw [HX.out]; rfl, calm_allocR (calm_set5 HC4.out (Nat.le_refl _) _ _ _ _ _) _⟩
    | some n =>
      go_wp2_with fail
      refine bodyPost_ret (results_row_tmp rfl _ rfl ((at_set5 HZ4.out _ _ _ _ _).alloc _) rfl) rfl ?_
      exact ⟨by rw [HX.out]; rfl, calm_allocR (calm_set5 HC4.out (Nat.le_refl _) _ _ _ _ _) _⟩
  | some q =>
    obtain ⟨a, b, c, d⟩ := q
    rw [fourVal_some]
    cases i with
    | none =>
      have HX : Hid (rowG (byt s) = none) := Lib.hid (by rw [HV.out])
      go_wp2_with fail
      refine bodyPost_ret (results_row_tmp rfl _ rfl ((at_set5 HZ4.out _ _ _ _ _).alloc _) rfl) rfl ?_
      exact ⟨by rw [HX.out]; rfl, calm_allocR (calm_set5 HC4.out (Nat.le_refl _) _ _ _ _ _) _⟩
    | some n =>
      have HX : Hid (rowG (byt s) = some ⟨n, a, b, c, d⟩) := Lib.hid (by rw [HV.out])
      go_wp2_with fail
      refine bodyPost_ret (results_row_tmp rfl _ rfl ((at_set5 HZ4.out _ _ _ _ _).alloc _) rfl) rfl ?_
      exact ⟨by rw [HX.out]; rfl, calm_allocR (calm_set5 HC4.out (Nat.le_refl _) _ _ _ _ _) _⟩

theorem rowVal_none : rowVal none = .tuple #[.agg #[.int .i64 0, .complex .f32 0 0, .complex .f32 0 0, .complex .f32 0 0, .complex .f32 0 0], .bool false] := rfl
theorem rowVal_some (r : Tx.RowI) : rowVal (some r) = .tuple #[.agg #[.int .i64 r.f, .complex .f32 (milliB r.a.1) (milliB r.a.2), .complex .f32 (milliB r.b.1) (milliB r.b.2), .complex .f32 (milliB r.c.1) (milliB r.c.2), .complex .f32 (milliB r.d.1) (milliB r.d.2)], .bool true] := rfl

/-- What ifTableOk gives. -/
def ifTabU (g n cap : Nat) (β : Bool) : Value := if β then .tuple #[.slice (some ⟨g, 0, none⟩) n cap, .bool true] else .tuple #[.slice none 0 0, .bool false]
set_option maxHeartbeats 1000000 in
theorem ifTab_any {g n cap : Nat} {rs : List RowW} {w : World} (hR : Row5 w g rs) (hn : rs.length = n) (hl : n ≤ 1048576) :
    Calls Tryd.prog 16 #[.slice (some ⟨g, 0, none⟩) n cap] w fun z w' => z = .returned (ifTabU g n cap (tabB rs)) ∧ Calm w w' := by
  obtain ⟨β, hβ⟩ : ∃ β, tabB rs = β := ⟨_, rfl⟩
  have HT := Lib.hid (implTableOk_any (cap := cap) hR hn hl)
  rw [hβ] at HT ⊢
  clear hR hβ
  go_enter Tryd.func16, Tryd.ntmps16
  go_wp2_with fail
  refine HT.out.mono ?_
  rintro z w2 ⟨rfl, C⟩
  cases β
  · go_wp2_with fail
    go_ret2
    exact ⟨rfl, C⟩
  · go_wp2_with fail
    go_ret2
    exact ⟨rfl, C⟩
set_option maxHeartbeats 1000000 in
theorem tabOk_nil (w : World) :
    Calls Tryd.prog 24 #[.slice none 0 0] w fun z w' => z = .returned (.bool false) ∧ Calm w w' := by
  go_enter Tryd.func24, Tryd.ntmps24
  go_wp2_with fail
  go_ret
  exact ⟨rfl, grown_refl _ _⟩
set_option maxHeartbeats 1000000 in
theorem ifTab_nil (w : World) :
    Calls Tryd.prog 16 #[.slice none 0 0] w fun z w' => z = .returned (.tuple #[.slice none 0 0, .bool false]) ∧ Calm w w' := by
  go_enter Tryd.func16, Tryd.ntmps16
  go_wp2_with fail
  refine (tabOk_nil _).mono ?_
  rintro z w2 ⟨rfl, C⟩
  go_wp2_with fail
  go_ret2
  exact ⟨rfl, C⟩

/-- Rows that the call owns, or none. -/
structure RdOwn (w wr : World) (v : Value) (rs : List RowW) : Prop where
  own : wr.ownsRow w.heap.size 40 5 v rs.length (cells5 rs)
  c : Calm w wr
theorem RdOwn.calm {w wr wx : World} {v : Value} {rs : List RowW} (H : RdOwn w wr v rs) (C : Calm wr wx) : RdOwn w wx v rs :=
  ⟨H.own.kept C (by cases v.ownBlock <;> simp), calm_trans H.c C⟩
theorem RdOwn.app {w wr wx : World} {v v' : Value} {rs : List RowW} {r : RowW} (H : RdOwn w wr v rs) (O : wx.ownsRow w.heap.size 40 5 v' (rs.length + 1) (cells5 rs ++ r.cells)) (G : wr.grownBy wx v.ownBlock) : RdOwn w wx v' (rs ++ [r]) :=
  ⟨by rw [cells5_add, List.length_append]; exact O, calm_over H.c G (fun g e => (H.own.lt g e).1)⟩
theorem RdOwn.nil {w wr : World} (C : Calm w wr) : RdOwn w wr (.slice none 0 0) [] := ⟨World.ownsRow_nil _ _ _ _, C⟩
/-- The length of a string. -/
def strLen : Value → Nat
  | .string s => s.size
  | _ => 0
/-- What ReadTable gives: a list of its own. -/
def ReadI (w w' : World) (o : Option (List Tx.RowI)) (z : Ending) : Prop := ∃ v, z = .returned (.tuple #[v, .bool o.isSome]) ∧ w'.ownsRow w.heap.size 40 5 v ((o.getD []).map rowM).length (cells5 ((o.getD []).map rowM)) ∧ Calm w w'

set_option maxRecDepth 8000 in
set_option maxHeartbeats 4000000 in
theorem implReadTable_any (s : ByteArray) (hs : s.size ≤ 2000000) {w : World} (L : LibOk w) :
    Calls Tryd.prog 5 #[.string s] w fun z w' => ReadI w w' (readT (byt s)) z := by
  obtain ⟨i0, hi, hz0, hz1, hz2⟩ := info_parts Tryd.infoRowR
  have HL := Lib.hid L
  clear L
  go_enter Tryd.func5, Tryd.ntmps5
  go_wp2_with fail
  go_loopw [0, 4] (fun sv tv wr => ∃ (t : ByteArray) (rs : List RowW), sv = .string t ∧ t.size ≤ 2000000 ∧ rs.length ≤ 8 ∧ RdSt (byt s) (byt t) rs ∧ RdOwn w wr tv rs)
    (fun sv _ _ => strLen sv)
  case atStart => exact ⟨s, [], rfl, hs, by simp, rdSt_start _, .nil (grown_refl _ _)⟩
  case round =>
    obtain ⟨t, rs, rfl, ht, hl8, hst, N⟩ := hrel
    have HSt := Lib.hid hst
    have HN := Lib.hid N
    clear hst N
    obtain ⟨ta, tc, rfl⟩ : ∃ a c, u4 = .slice a rs.length c := by
      rcases HN.out.own.2 with ⟨h, h2⟩ | ⟨g, cap, cur, h, _⟩
      · exact ⟨none, 0, by rw [h, h2]⟩
      · exact ⟨_, cap, h⟩
    by_cases h0 : t.size = 0
    · obtain rfl : t = ⟨#[]⟩ := by
        have : t.data.toList = [] := List.eq_nil_of_length_eq_zero (by have := byt_len t; unfold byt at this; omega)
        rw [← Lib.mk_data t, this]
      have HE := Lib.hid (rdSt_end HSt.out)
      rcases HN.out.own.2 with ⟨h, h2⟩ | ⟨g, cap, cur, h, hrest⟩
      · have h3 : ta = none ∧ tc = 0 := by injection h with e1 e2 e3; exact ⟨e1, e3⟩
        obtain ⟨rfl, rfl⟩ := h3
        have hrs : rs = [] := List.eq_nil_of_length_eq_zero h2
        subst hrs
        have HV : Hid (readT (byt s) = none) := Lib.hid (by
          rcases HE.out with ⟨h, _⟩ | ⟨_, h⟩
          · exact absurd h (by decide)
          · exact h)
        go_wp2_with fail
        refine (ifTab_nil _).mono ?_
        rintro z w2 ⟨rfl, C⟩
        go_wp2_with fail
        go_ret2
        rw [HV.out]
        exact ⟨_, rfl, World.ownsRow_nil _ _ _ _, calm_trans HN.out.c C⟩
      · have h3 : ta = some ⟨g, 0, none⟩ ∧ tc = cap := by injection h with e1 e2 e3; exact ⟨e1, e3⟩
        obtain ⟨rfl, rfl⟩ := h3
        have HT := Lib.hid (ifTab_any (cap := tc) (row5_ofR HN.out.own) rfl (by omega))
        have HF := Lib.hid (show ∀ β, tabB rs = β → ifTabU g rs.length tc (tabB rs) = if β then .tuple #[.slice (some ⟨g, 0, none⟩) rs.length tc, .bool true] else .tuple #[.slice none 0 0, .bool false] from fun β h => by rw [h]; rfl)
        clear h hrest
        rcases HE.out with ⟨hb, rI, hr, hv⟩ | ⟨hb, hv⟩
        · have HV := Lib.hid hv
          have HF2 := Lib.hid (HF.out _ hb)
          rw [HF2.out] at HT
          have HR := Lib.hid hr
          clear hv hb hr HE HF HF2
          go_wp2_with fail
          refine HT.out.mono ?_
          rintro z w2 ⟨rfl, C⟩
          have HN2 := Lib.hid (HN.out.calm C)
          clear C
          go_wp2_with fail
          go_ret2
          rw [HV.out]
          refine ⟨_, rfl, ?_, HN2.out.c⟩
          show w2.ownsRow _ _ _ _ (rI.map rowM).length (cells5 (rI.map rowM))
          rw [← HR.out]
          exact HN2.out.own
        · have HV := Lib.hid hv
          have HF2 := Lib.hid (HF.out _ hb)
          rw [HF2.out] at HT
          clear hv hb HE HF HF2
          go_wp2_with fail
          refine HT.out.mono ?_
          rintro z w2 ⟨rfl, C⟩
          go_wp2_with fail
          go_ret2
          rw [HV.out]
          exact ⟨_, rfl, World.ownsRow_nil _ _ _ _, calm_trans HN.out.c C⟩
    · have hne : byt t ≠ [] := by
        intro h
        have := byt_len t
        rw [h] at this
        simp at this
        omega
      have hl1 : t.toList = byt t := Lib.toList_data t
      have es : (t.toList == (⟨#[]⟩ : ByteArray).toList) = false := by
        rw [hl1, Lib.toList_data]
        simpa using hne
      have es2 : (t.toList == []) = false := by rw [hl1]; simpa using hne
      have es3 : t.toList.isEmpty = false := by rw [hl1]; simpa using hne
      have HCt := Lib.hid (cut_any t 10 ht (HL.out.calm HN.out.c))
      have hlen := cut1_len 10 (byt t)
      rw [byt_len] at hlen
      have HSm : Hid ((cut1 10 (byt t)).2.2 = true → (cut1 10 (byt t)).2.1.length < t.size) := Lib.hid (by
        intro h
        have h2 := congrArg List.length (cut1_at h)
        rw [byt_len] at h2
        simp at h2
        omega)
      have HLast := Lib.hid (fun hf => rdSt_last HSt.out hne hf)
      have HBad := Lib.hid (fun hf hr => rdSt_bad HSt.out hf hr)
      have HFull := Lib.hid (fun h8 => rdSt_full HSt.out hne h8)
      have HNext := Lib.hid (fun (r : Tx.RowI) hf hr => rdSt_next (r := r) HSt.out hf hr)
      generalize (cut1 10 (byt t)).1 = x at *
      generalize (cut1 10 (byt t)).2.1 = y at *
      generalize (cut1 10 (byt t)).2.2 = f at *
      clear hl1 hne
      go_wp2_with fail
      refine HCt.out.mono ?_
      rintro z w2 ⟨rfl, C⟩
      have HN2 := Lib.hid (HN.out.calm C)
      clear C HCt HN
      go_wp2_with fail
      refine (readRow_any (txt x) (by rw [txt_size]; omega) (HL.out.calm HN2.out.c)).mono ?_
      rw [byt_txt']
      rintro z w3 ⟨rfl, C⟩
      have HN3 := Lib.hid (HN2.out.calm C)
      clear C HN2
      obtain ⟨o, ho⟩ : ∃ o, rowG x = o := ⟨_, rfl⟩
      rw [ho] at HBad HNext ⊢
      clear ho
      cases o with
      | none =>
        rw [rowVal_none]
        have HV : Hid (readT (byt s) = none) := Lib.hid (by
          cases f with
          | false => exact HLast.out rfl
          | true => exact HBad.out rfl rfl)
        cases f
        all_goals
          go_wp2_with fail
          go_ret2
          rw [HV.out]
          exact ⟨_, rfl, World.ownsRow_nil _ _ _ _, calm_allocR HN3.out.c _⟩
      | some r =>
        rw [rowVal_some]
        cases f with
        | false =>
          have HV := Lib.hid (HLast.out rfl)
          go_wp2_with fail
          go_ret2
          rw [HV.out]
          exact ⟨_, rfl, World.ownsRow_nil _ _ _ _, calm_allocR HN3.out.c _⟩
        | true =>
          by_cases h8 : rs.length = 8
          · have HV := Lib.hid (HFull.out h8)
            have h8' : ((rs.length : Int) == 8) = true := by simp; omega
            go_wp2_with fail
            go_ret2
            rw [HV.out]
            exact ⟨_, rfl, World.ownsRow_nil _ _ _ _, calm_allocR HN3.out.c _⟩
          · have h8' : ((rs.length : Int) == 8) = false := by simp; omega
            have HNx := Lib.hid (HNext.out r rfl rfl)
            have HSm2 := Lib.hid (HSm.out rfl)
            have HN4 := Lib.hid (HN3.out.calm (World.grownBy_alloc w3 (.cells #[.int .i64 r.f, .complex .f32 (milliB r.a.1) (milliB r.a.2), .complex .f32 (milliB r.b.1) (milliB r.b.2), .complex .f32 (milliB r.c.1) (milliB r.c.2), .complex .f32 (milliB r.d.1) (milliB r.d.2)] 40) none))
            have H4 := Lib.hid (HN4.out.calm (World.grownBy_alloc (w3.alloc (.cells #[.int .i64 r.f, .complex .f32 (milliB r.a.1) (milliB r.a.2), .complex .f32 (milliB r.b.1) (milliB r.b.2), .complex .f32 (milliB r.c.1) (milliB r.c.2), .complex .f32 (milliB r.d.1) (milliB r.d.2)] 40)) (.cells #[.int .i64 r.f, .complex .f32 (milliB r.a.1) (milliB r.a.2), .complex .f32 (milliB r.b.1) (milliB r.b.2), .complex .f32 (milliB r.c.1) (milliB r.c.2), .complex .f32 (milliB r.d.1) (milliB r.d.2)] 40) none))
            have hown := H4.out.own
            have hsz := H4.out.c.size
            have HA := Lib.hid (At.new (w3.alloc (.cells #[.int .i64 r.f, .complex .f32 (milliB r.a.1) (milliB r.a.2), .complex .f32 (milliB r.b.1) (milliB r.b.2), .complex .f32 (milliB r.c.1) (milliB r.c.2), .complex .f32 (milliB r.d.1) (milliB r.d.2)] 40)) (.cells #[.int .i64 r.f, .complex .f32 (milliB r.a.1) (milliB r.a.2), .complex .f32 (milliB r.b.1) (milliB r.b.2), .complex .f32 (milliB r.c.1) (milliB r.c.2), .complex .f32 (milliB r.d.1) (milliB r.d.2)] 40))
            have hsz1 : (w3.alloc (.cells #[.int .i64 r.f, .complex .f32 (milliB r.a.1) (milliB r.a.2), .complex .f32 (milliB r.b.1) (milliB r.b.2), .complex .f32 (milliB r.c.1) (milliB r.c.2), .complex .f32 (milliB r.d.1) (milliB r.d.2)] 40)).heap.size = w3.heap.size + 1 := by simp
            rw [hsz1] at HA
            clear HLast HBad HFull HNext HSm
            go_wp2_with (first | (at_builtin; refine wpList_append_own _ rfl _ _ 22 rfl w.heap.size 40 i0 (.agg #[.int .i64 0, .complex .f32 0 0, .complex .f32 0 0, .complex .f32 0 0, .complex .f32 0 0]) 5 40 Tryd.underlying22 hi hz0 hz1 hz2 rfl (by decide) _ _ _ rfl hown ⟨w3.heap.size + 1, 0, none⟩ 1 1 [.int .i64 r.f, .complex .f32 (milliB r.a.1) (milliB r.a.2), .complex .f32 (milliB r.b.1) (milliB r.b.2), .complex .f32 (milliB r.c.1) (milliB r.c.2), .complex .f32 (milliB r.d.1) (milliB r.d.2)] rfl rfl ?d1 ?d2 ?d3 ?d4 ?d5 ?_) | fail)
            case d1 =>
              intro jj u hu
              have e : (⟨w3.heap.size + 1, 0, none⟩ : Addr).add jj = ⟨w3.heap.size + 1, jj, none⟩ := by
                simp [Addr.add]
                try omega
              rw [e]
              exact HA.out.cell (by simpa using hu)
            case d2 => intro u hu; simp at hu; rcases hu with rfl | rfl | rfl | rfl | rfl <;> rfl
            case d3 => unfold maxLen; omega
            case d4 => omega
            case d5 => simpa using hsz
            intro v' w5 O' G' hnil
            have H5 := Lib.hid (H4.out.app (r := rowM r) O' G')
            clear O' G' hnil hown H4 HN4 HN3
            go_wp2_with fail
            refine ⟨⟨txt y, rs ++ [rowM r], rfl, by rw [txt_size]; omega, by simp; omega, by rw [byt_txt']; exact HNx.out, H5.out⟩, ?_⟩
            show (txt y).size < t.size
            rw [txt_size]
            exact HSm2.out

end Go.Proofs.YthbebgnjidaokaaDoor
