/-
  TableFrom in the program.
-/
import Derived.Test.YthbebgnjidaokaaFrom
import Derived.Test.YthbebgnjidaokaaICol
import Derived.Laws.MakeOwn
import Derived.Laws.Tables
import Derived.BigRegion
namespace Go.Proofs.Ythbebgnjidaokaa
open Go.RowKit Fl

/-- What ifTableOk gives. -/
def ifTabV (g n cap : Nat) (rs : List RowW) : Value := if tabB rs then .tuple #[.slice (some ⟨g, 0, none⟩) n cap, .bool true] else .tuple #[.slice none 0 0, .bool false]
set_option maxHeartbeats 1000000 in
theorem ifTableOk_any {g n cap : Nat} {rs : List RowW} {w : World} (hR : Row5 w g rs) (hn : rs.length = n) (hl : n ≤ 1048576) :
    Calls Try.prog 37 #[.slice (some ⟨g, 0, none⟩) n cap] w fun z w' => z = .returned (ifTabV g n cap rs) ∧ Calm w w' := by
  obtain ⟨β, hβ⟩ : ∃ β, tabB rs = β := ⟨_, rfl⟩
  have HT := Lib.hid (implTableOk_any (cap := cap) hR hn hl)
  have HV := Lib.hid (show ifTabV g n cap rs = if β then .tuple #[.slice (some ⟨g, 0, none⟩) n cap, .bool true] else .tuple #[.slice none 0 0, .bool false] by unfold ifTabV; rw [hβ])
  rw [hβ] at HT
  clear hR hβ
  go_enter Try.func37, Try.ntmps37
  go_wp2_with fail
  refine HT.out.mono ?_
  rintro z w2 ⟨rfl, C⟩
  cases β
  · go_wp2_with fail
    go_ret2
    exact ⟨by rw [HV.out]; rfl, C⟩
  · go_wp2_with fail
    go_ret2
    exact ⟨by rw [HV.out]; rfl, C⟩

/-- A row of cells with the first rows of a table. -/
def Rows5 (cs : Array Value) (rs : List RowW) : Prop := ∀ i, (h : i < rs.length) → FiveAt (fun j => cs[j]?) i rs[i]
theorem rows5_add {cs : Array Value} {rs : List RowW} {r : RowW} (H : Rows5 cs rs) (hs : rs.length * 5 + 5 ≤ cs.size) :
    Rows5 (((((cs.setIfInBounds (rs.length * 5) (.int .i64 r.f)).setIfInBounds (rs.length * 5 + 1) (.complex .f32 r.m.a r.m.b)).setIfInBounds (rs.length * 5 + 2) (.complex .f32 r.m.c r.m.d)).setIfInBounds (rs.length * 5 + 3) (.complex .f32 r.m.e r.m.f)).setIfInBounds (rs.length * 5 + 4) (.complex .f32 r.m.g r.m.h)) (rs ++ [r]) := by
  intro i hi
  by_cases e : i < rs.length
  · have e2 : (rs ++ [r])[i] = rs[i] := List.getElem_append_left e
    rw [e2]
    obtain ⟨a, b, c, d, f⟩ := H i e
    dsimp only at a b c d f
    refine ⟨?_, ?_, ?_, ?_, ?_⟩
    all_goals
      simp only [Array.getElem?_setIfInBounds]
      repeat rw [if_neg (by omega)]
      assumption
  · have e1 : i = rs.length := by simp at hi; omega
    subst e1
    have e2 : (rs ++ [r])[rs.length] = r := by simp
    rw [e2]
    refine ⟨?_, ?_, ?_, ?_, ?_⟩
    all_goals
      simp only [Array.getElem?_setIfInBounds, Array.size_setIfInBounds]
      simp
      try omega
theorem At.set5 {w : World} {B q : Nat} {cs : Array Value} {T : TypeId} (H : At w B (.cells cs T)) (v0 v1 v2 v3 v4 : Value) :
    At (((((w.setCell ⟨B, q, none⟩ v0).setCell ⟨B, q + 1, none⟩ v1).setCell ⟨B, q + 2, none⟩ v2).setCell ⟨B, q + 3, none⟩ v3).setCell ⟨B, q + 4, none⟩ v4) B (.cells (((((cs.setIfInBounds q v0).setIfInBounds (q + 1) v1).setIfInBounds (q + 2) v2).setIfInBounds (q + 3) v3).setIfInBounds (q + 4) v4) T) := by
  have step : ∀ {w : World} {cs : Array Value} (p : Nat) (v : Value), At w B (.cells cs T) → At (w.setCell ⟨B, p, none⟩ v) B (.cells (cs.setIfInBounds p v) T) := by
    intro w cs p v H
    unfold At at *
    rw [setCell_eq_setRow w B p _ T (0, 0) _ H]
    exact setRow_heap w B _ _ T _ H
  exact step _ _ (step _ _ (step _ _ (step _ _ (step _ _ H))))

set_option maxRecDepth 8000 in
set_option maxHeartbeats 4000000 in
theorem implFrom_any {fa aa ba ca da : Option Addr} {n na nb nc nd kf ka kb kc kd : Nat} {fs : List Int} {A B C D : List (Nat × Nat)} {w : World} (hf : IRow w fa fs) (ha : CRow w aa A) (hb : CRow w ba B) (hc : CRow w ca C) (hd : CRow w da D) (h0 : fs.length = n) (h1 : A.length = na) (h2 : B.length = nb) (h3 : C.length = nc) (h4 : D.length = nd) (hl : n ≤ 10) :
    Calls Try.prog 16 #[.slice fa n kf, .slice aa na ka, .slice ba nb kb, .slice ca nc kc, .slice da nd kd] w fun z w' => FromV w' (fromT fs A B C D) z ∧ Calm w w' := by
  obtain ⟨i0, hi, hz0, hz1, hz2⟩ := info_parts Try.infoRowR
  have HF := Lib.hid hf
  have HA := Lib.hid ha
  have HB := Lib.hid hb
  have HC := Lib.hid hc
  have HD := Lib.hid hd
  have HL := Lib.hid (And.intro h0 (And.intro h1 (And.intro h2 (And.intro h3 h4))))
  clear hf ha hb hc hd
  by_cases hle : na = n ∧ nb = n ∧ nc = n ∧ nd = n
  · obtain ⟨e1, e2, e3, e4⟩ := hle
    subst e1 e2 e3
    subst e4
    have hlens : lensB fs A B C D = true := by unfold lensB; simp; omega
    have HLe := Lib.hid hlens
    clear hlens h0 h1 h2 h3 h4
    have hmk : ∀ w : World, (Instr.makeSlice 23 (.int .i64 (nd : Int)) (.int .i64 (nd : Int))).run Try.prog w = .ok (.slice (some ⟨w.heap.size, 0, none⟩) nd nd) (w.alloc (.cells (madeCells (#[.int .i64 0, .complex .f32 0 0, .complex .f32 0 0, .complex .f32 0 0, .complex .f32 0 0]) (nd * 5)) 47)) := by
      intro w
      have hr := run_make (P := Try.prog) w 23 47 i0 _ Try.underlying23 hi hz0 .i64 .i64 nd nd (by omega) (Int.le_refl _) (by rw [hz2]; omega) (by omega)
      simp only [Int.toNat_natCast, hz1] at hr
      exact hr
    have HM0 := Lib.hid (At.new w (.cells (madeCells (#[.int .i64 0, .complex .f32 0 0, .complex .f32 0 0, .complex .f32 0 0, .complex .f32 0 0]) (nd * 5)) 47))
    have HMs := Lib.hid (size_madeCells (#[Value.int .i64 0, .complex .f32 0 0, .complex .f32 0 0, .complex .f32 0 0, .complex .f32 0 0]) (nd * 5))
    have HCn := Lib.hid (calm_new w (.cells (madeCells (#[.int .i64 0, .complex .f32 0 0, .complex .f32 0 0, .complex .f32 0 0, .complex .f32 0 0]) (nd * 5)) 47))
    generalize madeCells (#[Value.int .i64 0, .complex .f32 0 0, .complex .f32 0 0, .complex .f32 0 0, .complex .f32 0 0]) (nd * 5) = mc at *
    go_enter Try.func16, Try.ntmps16
    go_wp2_with fail
    go_loopw [44] (fun kv wr => ∃ (k : Nat) (cs : Array Value), k ≤ nd ∧ kv = .int .i64 k ∧ At wr w.heap.size (.cells cs 47) ∧ cs.size = nd * 5 ∧ Rows5 cs (mkRows fs A B C D k) ∧ Calm w wr)
      (fun kv _ => nd - (intOf kv).toNat)
    case atStart => exact ⟨0, mc, by omega, rfl, HM0.out, HMs.out, fun i h => absurd h (by simp [mkRows]), HCn.out⟩
    case round =>
      obtain ⟨k, cs, hk, rfl, hat, hcs, hrs, N⟩ := hrel
      have HN := Lib.hid N
      have HAt := Lib.hid hat
      have HCs := Lib.hid hcs
      have HRs := Lib.hid hrs
      clear N hat hcs hrs HM0 HMs HCn
      obtain ⟨h0, h1, h2, h3, h4⟩ := HL.out
      by_cases hlt : k < nd
      · have hstep := mkRows_step fs A B C D k
        have hml := mkRows_len fs A B C D k
        obtain ⟨gf, rfl, xf⟩ := irow_at (HF.out.calm HN.out) (i := k) (by omega)
        obtain ⟨ga, rfl, xa⟩ := crow_at (HA.out.calm HN.out) (i := k) (by omega)
        obtain ⟨gb, rfl, xb⟩ := crow_at (HB.out.calm HN.out) (i := k) (by omega)
        obtain ⟨gc, rfl, xc⟩ := crow_at (HC.out.calm HN.out) (i := k) (by omega)
        obtain ⟨gd, rfl, xd⟩ := crow_at (HD.out.calm HN.out) (i := k) (by omega)
        unfold rowAt at hstep
        generalize fs[k]?.getD 0 = f at *
        generalize numAt A k = za at *
        generalize numAt B k = zb at *
        generalize numAt C k = zc at *
        generalize numAt D k = zd at *
        have HS := Lib.hid hstep
        clear hstep h0 h1 h2 h3 h4
        have lf := World.block_lt_of_cell? wr _ xf
        have la := World.block_lt_of_cell? wr _ xa
        have lb := World.block_lt_of_cell? wr _ xb
        have lc := World.block_lt_of_cell? wr _ xc
        have ld := World.block_lt_of_cell? wr _ xd
        dsimp only at lf la lb lc ld
        have hat := HAt.out.lt
        have hcg : ∀ j, j < 5 → ∃ v, wr.cell? ⟨w.heap.size, k * 5 + j, none⟩ = some v := by
          intro j hj
          have hb : k * 5 + j < cs.size := by rw [HCs.out]; omega
          exact ⟨_, HAt.out.cell (Array.getElem?_eq_getElem hb)⟩
        obtain ⟨v0, c0⟩ := hcg 0 (by omega)
        obtain ⟨v1, c1⟩ := hcg 1 (by omega)
        obtain ⟨v2, c2⟩ := hcg 2 (by omega)
        obtain ⟨v3, c3⟩ := hcg 3 (by omega)
        obtain ⟨v4, c4⟩ := hcg 4 (by omega)
        have f0 := HAt.out.fr (k * 5)
        have f1 := HAt.out.fr (k * 5 + 1)
        have f2 := HAt.out.fr (k * 5 + 2)
        have f3 := HAt.out.fr (k * 5 + 3)
        have f4 := HAt.out.fr (k * 5 + 4)
        rw [Nat.add_zero] at c0
        clear hcg
        have hlt' : (k : Int) < (nd : Int) := by omega
        go_wp2_with fail
        go_region
        have hl5 : (mkRows fs A B C D k).length * 5 + 5 ≤ cs.size := by rw [hml, HCs.out]; omega
        have hR2 := rows5_add (r := ⟨f, ⟨za.1, za.2, zb.1, zb.2, zc.1, zc.2, zd.1, zd.2⟩⟩) HRs.out hl5
        rw [hml, ← HS.out] at hR2
        have HR2 := Lib.hid hR2
        have HA2 := Lib.hid (HAt.out.set5 (q := k * 5) (.int .i64 f) (.complex .f32 za.1 za.2) (.complex .f32 zb.1 zb.2) (.complex .f32 zc.1 zc.2) (.complex .f32 zd.1 zd.2))
        have HC2 := Lib.hid (grown_drew (calm_set1 (calm_set1 (calm_set1 (calm_set1 (calm_set1 HN.out (B := w.heap.size) (q := k * 5) (Nat.le_refl _) (.int .i64 f)) (B := w.heap.size) (q := k * 5 + 1) (Nat.le_refl _) (.complex .f32 za.1 za.2)) (B := w.heap.size) (q := k * 5 + 2) (Nat.le_refl _) (.complex .f32 zb.1 zb.2)) (B := w.heap.size) (q := k * 5 + 3) (Nat.le_refl _) (.complex .f32 zc.1 zc.2)) (B := w.heap.size) (q := k * 5 + 4) (Nat.le_refl _) (.complex .f32 zd.1 zd.2)))
        clear hR2 hl5
        go_wp2_with fail
        exact ⟨⟨k + 1, _, by omega, by go_num, HA2.out, by simp [HCs.out], HR2.out, HC2.out⟩, by simp [intOf]; omega⟩
      · have hn' : k = nd := by omega
        subst hn'
        have hml := mkRows_len fs A B C D k
        have R := Lib.hid (show Row5 wr w.heap.size (mkRows fs A B C D k) from fun i hi => by
          obtain ⟨a, b, c, d, e⟩ := HRs.out i hi
          exact ⟨HAt.out.cell a, HAt.out.cell b, HAt.out.cell c, HAt.out.cell d, HAt.out.cell e⟩)
        have HX : Hid (fromT fs A B C D = if tabB (mkRows fs A B C D k) then some (mkRows fs A B C D k) else none) := Lib.hid (by
          unfold fromT
          rw [HLe.out, h0]
          rfl)
        have HT := Lib.hid (ifTableOk_any (cap := k) R.out hml (by omega))
        have HV := Lib.hid (show ifTabV w.heap.size k k (mkRows fs A B C D k) = if tabB (mkRows fs A B C D k) then .tuple #[.slice (some ⟨w.heap.size, 0, none⟩) k k, .bool true] else .tuple #[.slice none 0 0, .bool false] from rfl)
        obtain ⟨β, hβ⟩ : ∃ β, tabB (mkRows fs A B C D k) = β := ⟨_, rfl⟩
        rw [hβ] at HX HV
        rw [HV.out] at HT
        clear hβ h0 h1 h2 h3 h4
        go_wp2_with fail
        refine HT.out.mono ?_
        rintro z w2 ⟨rfl, C2⟩
        have HC2 := Lib.hid (calm_trans HN.out C2)
        have R2 := Lib.hid (R.out.calm C2)
        clear C2 HT R
        cases β
        · go_wp2_with fail
          go_ret2
          exact ⟨⟨_, 0, by rw [HX.out]; rfl, by rw [HX.out]; exact .inl rfl⟩, HC2.out⟩
        · go_wp2_with fail
          go_ret2
          refine ⟨⟨some ⟨w.heap.size, 0, none⟩, k, ?_, ?_⟩, HC2.out⟩
          · rw [HX.out]
            show _ = Ending.returned (.tuple #[.slice (some ⟨w.heap.size, 0, none⟩) (mkRows fs A B C D k).length k, .bool true])
            rw [hml]
            rfl
          · rw [HX.out]
            exact .inr ⟨w.heap.size, rfl, R2.out⟩
  · have hX : fromT fs A B C D = none := by
      unfold fromT lensB
      rw [if_neg]
      simp
      omega
    have HX := Lib.hid hX
    clear hX h0 h1 h2 h3 h4
    go_enter Try.func16, Try.ntmps16
    go_wp2_with fail
    all_goals
      go_ret2
      exact ⟨⟨_, 0, by rw [HX.out]; rfl, by rw [HX.out]; exact .inl rfl⟩, grown_refl _ _⟩

end Go.Proofs.Ythbebgnjidaokaa
