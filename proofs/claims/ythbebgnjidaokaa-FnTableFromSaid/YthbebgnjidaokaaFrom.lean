/-
  TableFrom in the model: a table of columns.
-/
import Derived.Test.YthbebgnjidaokaaSameTab
import Derived.Deep.RegionHeld3
namespace Go.Proofs.Ythbebgnjidaokaa
open Go.RowKit Fl

/-- A list of integers. -/
def IRow (w : World) (a : Option Addr) (fs : List Int) : Prop :=
  fs = [] ∨ ∃ g, a = some ⟨g, 0, none⟩ ∧ ∀ i, (h : i < fs.length) → w.cell? ⟨g, i, none⟩ = some (.int .i64 fs[i])
theorem IRow.calm {w w' : World} {a : Option Addr} {fs : List Int} (H : IRow w a fs) (C : Calm w w') : IRow w' a fs := by
  rcases H with h | ⟨g, h1, h2⟩
  · exact .inl h
  · refine .inr ⟨g, h1, fun i hi => ?_⟩
    have := h2 i hi
    rw [World.cell?_of_block (w := w) (C.block g (World.block_lt_of_cell? w _ this) (fun e => by cases e))]
    exact this

def numAt (zs : List (Nat × Nat)) (i : Nat) : Nat × Nat := zs[i]?.getD (0, 0)
/-- The row of so many-th numbers. -/
def rowAt (fs : List Int) (a b c d : List (Nat × Nat)) (i : Nat) : RowW := ⟨fs[i]?.getD 0, ⟨(numAt a i).1, (numAt a i).2, (numAt b i).1, (numAt b i).2, (numAt c i).1, (numAt c i).2, (numAt d i).1, (numAt d i).2⟩⟩
def mkRows (fs : List Int) (a b c d : List (Nat × Nat)) (n : Nat) : List RowW := (List.range n).map (rowAt fs a b c d)
theorem mkRows_step (fs : List Int) (a b c d : List (Nat × Nat)) (n : Nat) : mkRows fs a b c d (n + 1) = mkRows fs a b c d n ++ [rowAt fs a b c d n] := by
  unfold mkRows
  rw [List.range_succ, List.map_append]
  rfl
theorem mkRows_len (fs : List Int) (a b c d : List (Nat × Nat)) (n : Nat) : (mkRows fs a b c d n).length = n := by
  unfold mkRows
  rw [List.length_map, List.length_range]
/-- As many numbers as frequencies. -/
def lensB (fs : List Int) (a b c d : List (Nat × Nat)) : Bool := (decide (a.length = fs.length) && decide (b.length = fs.length)) && (decide (c.length = fs.length) && decide (d.length = fs.length))
/-- What TableFrom gives. -/
def fromT (fs : List Int) (a b c d : List (Nat × Nat)) : Option (List RowW) := if lensB fs a b c d && tabB (mkRows fs a b c d fs.length) then some (mkRows fs a b c d fs.length) else none

theorem crow_at {w : World} {x : Option Addr} {zs : List (Nat × Nat)} (H : CRow w x zs) {i : Nat} (h : i < zs.length) : ∃ g, x = some ⟨g, 0, none⟩ ∧ w.cell? ⟨g, i, none⟩ = some (.complex .f32 (numAt zs i).1 (numAt zs i).2) := by
  rcases H with e | ⟨g, e, hg⟩
  · subst e; simp at h
  · refine ⟨g, e, ?_⟩
    unfold numAt
    rw [List.getElem?_eq_getElem h]
    exact hg i h
theorem irow_at {w : World} {x : Option Addr} {fs : List Int} (H : IRow w x fs) {i : Nat} (h : i < fs.length) : ∃ g, x = some ⟨g, 0, none⟩ ∧ w.cell? ⟨g, i, none⟩ = some (.int .i64 (fs[i]?.getD 0)) := by
  rcases H with e | ⟨g, e, hg⟩
  · subst e; simp at h
  · refine ⟨g, e, ?_⟩
    rw [List.getElem?_eq_getElem h]
    exact hg i h

/-- What TableFrom gives, as a value. -/
def FromV (w' : World) (o : Option (List RowW)) (z : Ending) : Prop := ∃ x c, z = .returned (.tuple #[.slice x (o.getD []).length c, .bool o.isSome]) ∧ TRow w' x (o.getD [])

/-- append to what one owns, as one step of a region that draws. -/
theorem step_append_own {P : Program} {ops : Array Oper} {o : Oper} {a : Act} {w : World} {K : Act → World → Prop} {Q : Exit → Act → World → Prop} {E : Prop}
    (hg : o.guard = none) (s x : Operand) (t : TypeId) (ho : o.op = .call { callee := .builtin .append, args := #[s, x], argTypes := #[t, t] })
    (base : Nat) (e : TypeId) (i : TypeInfo) (z : Value) (size bytes : Nat) (ht : P.underlying t = some (.slice e)) (hi : P.info? e = some i) (hz : i.zero = some z)
    (hsize : i.size = size) (hby : i.bytes = bytes) (hzs : z.cells.size = size) (hsz : 0 < size)
    (v : Value) (n : Nat) (xs : List Value) (hs : a.eval s = v) (hown : w.ownsRow base e size v n xs)
    (ad : Addr) (m c : Nat) (news : List Value) (hx : a.eval x = .slice (some ad) m c) (hl : news.length = m * size) (hnews : ∀ j u, news[j]? = some u → w.cell? (ad.add j) = some u) (h1 : ∀ u ∈ news, u.oneCell' = true)
    (h63 : n + m ≤ maxLen) (hbytes : (n + m) * bytes ≤ 140737488355328) (hbase : base ≤ w.heap.size)
    (hK : ∀ v' w', w'.ownsRow base e size v' (n + m) (xs ++ news) → w.grownBy w' v.ownBlock → (v' = .slice none 0 0 ↔ v = .slice none 0 0 ∧ m = 0) → K (a.put o.dst v') w') :
    if Region.wanted o (yielded ops a.tmps) = true then Oper.wp P o a w K Q else E := by
  have hw : Region.wanted o (yielded ops a.tmps) = true := by simp [Region.wanted, hg]
  rw [if_pos hw]
  exact wp_append_own w s x t ho base e i z size bytes ht hi hz hsize hby hzs hsz v n xs hs hown ad m c news hx hl hnews h1 h63 hbytes hbase hK

set_option maxRecDepth 8000 in
set_option maxHeartbeats 4000000 in
theorem specFrom_any {fa aa ba ca da : Option Addr} {n na nb nc nd kf ka kb kc kd : Nat} {fs : List Int} {A B C D : List (Nat × Nat)} {w : World} (hf : IRow w fa fs) (ha : CRow w aa A) (hb : CRow w ba B) (hc : CRow w ca C) (hd : CRow w da D) (h0 : fs.length = n) (h1 : A.length = na) (h2 : B.length = nb) (h3 : C.length = nc) (h4 : D.length = nd) (hl : n ≤ 10) :
    Calls Try.prog 17 #[.slice fa n kf, .slice aa na ka, .slice ba nb kb, .slice ca nc kc, .slice da nd kd] w fun z w' => FromV w' (fromT fs A B C D) z ∧ Calm w w' := by
  obtain ⟨i0, hi, hz0, hz1, hz2⟩ := info_parts Try.infoRowR
  have HN0 := Lib.hid (show RdHold w (w.alloc (.cells #[] 47)) (.slice (some ⟨w.heap.size, 0, none⟩) 0 0) (mkRows fs A B C D 0) from ⟨World.ownsRow_made (base := w.heap.size) (e := 47) (size := 5) w #[] 0 (Nat.le_refl _) (by decide) rfl, by simp, calm_new w _⟩)
  have HF := Lib.hid hf
  have HA := Lib.hid ha
  have HB := Lib.hid hb
  have HC := Lib.hid hc
  have HD := Lib.hid hd
  have HL := Lib.hid (And.intro h0 (And.intro h1 (And.intro h2 (And.intro h3 h4))))
  clear hf ha hb hc hd
  by_cases hle : na = n ∧ nb = n ∧ nc = n ∧ nd = n
  · obtain ⟨e1, e2, e3, e4⟩ := hle
    subst e1 e2 e3
    subst e4
    have hlens : lensB fs A B C D = true := by unfold lensB; simp; omega
    have HLe := Lib.hid hlens
    clear hlens h0 h1 h2 h3 h4
    go_enter Try.func17, Try.ntmps17
    go_wp2_with fail
    go_loopw [12, 13] (fun v kv wr => ∃ k : Nat, k ≤ nd ∧ kv = .int .i64 k ∧ RdHold w wr v (mkRows fs A B C D k))
      (fun _ kv _ => nd - (intOf kv).toNat)
    case atStart => exact ⟨0, by omega, rfl, HN0.out⟩
    case round =>
      obtain ⟨k, hk, rfl, N⟩ := hrel
      have HN := Lib.hid N
      clear N HN0
      obtain ⟨h0, h1, h2, h3, h4⟩ := HL.out
      by_cases hlt : k < nd
      · have hstep := mkRows_step fs A B C D k
        have hml := mkRows_len fs A B C D k
        obtain ⟨gf, rfl, xf⟩ := irow_at (HF.out.calm HN.out.c) (i := k) (by omega)
        have hgf : gf < w.heap.size := by
          obtain ⟨g', e, h⟩ := irow_at HF.out (i := k) (by omega)
          injection e with e; injection e with e; subst e
          exact World.block_lt_of_cell? w _ h
        obtain ⟨ga, rfl, xa⟩ := crow_at (HA.out.calm HN.out.c) (i := k) (by omega)
        have hga : ga < w.heap.size := by
          obtain ⟨g', e, h⟩ := crow_at HA.out (i := k) (by omega)
          injection e with e; injection e with e; subst e
          exact World.block_lt_of_cell? w _ h
        obtain ⟨gb, rfl, xb⟩ := crow_at (HB.out.calm HN.out.c) (i := k) (by omega)
        have hgb : gb < w.heap.size := by
          obtain ⟨g', e, h⟩ := crow_at HB.out (i := k) (by omega)
          injection e with e; injection e with e; subst e
          exact World.block_lt_of_cell? w _ h
        obtain ⟨gc, rfl, xc⟩ := crow_at (HC.out.calm HN.out.c) (i := k) (by omega)
        have hgc : gc < w.heap.size := by
          obtain ⟨g', e, h⟩ := crow_at HC.out (i := k) (by omega)
          injection e with e; injection e with e; subst e
          exact World.block_lt_of_cell? w _ h
        obtain ⟨gd, rfl, xd⟩ := crow_at (HD.out.calm HN.out.c) (i := k) (by omega)
        have hgd : gd < w.heap.size := by
          obtain ⟨g', e, h⟩ := crow_at HD.out (i := k) (by omega)
          injection e with e; injection e with e; subst e
          exact World.block_lt_of_cell? w _ h
        unfold rowAt at hstep
        generalize fs[k]?.getD 0 = f at *
        generalize numAt A k = za at *
        generalize numAt B k = zb at *
        generalize numAt C k = zc at *
        generalize numAt D k = zd at *
        have HS := Lib.hid hstep
        clear hstep h0 h1 h2 h3 h4
        have lf := World.block_lt_of_cell? wr _ xf
        have la := World.block_lt_of_cell? wr _ xa
        have lb := World.block_lt_of_cell? wr _ xb
        have lc := World.block_lt_of_cell? wr _ xc
        have ld := World.block_lt_of_cell? wr _ xd
        dsimp only at lf la lb lc ld
        have hlt' : (k : Int) < (nd : Int) := by omega
        go_wp2_with fail
        have H1C := Lib.hid (show Calm wr (wr.drew.alloc (.cells #[.int .i64 f, .complex .f32 za.1 za.2, .complex .f32 zb.1 zb.2, .complex .f32 zc.1 zc.2, .complex .f32 zd.1 zd.2] 47)) from calm_trans (grown_drew (grown_refl wr none)) (World.grownBy_alloc wr.drew _ none))
        have H4 := Lib.hid (HN.out.calm (calm_trans (grown_drew (grown_refl wr none)) (World.grownBy_alloc wr.drew (.cells #[.int .i64 f, .complex .f32 za.1 za.2, .complex .f32 zb.1 zb.2, .complex .f32 zc.1 zc.2, .complex .f32 zd.1 zd.2] 47) none)))
        have HNews := Lib.hid (show ∀ jj u, [Value.int .i64 f, .complex .f32 za.1 za.2, .complex .f32 zb.1 zb.2, .complex .f32 zc.1 zc.2, .complex .f32 zd.1 zd.2][jj]? = some u → (wr.drew.alloc (.cells #[.int .i64 f, .complex .f32 za.1 za.2, .complex .f32 zb.1 zb.2, .complex .f32 zc.1 zc.2, .complex .f32 zd.1 zd.2] 47)).cell? ((⟨wr.heap.size, 0, none⟩ : Addr).add jj) = some u by
          intro jj u hu
          have A := At.new wr.drew (.cells #[.int .i64 f, .complex .f32 za.1 za.2, .complex .f32 zb.1 zb.2, .complex .f32 zc.1 zc.2, .complex .f32 zd.1 zd.2] 47)
          have e : (⟨wr.heap.size, 0, none⟩ : Addr).add jj = ⟨wr.heap.size, jj, none⟩ := by
            simp [Addr.add]
            try omega
          rw [e]
          exact A.cell (by simpa using hu))
        have HOne := Lib.hid (show ∀ u ∈ [Value.int .i64 f, .complex .f32 za.1 za.2, .complex .f32 zb.1 zb.2, .complex .f32 zc.1 zc.2, .complex .f32 zd.1 zd.2], u.oneCell' = true by
          intro u hu
          simp at hu
          rcases hu with rfl | rfl | rfl | rfl | rfl <;> rfl)
        have h63 : (mkRows fs A B C D k).length + 1 ≤ maxLen := by rw [hml]; unfold maxLen; omega
        have hby : ((mkRows fs A B C D k).length + 1) * 40 ≤ 140737488355328 := by rw [hml]; omega
        have hba : w.heap.size ≤ (wr.drew.alloc (.cells #[.int .i64 f, .complex .f32 za.1 za.2, .complex .f32 zb.1 zb.2, .complex .f32 zc.1 zc.2, .complex .f32 zd.1 zd.2] 47)).heap.size := H4.out.c.size
        have H63 := Lib.hid (And.intro h63 (And.intro hby hba))
        clear h63 hby hba
        have HS0 := And.intro xf (And.intro xa (And.intro xb (And.intro xc xd)))
        have HK1 := Lib.hid (show (wr.drew.alloc (.cells #[.int .i64 f, .complex .f32 za.1 za.2, .complex .f32 zb.1 zb.2, .complex .f32 zc.1 zc.2, .complex .f32 zd.1 zd.2] 47)).cell? ⟨gf, k, none⟩ = some (.int .i64 f) ∧ (wr.drew.alloc (.cells #[.int .i64 f, .complex .f32 za.1 za.2, .complex .f32 zb.1 zb.2, .complex .f32 zc.1 zc.2, .complex .f32 zd.1 zd.2] 47)).cell? ⟨ga, k, none⟩ = some (.complex .f32 za.1 za.2) ∧ (wr.drew.alloc (.cells #[.int .i64 f, .complex .f32 za.1 za.2, .complex .f32 zb.1 zb.2, .complex .f32 zc.1 zc.2, .complex .f32 zd.1 zd.2] 47)).cell? ⟨gb, k, none⟩ = some (.complex .f32 zb.1 zb.2) ∧ (wr.drew.alloc (.cells #[.int .i64 f, .complex .f32 za.1 za.2, .complex .f32 zb.1 zb.2, .complex .f32 zc.1 zc.2, .complex .f32 zd.1 zd.2] 47)).cell? ⟨gc, k, none⟩ = some (.complex .f32 zc.1 zc.2) ∧ (wr.drew.alloc (.cells #[.int .i64 f, .complex .f32 za.1 za.2, .complex .f32 zb.1 zb.2, .complex .f32 zc.1 zc.2, .complex .f32 zd.1 zd.2] 47)).cell? ⟨gd, k, none⟩ = some (.complex .f32 zd.1 zd.2) from by
          refine ⟨?_, ?_, ?_, ?_, ?_⟩
          · rw [World.cell?_of_block (w := wr) (H1C.out.block gf lf (fun e => by cases e))]; exact xf
          · rw [World.cell?_of_block (w := wr) (H1C.out.block ga la (fun e => by cases e))]; exact xa
          · rw [World.cell?_of_block (w := wr) (H1C.out.block gb lb (fun e => by cases e))]; exact xb
          · rw [World.cell?_of_block (w := wr) (H1C.out.block gc lc (fun e => by cases e))]; exact xc
          · rw [World.cell?_of_block (w := wr) (H1C.out.block gd ld (fun e => by cases e))]; exact xd)
        have HK2 := Lib.hid (show ∀ w5, (wr.drew.alloc (.cells #[.int .i64 f, .complex .f32 za.1 za.2, .complex .f32 zb.1 zb.2, .complex .f32 zc.1 zc.2, .complex .f32 zd.1 zd.2] 47)).grownBy w5 (Value.ownBlock u12) → w5.cell? ⟨gf, k, none⟩ = some (.int .i64 f) ∧ w5.cell? ⟨ga, k, none⟩ = some (.complex .f32 za.1 za.2) ∧ w5.cell? ⟨gb, k, none⟩ = some (.complex .f32 zb.1 zb.2) ∧ w5.cell? ⟨gc, k, none⟩ = some (.complex .f32 zc.1 zc.2) ∧ w5.cell? ⟨gd, k, none⟩ = some (.complex .f32 zd.1 zd.2) from by
          intro w5 G'
          have nb : ∀ g, g < w.heap.size → some g ≠ Value.ownBlock u12 := fun g hg e => by have := (H4.out.own.lt _ e.symm).1; omega
          have sz := H1C.out.size
          obtain ⟨yf, ya, yb, yc, yd⟩ := HK1.out
          refine ⟨?_, ?_, ?_, ?_, ?_⟩
          · rw [World.cell?_of_block (w := wr.drew.alloc (.cells #[.int .i64 f, .complex .f32 za.1 za.2, .complex .f32 zb.1 zb.2, .complex .f32 zc.1 zc.2, .complex .f32 zd.1 zd.2] 47)) (G'.block gf (by omega) (nb gf hgf))]; exact yf
          · rw [World.cell?_of_block (w := wr.drew.alloc (.cells #[.int .i64 f, .complex .f32 za.1 za.2, .complex .f32 zb.1 zb.2, .complex .f32 zc.1 zc.2, .complex .f32 zd.1 zd.2] 47)) (G'.block ga (by omega) (nb ga hga))]; exact ya
          · rw [World.cell?_of_block (w := wr.drew.alloc (.cells #[.int .i64 f, .complex .f32 za.1 za.2, .complex .f32 zb.1 zb.2, .complex .f32 zc.1 zc.2, .complex .f32 zd.1 zd.2] 47)) (G'.block gb (by omega) (nb gb hgb))]; exact yb
          · rw [World.cell?_of_block (w := wr.drew.alloc (.cells #[.int .i64 f, .complex .f32 za.1 za.2, .complex .f32 zb.1 zb.2, .complex .f32 zc.1 zc.2, .complex .f32 zd.1 zd.2] 47)) (G'.block gc (by omega) (nb gc hgc))]; exact yc
          · rw [World.cell?_of_block (w := wr.drew.alloc (.cells #[.int .i64 f, .complex .f32 za.1 za.2, .complex .f32 zb.1 zb.2, .complex .f32 zc.1 zc.2, .complex .f32 zd.1 zd.2] 47)) (G'.block gd (by omega) (nb gd hgd))]; exact yd)
        refine wp_region_noPanic ?_
        refine wp_region_held_drew (S := (fun wx => wx.cell? ⟨gf, k, none⟩ = some (.int .i64 f) ∧ wx.cell? ⟨ga, k, none⟩ = some (.complex .f32 za.1 za.2) ∧ wx.cell? ⟨gb, k, none⟩ = some (.complex .f32 zb.1 zb.2) ∧ wx.cell? ⟨gc, k, none⟩ = some (.complex .f32 zc.1 zc.2) ∧ wx.cell? ⟨gd, k, none⟩ = some (.complex .f32 zd.1 zd.2))) (by kernel_rfl) ?_ (fun hHeld => ?_)
        · (try dsimp only)
          first | exact ⟨xf, xa, xb, xc, xd⟩ | exact HK1.out
        refine wpAnyH_take (i := 0) (v := ?_) (by (try simp only [List.getElem?_toArray, List.getElem?_cons_zero]); first | done | rfl) (by kernel_rfl) (by kernel_rfl) (by kernel_rfl) (fun _ _ _ h => h) (Or.inl ⟨by rfl, ?_⟩) (by assumption) ?_
        rotate_left 1
        · (intro wz hSw; (try dsimp only at hSw); go_simp; try with_reducible rfl)
        try simp only [Act.put, List.setIfInBounds_toArray, List.set_cons_zero, List.set_cons_succ]
        refine wpAnyH_take (i := 1) (v := ?_) (by (try simp only [List.getElem?_toArray, List.getElem?_cons_zero, List.getElem?_cons_succ]); first | done | rfl) (by kernel_rfl) (by kernel_rfl) (by kernel_rfl) (fun _ _ _ h => h) (Or.inl ⟨by rfl, ?_⟩) (by assumption) ?_
        rotate_left 1
        · (intro wz hSw; (try dsimp only at hSw); go_simp; try with_reducible rfl)
        try simp only [Act.put, List.setIfInBounds_toArray, List.set_cons_zero, List.set_cons_succ]
        refine wpAnyH_take (i := 2) (v := ?_) (by (try simp only [List.getElem?_toArray, List.getElem?_cons_zero, List.getElem?_cons_succ]); first | done | rfl) (by kernel_rfl) (by kernel_rfl) (by kernel_rfl) (fun _ _ _ h => h) (Or.inl ⟨by rfl, ?_⟩) (by assumption) ?_
        rotate_left 1
        · (intro wz hSw; (try dsimp only at hSw); go_simp; try with_reducible rfl)
        try simp only [Act.put, List.setIfInBounds_toArray, List.set_cons_zero, List.set_cons_succ]
        refine wpAnyH_take (i := 3) (v := ?_) (by (try simp only [List.getElem?_toArray, List.getElem?_cons_zero, List.getElem?_cons_succ]); first | done | rfl) (by kernel_rfl) (by kernel_rfl) (by kernel_rfl) (fun _ _ _ h => h) (Or.inl ⟨by rfl, ?_⟩) (by assumption) ?_
        rotate_left 1
        · (intro wz hSw; (try dsimp only at hSw); go_simp; try with_reducible rfl)
        try simp only [Act.put, List.setIfInBounds_toArray, List.set_cons_zero, List.set_cons_succ]
        refine wpAnyH_take (i := 4) (v := ?_) (by (try simp only [List.getElem?_toArray, List.getElem?_cons_zero, List.getElem?_cons_succ]); first | done | rfl) (by kernel_rfl) (by kernel_rfl) (by kernel_rfl) (fun _ _ _ h => h) (Or.inl ⟨by rfl, ?_⟩) (by assumption) ?_
        rotate_left 1
        · (intro wz hSw; (try dsimp only at hSw); go_simp; try with_reducible rfl)
        try simp only [Act.put, List.setIfInBounds_toArray, List.set_cons_zero, List.set_cons_succ]
        refine wpAnyH_take (i := 5) (v := ?_) (by (try simp only [List.getElem?_toArray, List.getElem?_cons_zero, List.getElem?_cons_succ]); first | done | rfl) (by kernel_rfl) (by kernel_rfl) (by kernel_rfl) (fun _ _ _ h => h) (Or.inl ⟨by rfl, ?_⟩) (by assumption) ?_
        rotate_left 1
        · (intro wz hSw; (try dsimp only at hSw); go_simp; try with_reducible rfl)
        try simp only [Act.put, List.setIfInBounds_toArray, List.set_cons_zero, List.set_cons_succ]
        refine wpAnyH_take (i := 6) (v := ?_) (by (try simp only [List.getElem?_toArray, List.getElem?_cons_zero, List.getElem?_cons_succ]); first | done | rfl) (by kernel_rfl) (by kernel_rfl) (by kernel_rfl) (fun _ _ _ h => h) (Or.inl ⟨by rfl, ?_⟩) (by assumption) ?_
        rotate_left 1
        · (intro wz hSw; (try dsimp only at hSw); go_simp; try with_reducible rfl)
        try simp only [Act.put, List.setIfInBounds_toArray, List.set_cons_zero, List.set_cons_succ]
        refine wpAnyH_take (i := 7) (v := ?_) (by (try simp only [List.getElem?_toArray, List.getElem?_cons_zero, List.getElem?_cons_succ]); first | done | rfl) (by kernel_rfl) (by kernel_rfl) (by kernel_rfl) (fun _ _ _ h => h) (Or.inl ⟨by rfl, ?_⟩) (by assumption) ?_
        rotate_left 1
        · (intro wz hSw; (try dsimp only at hSw); go_simp; try with_reducible rfl)
        try simp only [Act.put, List.setIfInBounds_toArray, List.set_cons_zero, List.set_cons_succ]
        refine wpAnyH_take (i := 8) (v := ?_) (by (try simp only [List.getElem?_toArray, List.getElem?_cons_zero, List.getElem?_cons_succ]); first | done | rfl) (by kernel_rfl) (by kernel_rfl) (by kernel_rfl) (fun _ _ _ h => h) (Or.inl ⟨by rfl, ?_⟩) (by assumption) ?_
        rotate_left 1
        · (intro wz hSw; (try dsimp only at hSw); go_simp; try with_reducible rfl)
        try simp only [Act.put, List.setIfInBounds_toArray, List.set_cons_zero, List.set_cons_succ]
        refine wpAnyH_take (i := 9) (v := ?_) (by (try simp only [List.getElem?_toArray, List.getElem?_cons_zero, List.getElem?_cons_succ]); first | done | rfl) (by kernel_rfl) (by kernel_rfl) (by kernel_rfl) (fun _ _ _ h => h) (Or.inl ⟨by rfl, ?_⟩) (by assumption) ?_
        rotate_left 1
        · (intro wz hSw; (try dsimp only at hSw); go_simp; try with_reducible rfl)
        try simp only [Act.put, List.setIfInBounds_toArray, List.set_cons_zero, List.set_cons_succ]
        refine wpAnyH_take (i := 10) (v := ?_) (by (try simp only [List.getElem?_toArray, List.getElem?_cons_zero, List.getElem?_cons_succ]); first | done | rfl) (by kernel_rfl) (by kernel_rfl) (by kernel_rfl) (fun _ _ _ h => h) (Or.inl ⟨by rfl, ?_⟩) (by assumption) ?_
        rotate_left 1
        · (intro wz hSw; (try dsimp only at hSw); go_simp; try with_reducible rfl)
        try simp only [Act.put, List.setIfInBounds_toArray, List.set_cons_zero, List.set_cons_succ]
        refine wpAnyH_take (i := 11) (v := ?_) (by (try simp only [List.getElem?_toArray, List.getElem?_cons_zero, List.getElem?_cons_succ]); first | done | rfl) (by kernel_rfl) (by kernel_rfl) (by kernel_rfl) (fun _ _ _ h => h) (Or.inl ⟨by rfl, ?_⟩) (by assumption) ?_
        rotate_left 1
        · (intro wz hSw; (try dsimp only at hSw); go_simp; try with_reducible rfl)
        try simp only [Act.put, List.setIfInBounds_toArray, List.set_cons_zero, List.set_cons_succ]
        refine wpAnyH_take (i := 12) (v := ?_) (by (try simp only [List.getElem?_toArray, List.getElem?_cons_zero, List.getElem?_cons_succ]); first | done | rfl) (by kernel_rfl) (by kernel_rfl) (by kernel_rfl) (fun _ _ _ h => h) (Or.inl ⟨by rfl, ?_⟩) (by assumption) ?_
        rotate_left 1
        · (intro wz hSw; (try dsimp only at hSw); go_simp; try with_reducible rfl)
        try simp only [Act.put, List.setIfInBounds_toArray, List.set_cons_zero, List.set_cons_succ]
        refine wpAnyH_take (i := 13) (v := ?_) (by (try simp only [List.getElem?_toArray, List.getElem?_cons_zero, List.getElem?_cons_succ]); first | done | rfl) (by kernel_rfl) (by kernel_rfl) (by kernel_rfl) (fun _ _ _ h => h) (Or.inl ⟨by rfl, ?_⟩) (by assumption) ?_
        rotate_left 1
        · (intro wz hSw; (try dsimp only at hSw); go_simp; try with_reducible rfl)
        try simp only [Act.put, List.setIfInBounds_toArray, List.set_cons_zero, List.set_cons_succ]
        refine wpAnyH_take (i := 14) (v := ?_) (by (try simp only [List.getElem?_toArray, List.getElem?_cons_zero, List.getElem?_cons_succ]); first | done | rfl) (by kernel_rfl) (by kernel_rfl) (by kernel_rfl) (fun _ _ _ h => h) (Or.inl ⟨by rfl, ?_⟩) (by assumption) ?_
        rotate_left 1
        · (intro wz hSw; (try dsimp only at hSw); go_simp; try with_reducible rfl)
        try simp only [Act.put, List.setIfInBounds_toArray, List.set_cons_zero, List.set_cons_succ]
        refine wpAnyH_take (i := 15) (v := ?_) (by (try simp only [List.getElem?_toArray, List.getElem?_cons_zero, List.getElem?_cons_succ]); first | done | rfl) (by kernel_rfl) (by kernel_rfl) (by kernel_rfl) (fun _ _ _ h => h) (Or.inl ⟨by rfl, ?_⟩) (by assumption) ?_
        rotate_left 1
        · (intro wz hSw; (try dsimp only at hSw); go_simp; try with_reducible rfl)
        try simp only [Act.put, List.setIfInBounds_toArray, List.set_cons_zero, List.set_cons_succ]
        refine wpAnyH_take (i := 16) (v := ?_) (by (try simp only [List.getElem?_toArray, List.getElem?_cons_zero, List.getElem?_cons_succ]); first | done | rfl) (by kernel_rfl) (by kernel_rfl) (by kernel_rfl) (fun _ _ _ h => h) (Or.inl ⟨by rfl, ?_⟩) (by assumption) ?_
        rotate_left 1
        · (intro wz hSw; (try dsimp only at hSw); go_simp; try with_reducible rfl)
        try simp only [Act.put, List.setIfInBounds_toArray, List.set_cons_zero, List.set_cons_succ]
        refine wpAnyH_take (i := 17) (v := ?_) (by (try simp only [List.getElem?_toArray, List.getElem?_cons_zero, List.getElem?_cons_succ]); first | done | rfl) (by kernel_rfl) (by kernel_rfl) (by kernel_rfl) (fun _ _ _ h => h) (Or.inl ⟨by rfl, ?_⟩) (by assumption) ?_
        rotate_left 1
        · (intro wz hSw; (try dsimp only at hSw); go_simp; try with_reducible rfl)
        try simp only [Act.put, List.setIfInBounds_toArray, List.set_cons_zero, List.set_cons_succ]
        refine wpAnyH_take (i := 18) (v := ?_) (by (try simp only [List.getElem?_toArray, List.getElem?_cons_zero, List.getElem?_cons_succ]); first | done | rfl) (by kernel_rfl) (by kernel_rfl) (by kernel_rfl) (fun _ _ _ h => h) (Or.inl ⟨by rfl, ?_⟩) (by assumption) ?_
        rotate_left 1
        · (intro wz hSw; (try dsimp only at hSw); go_simp; try with_reducible rfl)
        try simp only [Act.put, List.setIfInBounds_toArray, List.set_cons_zero, List.set_cons_succ]
        refine wpAnyH_take (i := 19) (v := ?_) (by (try simp only [List.getElem?_toArray, List.getElem?_cons_zero, List.getElem?_cons_succ]); first | done | rfl) (by kernel_rfl) (by kernel_rfl) (by kernel_rfl) (fun _ _ _ h => h) (Or.inl ⟨by rfl, ?_⟩) (by assumption) ?_
        rotate_left 1
        · (intro wz hSw; (try dsimp only at hSw); go_simp; try with_reducible rfl)
        try simp only [Act.put, List.setIfInBounds_toArray, List.set_cons_zero, List.set_cons_succ]
        refine wpAnyH_take (i := 20) (v := ?_) (by (try simp only [List.getElem?_toArray, List.getElem?_cons_zero, List.getElem?_cons_succ]); first | done | rfl) (by kernel_rfl) (by kernel_rfl) (by kernel_rfl) (fun _ _ _ h => h) (Or.inl ⟨by rfl, ?_⟩) (by assumption) ?_
        rotate_left 1
        · (intro wz hSw; (try dsimp only at hSw); go_simp; try with_reducible rfl)
        try simp only [Act.put, List.setIfInBounds_toArray, List.set_cons_zero, List.set_cons_succ]
        refine wpAnyH_take (i := 21) (v := ?_) (by (try simp only [List.getElem?_toArray, List.getElem?_cons_zero, List.getElem?_cons_succ]); first | done | rfl) (by kernel_rfl) (by kernel_rfl) (by kernel_rfl) (fun _ _ _ h => h) (Or.inl ⟨by rfl, ?_⟩) (by assumption) ?_
        rotate_left 1
        · (intro wz hSw; (try dsimp only at hSw); go_simp; try with_reducible rfl)
        try simp only [Act.put, List.setIfInBounds_toArray, List.set_cons_zero, List.set_cons_succ]
        refine wpAnyH_take (i := 22) (v := ?_) (by (try simp only [List.getElem?_toArray, List.getElem?_cons_zero, List.getElem?_cons_succ]); first | done | rfl) (by kernel_rfl) (by kernel_rfl) (by kernel_rfl) (fun _ _ _ h => h) (Or.inl ⟨by rfl, ?_⟩) (by assumption) ?_
        rotate_left 1
        · (intro wz hSw; (try dsimp only at hSw); go_simp; try with_reducible rfl)
        try simp only [Act.put, List.setIfInBounds_toArray, List.set_cons_zero, List.set_cons_succ]
        refine wpAnyH_ready (rs := [23]) (by kernel_rfl) (by simp) ?_
        refine AllReadyH.cons (by (try simp only [List.getElem?_toArray, List.getElem?_cons_zero, List.getElem?_cons_succ]); first | done | rfl) (fun K hK => ?_) AllReadyH.nil
        go_simp
        refine hK.out _ _ ?_ (fun hHeld => ?_)
        · (try dsimp only)
          first | exact ⟨xf, xa, xb, xc, xd⟩ | exact HK1.out
        clear hK K
        try simp only [Act.put, List.setIfInBounds_toArray, List.set_cons_zero, List.set_cons_succ]
        refine wpAnyH_ready (rs := [24]) (by kernel_rfl) (by simp) ?_
        refine AllReadyH.cons (by (try simp only [List.getElem?_toArray, List.getElem?_cons_zero, List.getElem?_cons_succ]); first | done | rfl) (fun K hK => ?_) AllReadyH.nil
        refine step_append_own rfl (.tmp 48) (.tmp 71) 23 rfl w.heap.size 47 i0 (.agg #[.int .i64 0, .complex .f32 0 0, .complex .f32 0 0, .complex .f32 0 0, .complex .f32 0 0]) 5 40 Try.underlying23 hi hz0 hz1 hz2 rfl (by decide) _ _ _ rfl H4.out.own ⟨wr.heap.size, 0, none⟩ 1 1 [.int .i64 f, .complex .f32 za.1 za.2, .complex .f32 zb.1 zb.2, .complex .f32 zc.1 zc.2, .complex .f32 zd.1 zd.2] rfl rfl HNews.out HOne.out H63.out.1 H63.out.2.1 H63.out.2.2 (fun v' w5 O' G' hnil => ?_)
        refine hK.out _ _ ?_ (fun hHeld => ?_)
        · (try dsimp only)
          exact HK2.out w5 G'
        clear hK K
        try simp only [Act.put, List.setIfInBounds_toArray, List.set_cons_zero, List.set_cons_succ]
        refine wpAnyH_take (i := 25) (v := ?_) (by (try simp only [List.getElem?_toArray, List.getElem?_cons_zero, List.getElem?_cons_succ]); first | done | rfl) (by kernel_rfl) (by kernel_rfl) (by kernel_rfl) (fun _ _ _ h => h) (Or.inl ⟨by rfl, ?_⟩) (by assumption) ?_
        rotate_left 1
        · (intro wz hSw; (try dsimp only at hSw); go_simp; try with_reducible rfl)
        try simp only [Act.put, List.setIfInBounds_toArray, List.set_cons_zero, List.set_cons_succ]
        refine wpAnyH_done (by kernel_rfl) ?_ _
        refine NoPanic.normal ?_
        have hnn : v' ≠ .slice none 0 0 := by intro e; first | exact hnil e | exact H4.out.nn (hnil.1 e).1
        have H5 := Lib.hid (H4.out.app (r := ⟨f, ⟨za.1, za.2, zb.1, zb.2, zc.1, zc.2, zd.1, zd.2⟩⟩) (by first | exact O' | (rw [hml]; exact O')) G' hnn)
        clear O' G' hnil hnn H4 HN
        go_wp2_with fail
        exact ⟨⟨k + 1, by omega, by go_num, by rw [HS.out]; exact H5.out⟩, by simp [intOf]; omega⟩
      · have hn' : k = nd := by omega
        subst hn'
        have hml := mkRows_len fs A B C D k
        obtain ⟨g, cg, hv⟩ := own_formT HN.out.own HN.out.nn
        subst hv
        rw [hml]
        have R := Lib.hid (row5_ofR HN.out.own)
        have HX : Hid (fromT fs A B C D = if tabB (mkRows fs A B C D k) then some (mkRows fs A B C D k) else none) := Lib.hid (by
          unfold fromT
          rw [HLe.out, h0]
          rfl)
        obtain ⟨β, hβ⟩ : ∃ β, tabB (mkRows fs A B C D k) = β := ⟨_, rfl⟩
        have HT := Lib.hid (specTableOk_any (cap := cg) R.out hml (by omega))
        rw [hβ] at HT HX
        have HCa := Lib.hid HN.out.c
        clear hβ HN h0 h1 h2 h3 h4
        go_wp2_with fail
        refine HT.out.mono ?_
        rintro z w2 ⟨rfl, C2⟩
        have HC2 := Lib.hid (calm_trans HCa.out C2)
        have R2 := Lib.hid (R.out.calm C2)
        clear C2 HT HCa R
        cases β
        · go_wp2_with fail
          go_ret2
          exact ⟨⟨_, 0, by rw [HX.out]; rfl, by rw [HX.out]; exact .inl rfl⟩, calm_allocR HC2.out _⟩
        · go_wp2_with fail
          go_ret2
          refine ⟨⟨some ⟨g, 0, none⟩, cg, ?_, ?_⟩, HC2.out⟩
          · rw [HX.out]
            show _ = Ending.returned (.tuple #[.slice (some ⟨g, 0, none⟩) (mkRows fs A B C D k).length cg, .bool true])
            rw [hml]
            rfl
          · rw [HX.out]
            exact .inr ⟨g, rfl, R2.out⟩
  · have hX : fromT fs A B C D = none := by
      unfold fromT lensB
      rw [if_neg]
      simp
      omega
    have HX := Lib.hid hX
    clear hX h0 h1 h2 h3 h4
    go_enter Try.func17, Try.ntmps17
    go_wp2_with fail
    all_goals
      go_ret2
      exact ⟨⟨_, 0, by rw [HX.out]; rfl, by rw [HX.out]; exact .inl rfl⟩, calm_new w _⟩

end Go.Proofs.Ythbebgnjidaokaa
