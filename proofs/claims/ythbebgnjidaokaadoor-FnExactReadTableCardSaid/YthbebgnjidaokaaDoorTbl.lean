/-
  Tables: their rows as words, and TableOk in the model.
-/
import Derived.Test.YthbebgnjidaokaaDoorAt
import Derived.Test.YthbebgnjidaokaaDoorTwo
import Derived.Deep.RegionHeld3
namespace Go.Proofs.YthbebgnjidaokaaDoor
open Go.RowKit Fl

/-- A row of a table: a frequency and the words of a matrix. -/
structure RowW where
  f : Int
  m : Words

/-- The cells of a row, and of a table. -/
def RowW.cells (r : RowW) : List Value := [.int .i64 r.f, .complex .f32 r.m.a r.m.b, .complex .f32 r.m.c r.m.d, .complex .f32 r.m.e r.m.f, .complex .f32 r.m.g r.m.h]
def cells5 (rs : List RowW) : List Value := rs.flatMap RowW.cells
theorem cells5_add (rs : List RowW) (r : RowW) : cells5 (rs ++ [r]) = cells5 rs ++ r.cells := by unfold cells5; simp
theorem cells5_length (rs : List RowW) : (cells5 rs).length = rs.length * 5 := by
  induction rs with
  | nil => rfl
  | cons x xs ih =>
    have : cells5 (x :: xs) = x.cells ++ cells5 xs := by unfold cells5; simp
    rw [this, List.length_append, ih]
    show 5 + xs.length * 5 = _
    simp
    omega
/-- The five cells of a row of a table. -/
def FiveAt (get : Nat → Option Value) (i : Nat) (r : RowW) : Prop :=
  get (i * 5) = some (.int .i64 r.f) ∧ get (i * 5 + 1) = some (.complex .f32 r.m.a r.m.b) ∧ get (i * 5 + 2) = some (.complex .f32 r.m.c r.m.d) ∧ get (i * 5 + 3) = some (.complex .f32 r.m.e r.m.f) ∧ get (i * 5 + 4) = some (.complex .f32 r.m.g r.m.h)
theorem cells5_at (rs : List RowW) : ∀ i, (h : i < rs.length) → FiveAt (fun j => (cells5 rs)[j]?) i rs[i] := by
  induction rs with
  | nil => intro i h; simp at h
  | cons x xs ih =>
    intro i h
    have e : cells5 (x :: xs) = x.cells ++ cells5 xs := by unfold cells5; simp
    cases i with
    | zero => exact ⟨rfl, rfl, rfl, rfl, rfl⟩
    | succ i =>
      obtain ⟨a, b, c, d, f⟩ := ih i (by simpa using h)
      have sh : ∀ j, (cells5 (x :: xs))[(i + 1) * 5 + j]? = (cells5 xs)[i * 5 + j]? := by
        intro j
        rw [e, show (i + 1) * 5 + j = (i * 5 + j) + 5 by omega]
        show (x.cells ++ cells5 xs)[i * 5 + j + 5]? = _
        rw [List.getElem?_append_right (by show 5 ≤ _; omega)]
        show (cells5 xs)[i * 5 + j + 5 - 5]? = _
        rw [Nat.add_sub_cancel]
      refine ⟨?_, ?_, ?_, ?_, ?_⟩
      · have := sh 0; simp only [Nat.add_zero] at this; show _ = _; simp only [this]; exact a
      · show _ = _; simp only [sh 1]; exact b
      · show _ = _; simp only [sh 2]; exact c
      · show _ = _; simp only [sh 3]; exact d
      · show _ = _; simp only [sh 4]; exact f

/-- The words of a table, in a block. -/
def Row5 (w : World) (g : Nat) (rs : List RowW) : Prop := ∀ i, (h : i < rs.length) → FiveAt (fun j => w.cell? ⟨g, j, none⟩) i rs[i]
theorem Row5.lt {w : World} {g : Nat} {rs : List RowW} (H : Row5 w g rs) {i : Nat} (hi : i < rs.length) : g < w.heap.size := World.block_lt_of_cell? w _ (H i hi).1
theorem FiveAt.block {w w' : World} {g i : Nat} {r : RowW} (hb : w'.heap[g]? = w.heap[g]?) (H : FiveAt (fun j => w.cell? ⟨g, j, none⟩) i r) : FiveAt (fun j => w'.cell? ⟨g, j, none⟩) i r := by
  obtain ⟨a, b, c, d, f⟩ := H
  refine ⟨?_, ?_, ?_, ?_, ?_⟩
  all_goals
    show w'.cell? _ = _
    rw [World.cell?_of_block (w := w) hb]
    assumption
theorem Row5.calm {w w' : World} {g : Nat} {rs : List RowW} (H : Row5 w g rs) (C : Calm w w') : Row5 w' g rs := fun i hi =>
  (H i hi).block (C.block g (H.lt hi) (fun e => by cases e))
theorem Row5.grown {w w' : World} {g b : Nat} {rs : List RowW} (H : Row5 w g rs) (G : w.grownBy w' (some b)) (hn : g ≠ b) : Row5 w' g rs := fun i hi =>
  (H i hi).block (G.block g (H.lt hi) (fun e => by injection e with e; exact hn e))
theorem Row5.take {w : World} {g : Nat} {rs : List RowW} (H : Row5 w g rs) (n : Nat) : Row5 w g (rs.take n) := by
  intro i hi
  rw [List.getElem_take]
  exact H i (by rw [List.length_take] at hi; omega)

/-- The frequency ahead of a row. -/
def prevF (rs : List RowW) : Nat → Option Int
  | 0 => none
  | k + 1 => rs[k]?.map RowW.f
/-- A frequency that may be in a table. -/
def freqB (f : Int) : Bool := decide (0 ≤ f) && decide (f ≤ 9999999)
def RowW.finB (r : RowW) : Bool := finTwo r.m.a r.m.b r.m.c r.m.d r.m.e r.m.f r.m.g r.m.h
def afterB (p : Option Int) (f : Int) : Bool := match p with
  | none => true
  | some q => decide (q < f)
/-- Rows, behind a frequency. -/
def rowsB : Option Int → List RowW → Bool
  | _, [] => true
  | p, r :: rs => freqB r.f && r.finB && afterB p r.f && rowsB (some r.f) rs
/-- A table. -/
def tabB (rs : List RowW) : Bool := rowsB none rs && (decide (1 ≤ rs.length) && decide (rs.length ≤ 8))

theorem rowsB_step {rs : List RowW} {n : Nat} (h : n < rs.length) {o : Bool} (F : rowsB (prevF rs n) (rs.drop n) = o) :
    o = (freqB rs[n].f && rs[n].finB && afterB (prevF rs n) rs[n].f && rowsB (prevF rs (n + 1)) (rs.drop (n + 1))) := by
  rw [List.drop_eq_getElem_cons h] at F
  rw [← F]
  show _ = (freqB rs[n].f && rs[n].finB && afterB (prevF rs n) rs[n].f && rowsB (rs[n]?.map RowW.f) (rs.drop (n + 1)))
  rw [List.getElem?_eq_getElem h]
  rfl

/-- What a round of a loop over a table reads: its row, and the frequency ahead. -/
theorem tab_drew {w wx : World} {g n : Nat} {r : RowW} {q : Int} (H : wx.cell? ⟨g, n * 5, none⟩ = some (.int .i64 r.f) ∧ wx.cell? ⟨g, n * 5 + 1, none⟩ = some (.complex .f32 r.m.a r.m.b) ∧ wx.cell? ⟨g, n * 5 + 2, none⟩ = some (.complex .f32 r.m.c r.m.d) ∧ wx.cell? ⟨g, n * 5 + 3, none⟩ = some (.complex .f32 r.m.e r.m.f) ∧ wx.cell? ⟨g, n * 5 + 4, none⟩ = some (.complex .f32 r.m.g r.m.h) ∧ wx.cell? ⟨g, (n - 1) * 5, none⟩ = some (.int .i64 q) ∧ Calm w wx) : wx.drew.cell? ⟨g, n * 5, none⟩ = some (.int .i64 r.f) ∧ wx.drew.cell? ⟨g, n * 5 + 1, none⟩ = some (.complex .f32 r.m.a r.m.b) ∧ wx.drew.cell? ⟨g, n * 5 + 2, none⟩ = some (.complex .f32 r.m.c r.m.d) ∧ wx.drew.cell? ⟨g, n * 5 + 3, none⟩ = some (.complex .f32 r.m.e r.m.f) ∧ wx.drew.cell? ⟨g, n * 5 + 4, none⟩ = some (.complex .f32 r.m.g r.m.h) ∧ wx.drew.cell? ⟨g, (n - 1) * 5, none⟩ = some (.int .i64 q) ∧ Calm w wx.drew := by
  obtain ⟨a, b, c, d, e, p, C⟩ := H
  exact ⟨a, b, c, d, e, p, grown_drew C⟩
theorem tab_calm {w wx wy : World} {g n : Nat} {r : RowW} {q : Int} (K : Calm wx wy) (H : wx.cell? ⟨g, n * 5, none⟩ = some (.int .i64 r.f) ∧ wx.cell? ⟨g, n * 5 + 1, none⟩ = some (.complex .f32 r.m.a r.m.b) ∧ wx.cell? ⟨g, n * 5 + 2, none⟩ = some (.complex .f32 r.m.c r.m.d) ∧ wx.cell? ⟨g, n * 5 + 3, none⟩ = some (.complex .f32 r.m.e r.m.f) ∧ wx.cell? ⟨g, n * 5 + 4, none⟩ = some (.complex .f32 r.m.g r.m.h) ∧ wx.cell? ⟨g, (n - 1) * 5, none⟩ = some (.int .i64 q) ∧ Calm w wx) : wy.cell? ⟨g, n * 5, none⟩ = some (.int .i64 r.f) ∧ wy.cell? ⟨g, n * 5 + 1, none⟩ = some (.complex .f32 r.m.a r.m.b) ∧ wy.cell? ⟨g, n * 5 + 2, none⟩ = some (.complex .f32 r.m.c r.m.d) ∧ wy.cell? ⟨g, n * 5 + 3, none⟩ = some (.complex .f32 r.m.e r.m.f) ∧ wy.cell? ⟨g, n * 5 + 4, none⟩ = some (.complex .f32 r.m.g r.m.h) ∧ wy.cell? ⟨g, (n - 1) * 5, none⟩ = some (.int .i64 q) ∧ Calm w wy := by
  obtain ⟨a, b, c, d, e, p, C⟩ := H
  have hb := K.block g (World.block_lt_of_cell? wx _ a) (fun e => by cases e)
  exact ⟨by rw [World.cell?_of_block (w := wx) hb]; exact a, by rw [World.cell?_of_block (w := wx) hb]; exact b, by rw [World.cell?_of_block (w := wx) hb]; exact c, by rw [World.cell?_of_block (w := wx) hb]; exact d, by rw [World.cell?_of_block (w := wx) hb]; exact e, by rw [World.cell?_of_block (w := wx) hb]; exact p, calm_trans C K⟩
theorem tab_done {w wx : World} {g n : Nat} {r : RowW} {q : Int} (H : wx.cell? ⟨g, n * 5, none⟩ = some (.int .i64 r.f) ∧ wx.cell? ⟨g, n * 5 + 1, none⟩ = some (.complex .f32 r.m.a r.m.b) ∧ wx.cell? ⟨g, n * 5 + 2, none⟩ = some (.complex .f32 r.m.c r.m.d) ∧ wx.cell? ⟨g, n * 5 + 3, none⟩ = some (.complex .f32 r.m.e r.m.f) ∧ wx.cell? ⟨g, n * 5 + 4, none⟩ = some (.complex .f32 r.m.g r.m.h) ∧ wx.cell? ⟨g, (n - 1) * 5, none⟩ = some (.int .i64 q) ∧ Calm w wx) : Calm w wx := H.2.2.2.2.2.2

set_option maxRecDepth 8000 in
set_option maxHeartbeats 4000000 in
theorem specTableOk_any {g n cap : Nat} {rs : List RowW} {w : World} (hR : Row5 w g rs) (hn : rs.length = n) (hl : n ≤ 1048576) :
    Calls Tryd.prog 13 #[.slice (some ⟨g, 0, none⟩) n cap] w fun z w' => z = .returned (.bool (tabB rs)) ∧ Calm w w' := by
  have HR := Lib.hid hR
  clear hR
  subst hn
  go_enter Tryd.func13, Tryd.ntmps13
  go_wp2_with fail
  go_loopw [3] (fun kv wr => ∃ n : Nat, n ≤ rs.length ∧ kv = .int .i64 n ∧ rowsB (prevF rs n) (rs.drop n) = rowsB none rs ∧ Calm w wr)
    (fun kv _ => rs.length - (intOf kv).toNat)
  case atStart => exact ⟨0, by omega, rfl, rfl, grown_refl _ _⟩
  case round =>
    obtain ⟨n, hn, rfl, hF, C⟩ := hrel
    have HC := Lib.hid C
    clear C
    by_cases hlt : n < rs.length
    · have hS := rowsB_step hlt hF
      obtain ⟨q, hq, hqc⟩ : ∃ q : Int, (n = 0 ∨ prevF rs n = some q) ∧ wr.cell? ⟨g, (n - 1) * 5, none⟩ = some (.int .i64 q) := by
        cases n with
        | zero => exact ⟨_, .inl rfl, (HR.out.calm HC.out 0 hlt).1⟩
        | succ k =>
          have hk : k < rs.length := by omega
          exact ⟨rs[k].f, .inr (by show rs[k]?.map RowW.f = _; rw [List.getElem?_eq_getElem hk]; rfl), (HR.out.calm HC.out k hk).1⟩
      obtain ⟨a0, a1, a2, a3, a4⟩ := HR.out.calm HC.out n hlt
      generalize rs[n] = r at *
      have hgl := World.block_lt_of_cell? wr _ a0
      dsimp only at a0 a1 a2 a3 a4 hgl
      have HS0 : wr.cell? ⟨g, n * 5, none⟩ = some (.int .i64 r.f) ∧ wr.cell? ⟨g, n * 5 + 1, none⟩ = some (.complex .f32 r.m.a r.m.b) ∧ wr.cell? ⟨g, n * 5 + 2, none⟩ = some (.complex .f32 r.m.c r.m.d) ∧ wr.cell? ⟨g, n * 5 + 3, none⟩ = some (.complex .f32 r.m.e r.m.f) ∧ wr.cell? ⟨g, n * 5 + 4, none⟩ = some (.complex .f32 r.m.g r.m.h) ∧ wr.cell? ⟨g, (n - 1) * 5, none⟩ = some (.int .i64 q) ∧ Calm w wr := ⟨a0, a1, a2, a3, a4, hqc, HC.out⟩
      clear a0 a1 a2 a3 a4 hqc
      have HQ := Lib.hid hq
      have HT := Lib.hid hS
      clear hF hS hq
      cases hfq : freqB r.f
      · have HF := Lib.hid (show (decide (0 ≤ r.f) && decide (r.f ≤ 9999999)) = false from hfq)
        have HG := Lib.hid (Eq.refl (finTwo r.m.a r.m.b r.m.c r.m.d r.m.e r.m.f r.m.g r.m.h))
        have HX : Hid (tabB rs = false) := Lib.hid (by unfold tabB; rw [HT.out, hfq]; rfl)
        clear hfq
        go_wp2_with fail
        refine wp_region_noPanic ?_
        refine wp_region_held_drew (S := fun w' => w'.cell? ⟨g, n * 5, none⟩ = some (.int .i64 r.f) ∧ w'.cell? ⟨g, n * 5 + 1, none⟩ = some (.complex .f32 r.m.a r.m.b) ∧ w'.cell? ⟨g, n * 5 + 2, none⟩ = some (.complex .f32 r.m.c r.m.d) ∧ w'.cell? ⟨g, n * 5 + 3, none⟩ = some (.complex .f32 r.m.e r.m.f) ∧ w'.cell? ⟨g, n * 5 + 4, none⟩ = some (.complex .f32 r.m.g r.m.h) ∧ w'.cell? ⟨g, (n - 1) * 5, none⟩ = some (.int .i64 q) ∧ Calm w w') (by kernel_rfl) ?_ (fun hHeld => ?_)
        · (try dsimp only)
          first | with_reducible assumption | with_reducible exact tab_drew ‹_› | with_reducible exact tab_calm ‹_› ‹_› | with_reducible exact tab_calm ‹_› (tab_drew ‹_›)
        first
        | (refine wpAnyH_take (i := 0) (v := undef) (by (try simp only [List.getElem?_toArray, List.getElem?_cons_zero]); first | done | rfl) (by kernel_rfl) (by kernel_rfl) (by kernel_rfl) (fun _ _ _ h => h) (Or.inr ⟨by rfl, rfl⟩) (by assumption) ?_)
        | (refine wpAnyH_take (i := 0) (v := ?_) (by (try simp only [List.getElem?_toArray, List.getElem?_cons_zero]); first | done | rfl) (by kernel_rfl) (by kernel_rfl) (by kernel_rfl) (fun _ _ _ h => h) (Or.inl ⟨by rfl, ?_⟩) (by assumption) ?_
           rotate_left 1
           · (intro wz hSw; (try dsimp only at hSw); go_simp; try with_reducible rfl))
        try simp only [Act.put, List.setIfInBounds_toArray, List.set_cons_zero, List.set_cons_succ]
        first
        | (refine wpAnyH_take (i := 1) (v := undef) (by (try simp only [List.getElem?_toArray, List.getElem?_cons_zero, List.getElem?_cons_succ]); first | done | rfl) (by kernel_rfl) (by kernel_rfl) (by kernel_rfl) (fun _ _ _ h => h) (Or.inr ⟨by rfl, rfl⟩) (by assumption) ?_)
        | (refine wpAnyH_take (i := 1) (v := ?_) (by (try simp only [List.getElem?_toArray, List.getElem?_cons_zero, List.getElem?_cons_succ]); first | done | rfl) (by kernel_rfl) (by kernel_rfl) (by kernel_rfl) (fun _ _ _ h => h) (Or.inl ⟨by rfl, ?_⟩) (by assumption) ?_
           rotate_left 1
           · (intro wz hSw; (try dsimp only at hSw); go_simp; try with_reducible rfl))
        try simp only [Act.put, List.setIfInBounds_toArray, List.set_cons_zero, List.set_cons_succ]
        first
        | (refine wpAnyH_take (i := 2) (v := undef) (by (try simp only [List.getElem?_toArray, List.getElem?_cons_zero, List.getElem?_cons_succ]); first | done | rfl) (by kernel_rfl) (by kernel_rfl) (by kernel_rfl) (fun _ _ _ h => h) (Or.inr ⟨by rfl, rfl⟩) (by assumption) ?_)
        | (refine wpAnyH_take (i := 2) (v := ?_) (by (try simp only [List.getElem?_toArray, List.getElem?_cons_zero, List.getElem?_cons_succ]); first | done | rfl) (by kernel_rfl) (by kernel_rfl) (by kernel_rfl) (fun _ _ _ h => h) (Or.inl ⟨by rfl, ?_⟩) (by assumption) ?_
           rotate_left 1
           · (intro wz hSw; (try dsimp only at hSw); go_simp; try with_reducible rfl))
        try simp only [Act.put, List.setIfInBounds_toArray, List.set_cons_zero, List.set_cons_succ]
        first
        | (refine wpAnyH_take (i := 3) (v := undef) (by (try simp only [List.getElem?_toArray, List.getElem?_cons_zero, List.getElem?_cons_succ]); first | done | rfl) (by kernel_rfl) (by kernel_rfl) (by kernel_rfl) (fun _ _ _ h => h) (Or.inr ⟨by rfl, rfl⟩) (by assumption) ?_)
        | (refine wpAnyH_take (i := 3) (v := ?_) (by (try simp only [List.getElem?_toArray, List.getElem?_cons_zero, List.getElem?_cons_succ]); first | done | rfl) (by kernel_rfl) (by kernel_rfl) (by kernel_rfl) (fun _ _ _ h => h) (Or.inl ⟨by rfl, ?_⟩) (by assumption) ?_
           rotate_left 1
           · (intro wz hSw; (try dsimp only at hSw); go_simp; try with_reducible rfl))
        try simp only [Act.put, List.setIfInBounds_toArray, List.set_cons_zero, List.set_cons_succ]
        first
        | (refine wpAnyH_take (i := 4) (v := undef) (by (try simp only [List.getElem?_toArray, List.getElem?_cons_zero, List.getElem?_cons_succ]); first | done | rfl) (by kernel_rfl) (by kernel_rfl) (by kernel_rfl) (fun _ _ _ h => h) (Or.inr ⟨by rfl, rfl⟩) (by assumption) ?_)
        | (refine wpAnyH_take (i := 4) (v := ?_) (by (try simp only [List.getElem?_toArray, List.getElem?_cons_zero, List.getElem?_cons_succ]); first | done | rfl) (by kernel_rfl) (by kernel_rfl) (by kernel_rfl) (fun _ _ _ h => h) (Or.inl ⟨by rfl, ?_⟩) (by assumption) ?_
           rotate_left 1
           · (intro wz hSw; (try dsimp only at hSw); go_simp; try with_reducible rfl))
        try simp only [Act.put, List.setIfInBounds_toArray, List.set_cons_zero, List.set_cons_succ]
        first
        | (refine wpAnyH_take (i := 5) (v := undef) (by (try simp only [List.getElem?_toArray, List.getElem?_cons_zero, List.getElem?_cons_succ]); first | done | rfl) (by kernel_rfl) (by kernel_rfl) (by kernel_rfl) (fun _ _ _ h => h) (Or.inr ⟨by rfl, rfl⟩) (by assumption) ?_)
        | (refine wpAnyH_ready (rs := [5]) (by kernel_rfl) (by simp) ?_
           refine AllReadyH.cons (by (try simp only [List.getElem?_toArray, List.getElem?_cons_zero, List.getElem?_cons_succ]); first | done | rfl) (fun K hK => ?_) AllReadyH.nil
           go_simp
           refine Calls.mono (l1In_any _ _ _ _) ?_; rw [HF.out]; rintro e w' ⟨rfl, rfl⟩
           refine hK.out _ _ ?_ (fun hHeld => ?_)
           · (try dsimp only)
             first | with_reducible assumption | with_reducible exact tab_drew ‹_› | with_reducible exact tab_calm ‹_› ‹_› | with_reducible exact tab_calm ‹_› (tab_drew ‹_›)
           clear hK K)
        try simp only [Act.put, List.setIfInBounds_toArray, List.set_cons_zero, List.set_cons_succ]
        first
        | (refine wpAnyH_take (i := 6) (v := undef) (by (try simp only [List.getElem?_toArray, List.getElem?_cons_zero, List.getElem?_cons_succ]); first | done | rfl) (by kernel_rfl) (by kernel_rfl) (by kernel_rfl) (fun _ _ _ h => h) (Or.inr ⟨by rfl, rfl⟩) (by assumption) ?_)
        | (refine wpAnyH_take (i := 6) (v := ?_) (by (try simp only [List.getElem?_toArray, List.getElem?_cons_zero, List.getElem?_cons_succ]); first | done | rfl) (by kernel_rfl) (by kernel_rfl) (by kernel_rfl) (fun _ _ _ h => h) (Or.inl ⟨by rfl, ?_⟩) (by assumption) ?_
           rotate_left 1
           · (intro wz hSw; (try dsimp only at hSw); go_simp; try with_reducible rfl))
        try simp only [Act.put, List.setIfInBounds_toArray, List.set_cons_zero, List.set_cons_succ]
        first
        | (refine wpAnyH_take (i := 7) (v := undef) (by (try simp only [List.getElem?_toArray, List.getElem?_cons_zero, List.getElem?_cons_succ]); first | done | rfl) (by kernel_rfl) (by kernel_rfl) (by kernel_rfl) (fun _ _ _ h => h) (Or.inr ⟨by rfl, rfl⟩) (by assumption) ?_)
        | (refine wpAnyH_take (i := 7) (v := ?_) (by (try simp only [List.getElem?_toArray, List.getElem?_cons_zero, List.getElem?_cons_succ]); first | done | rfl) (by kernel_rfl) (by kernel_rfl) (by kernel_rfl) (fun _ _ _ h => h) (Or.inl ⟨by rfl, ?_⟩) (by assumption) ?_
           rotate_left 1
           · (intro wz hSw; (try dsimp only at hSw); go_simp; try with_reducible rfl))
        try simp only [Act.put, List.setIfInBounds_toArray, List.set_cons_zero, List.set_cons_succ]
        first
        | (refine wpAnyH_take (i := 8) (v := undef) (by (try simp only [List.getElem?_toArray, List.getElem?_cons_zero, List.getElem?_cons_succ]); first | done | rfl) (by kernel_rfl) (by kernel_rfl) (by kernel_rfl) (fun _ _ _ h => h) (Or.inr ⟨by rfl, rfl⟩) (by assumption) ?_)
        | (refine wpAnyH_take (i := 8) (v := ?_) (by (try simp only [List.getElem?_toArray, List.getElem?_cons_zero, List.getElem?_cons_succ]); first | done | rfl) (by kernel_rfl) (by kernel_rfl) (by kernel_rfl) (fun _ _ _ h => h) (Or.inl ⟨by rfl, ?_⟩) (by assumption) ?_
           rotate_left 1
           · (intro wz hSw; (try dsimp only at hSw); go_simp; try with_reducible rfl))
        try simp only [Act.put, List.setIfInBounds_toArray, List.set_cons_zero, List.set_cons_succ]
        first
        | (refine wpAnyH_take (i := 9) (v := undef) (by (try simp only [List.getElem?_toArray, List.getElem?_cons_zero, List.getElem?_cons_succ]); first | done | rfl) (by kernel_rfl) (by kernel_rfl) (by kernel_rfl) (fun _ _ _ h => h) (Or.inr ⟨by rfl, rfl⟩) (by assumption) ?_)
        | (refine wpAnyH_take (i := 9) (v := ?_) (by (try simp only [List.getElem?_toArray, List.getElem?_cons_zero, List.getElem?_cons_succ]); first | done | rfl) (by kernel_rfl) (by kernel_rfl) (by kernel_rfl) (fun _ _ _ h => h) (Or.inl ⟨by rfl, ?_⟩) (by assumption) ?_
           rotate_left 1
           · (intro wz hSw; (try dsimp only at hSw); go_simp; try with_reducible rfl))
        try simp only [Act.put, List.setIfInBounds_toArray, List.set_cons_zero, List.set_cons_succ]
        first
        | (refine wpAnyH_take (i := 10) (v := undef) (by (try simp only [List.getElem?_toArray, List.getElem?_cons_zero, List.getElem?_cons_succ]); first | done | rfl) (by kernel_rfl) (by kernel_rfl) (by kernel_rfl) (fun _ _ _ h => h) (Or.inr ⟨by rfl, rfl⟩) (by assumption) ?_)
        | (refine wpAnyH_take (i := 10) (v := ?_) (by (try simp only [List.getElem?_toArray, List.getElem?_cons_zero, List.getElem?_cons_succ]); first | done | rfl) (by kernel_rfl) (by kernel_rfl) (by kernel_rfl) (fun _ _ _ h => h) (Or.inl ⟨by rfl, ?_⟩) (by assumption) ?_
           rotate_left 1
           · (intro wz hSw; (try dsimp only at hSw); go_simp; try with_reducible rfl))
        try simp only [Act.put, List.setIfInBounds_toArray, List.set_cons_zero, List.set_cons_succ]
        first
        | (refine wpAnyH_take (i := 11) (v := undef) (by (try simp only [List.getElem?_toArray, List.getElem?_cons_zero, List.getElem?_cons_succ]); first | done | rfl) (by kernel_rfl) (by kernel_rfl) (by kernel_rfl) (fun _ _ _ h => h) (Or.inr ⟨by rfl, rfl⟩) (by assumption) ?_)
        | (refine wpAnyH_take (i := 11) (v := ?_) (by (try simp only [List.getElem?_toArray, List.getElem?_cons_zero, List.getElem?_cons_succ]); first | done | rfl) (by kernel_rfl) (by kernel_rfl) (by kernel_rfl) (fun _ _ _ h => h) (Or.inl ⟨by rfl, ?_⟩) (by assumption) ?_
           rotate_left 1
           · (intro wz hSw; (try dsimp only at hSw); go_simp; try with_reducible rfl))
        try simp only [Act.put, List.setIfInBounds_toArray, List.set_cons_zero, List.set_cons_succ]
        first
        | (refine wpAnyH_take (i := 12) (v := undef) (by (try simp only [List.getElem?_toArray, List.getElem?_cons_zero, List.getElem?_cons_succ]); first | done | rfl) (by kernel_rfl) (by kernel_rfl) (by kernel_rfl) (fun _ _ _ h => h) (Or.inr ⟨by rfl, rfl⟩) (by assumption) ?_)
        | (refine wpAnyH_take (i := 12) (v := ?_) (by (try simp only [List.getElem?_toArray, List.getElem?_cons_zero, List.getElem?_cons_succ]); first | done | rfl) (by kernel_rfl) (by kernel_rfl) (by kernel_rfl) (fun _ _ _ h => h) (Or.inl ⟨by rfl, ?_⟩) (by assumption) ?_
           rotate_left 1
           · (intro wz hSw; (try dsimp only at hSw); go_simp; try with_reducible rfl))
        try simp only [Act.put, List.setIfInBounds_toArray, List.set_cons_zero, List.set_cons_succ]
        first
        | (refine wpAnyH_take (i := 13) (v := undef) (by (try simp only [List.getElem?_toArray, List.getElem?_cons_zero, List.getElem?_cons_succ]); first | done | rfl) (by kernel_rfl) (by kernel_rfl) (by kernel_rfl) (fun _ _ _ h => h) (Or.inr ⟨by rfl, rfl⟩) (by assumption) ?_)
        | (refine wpAnyH_ready (rs := [13]) (by kernel_rfl) (by simp) ?_
           refine AllReadyH.cons (by (try simp only [List.getElem?_toArray, List.getElem?_cons_zero, List.getElem?_cons_succ]); first | done | rfl) (fun K hK => ?_) AllReadyH.nil
           go_simp
           refine Calls.mono (specTwoOk_any _ _ _ _ _ _ _ _ _) ?_; rw [HG.out]; rintro e w' ⟨rfl, C⟩
           refine hK.out _ _ ?_ (fun hHeld => ?_)
           · (try dsimp only)
             first | with_reducible assumption | with_reducible exact tab_drew ‹_› | with_reducible exact tab_calm ‹_› ‹_› | with_reducible exact tab_calm ‹_› (tab_drew ‹_›)
           clear hK K)
        try simp only [Act.put, List.setIfInBounds_toArray, List.set_cons_zero, List.set_cons_succ]
        first
        | (refine wpAnyH_take (i := 14) (v := undef) (by (try simp only [List.getElem?_toArray, List.getElem?_cons_zero, List.getElem?_cons_succ]); first | done | rfl) (by kernel_rfl) (by kernel_rfl) (by kernel_rfl) (fun _ _ _ h => h) (Or.inr ⟨by rfl, rfl⟩) (by assumption) ?_)
        | (refine wpAnyH_take (i := 14) (v := ?_) (by (try simp only [List.getElem?_toArray, List.getElem?_cons_zero, List.getElem?_cons_succ]); first | done | rfl) (by kernel_rfl) (by kernel_rfl) (by kernel_rfl) (fun _ _ _ h => h) (Or.inl ⟨by rfl, ?_⟩) (by assumption) ?_
           rotate_left 1
           · (intro wz hSw; (try dsimp only at hSw); go_simp; try with_reducible rfl))
        try simp only [Act.put, List.setIfInBounds_toArray, List.set_cons_zero, List.set_cons_succ]
        first
        | (refine wpAnyH_take (i := 15) (v := undef) (by (try simp only [List.getElem?_toArray, List.getElem?_cons_zero, List.getElem?_cons_succ]); first | done | rfl) (by kernel_rfl) (by kernel_rfl) (by kernel_rfl) (fun _ _ _ h => h) (Or.inr ⟨by rfl, rfl⟩) (by assumption) ?_)
        | (refine wpAnyH_take (i := 15) (v := ?_) (by (try simp only [List.getElem?_toArray, List.getElem?_cons_zero, List.getElem?_cons_succ]); first | done | rfl) (by kernel_rfl) (by kernel_rfl) (by kernel_rfl) (fun _ _ _ h => h) (Or.inl ⟨by rfl, ?_⟩) (by assumption) ?_
           rotate_left 1
           · (intro wz hSw; (try dsimp only at hSw); go_simp; try with_reducible rfl))
        try simp only [Act.put, List.setIfInBounds_toArray, List.set_cons_zero, List.set_cons_succ]
        first
        | (refine wpAnyH_take (i := 16) (v := undef) (by (try simp only [List.getElem?_toArray, List.getElem?_cons_zero, List.getElem?_cons_succ]); first | done | rfl) (by kernel_rfl) (by kernel_rfl) (by kernel_rfl) (fun _ _ _ h => h) (Or.inr ⟨by rfl, rfl⟩) (by assumption) ?_)
        | (refine wpAnyH_take (i := 16) (v := ?_) (by (try simp only [List.getElem?_toArray, List.getElem?_cons_zero, List.getElem?_cons_succ]); first | done | rfl) (by kernel_rfl) (by kernel_rfl) (by kernel_rfl) (fun _ _ _ h => h) (Or.inl ⟨by rfl, ?_⟩) (by assumption) ?_
           rotate_left 1
           · (intro wz hSw; (try dsimp only at hSw); go_simp; try with_reducible rfl))
        try simp only [Act.put, List.setIfInBounds_toArray, List.set_cons_zero, List.set_cons_succ]
        first
        | (refine wpAnyH_take (i := 17) (v := undef) (by (try simp only [List.getElem?_toArray, List.getElem?_cons_zero, List.getElem?_cons_succ]); first | done | rfl) (by kernel_rfl) (by kernel_rfl) (by kernel_rfl) (fun _ _ _ h => h) (Or.inr ⟨by rfl, rfl⟩) (by assumption) ?_)
        | (refine wpAnyH_take (i := 17) (v := ?_) (by (try simp only [List.getElem?_toArray, List.getElem?_cons_zero, List.getElem?_cons_succ]); first | done | rfl) (by kernel_rfl) (by kernel_rfl) (by kernel_rfl) (fun _ _ _ h => h) (Or.inl ⟨by rfl, ?_⟩) (by assumption) ?_
           rotate_left 1
           · (intro wz hSw; (try dsimp only at hSw); go_simp; try with_reducible rfl))
        try simp only [Act.put, List.setIfInBounds_toArray, List.set_cons_zero, List.set_cons_succ]
        first
        | (refine wpAnyH_take (i := 18) (v := undef) (by (try simp only [List.getElem?_toArray, List.getElem?_cons_zero, List.getElem?_cons_succ]); first | done | rfl) (by kernel_rfl) (by kernel_rfl) (by kernel_rfl) (fun _ _ _ h => h) (Or.inr ⟨by rfl, rfl⟩) (by assumption) ?_)
        | (refine wpAnyH_take (i := 18) (v := ?_) (by (try simp only [List.getElem?_toArray, List.getElem?_cons_zero, List.getElem?_cons_succ]); first | done | rfl) (by kernel_rfl) (by kernel_rfl) (by kernel_rfl) (fun _ _ _ h => h) (Or.inl ⟨by rfl, ?_⟩) (by assumption) ?_
           rotate_left 1
           · (intro wz hSw; (try dsimp only at hSw); go_simp; try with_reducible rfl))
        try simp only [Act.put, List.setIfInBounds_toArray, List.set_cons_zero, List.set_cons_succ]
        first
        | (refine wpAnyH_take (i := 19) (v := undef) (by (try simp only [List.getElem?_toArray, List.getElem?_cons_zero, List.getElem?_cons_succ]); first | done | rfl) (by kernel_rfl) (by kernel_rfl) (by kernel_rfl) (fun _ _ _ h => h) (Or.inr ⟨by rfl, rfl⟩) (by assumption) ?_)
        | (refine wpAnyH_take (i := 19) (v := ?_) (by (try simp only [List.getElem?_toArray, List.getElem?_cons_zero, List.getElem?_cons_succ]); first | done | rfl) (by kernel_rfl) (by kernel_rfl) (by kernel_rfl) (fun _ _ _ h => h) (Or.inl ⟨by rfl, ?_⟩) (by assumption) ?_
           rotate_left 1
           · (intro wz hSw; (try dsimp only at hSw); go_simp; try with_reducible rfl))
        try simp only [Act.put, List.setIfInBounds_toArray, List.set_cons_zero, List.set_cons_succ]
        first
        | (refine wpAnyH_take (i := 20) (v := undef) (by (try simp only [List.getElem?_toArray, List.getElem?_cons_zero, List.getElem?_cons_succ]); first | done | rfl) (by kernel_rfl) (by kernel_rfl) (by kernel_rfl) (fun _ _ _ h => h) (Or.inr ⟨by rfl, rfl⟩) (by assumption) ?_)
        | (refine wpAnyH_take (i := 20) (v := ?_) (by (try simp only [List.getElem?_toArray, List.getElem?_cons_zero, List.getElem?_cons_succ]); first | done | rfl) (by kernel_rfl) (by kernel_rfl) (by kernel_rfl) (fun _ _ _ h => h) (Or.inl ⟨by rfl, ?_⟩) (by assumption) ?_
           rotate_left 1
           · (intro wz hSw; (try dsimp only at hSw); go_simp; try with_reducible rfl))
        try simp only [Act.put, List.setIfInBounds_toArray, List.set_cons_zero, List.set_cons_succ]
        first
        | (refine wpAnyH_take (i := 21) (v := undef) (by (try simp only [List.getElem?_toArray, List.getElem?_cons_zero, List.getElem?_cons_succ]); first | done | rfl) (by kernel_rfl) (by kernel_rfl) (by kernel_rfl) (fun _ _ _ h => h) (Or.inr ⟨by rfl, rfl⟩) (by assumption) ?_)
        | (refine wpAnyH_take (i := 21) (v := ?_) (by (try simp only [List.getElem?_toArray, List.getElem?_cons_zero, List.getElem?_cons_succ]); first | done | rfl) (by kernel_rfl) (by kernel_rfl) (by kernel_rfl) (fun _ _ _ h => h) (Or.inl ⟨by rfl, ?_⟩) (by assumption) ?_
           rotate_left 1
           · (intro wz hSw; (try dsimp only at hSw); go_simp; try with_reducible rfl))
        try simp only [Act.put, List.setIfInBounds_toArray, List.set_cons_zero, List.set_cons_succ]
        first
        | (refine wpAnyH_take (i := 22) (v := undef) (by (try simp only [List.getElem?_toArray, List.getElem?_cons_zero, List.getElem?_cons_succ]); first | done | rfl) (by kernel_rfl) (by kernel_rfl) (by kernel_rfl) (fun _ _ _ h => h) (Or.inr ⟨by rfl, rfl⟩) (by assumption) ?_)
        | (refine wpAnyH_take (i := 22) (v := ?_) (by (try simp only [List.getElem?_toArray, List.getElem?_cons_zero, List.getElem?_cons_succ]); first | done | rfl) (by kernel_rfl) (by kernel_rfl) (by kernel_rfl) (fun _ _ _ h => h) (Or.inl ⟨by rfl, ?_⟩) (by assumption) ?_
           rotate_left 1
           · (intro wz hSw; (try dsimp only at hSw); go_simp; try with_reducible rfl))
        try simp only [Act.put, List.setIfInBounds_toArray, List.set_cons_zero, List.set_cons_succ]
        first
        | (refine wpAnyH_take (i := 23) (v := undef) (by (try simp only [List.getElem?_toArray, List.getElem?_cons_zero, List.getElem?_cons_succ]); first | done | rfl) (by kernel_rfl) (by kernel_rfl) (by kernel_rfl) (fun _ _ _ h => h) (Or.inr ⟨by rfl, rfl⟩) (by assumption) ?_)
        | (refine wpAnyH_take (i := 23) (v := ?_) (by (try simp only [List.getElem?_toArray, List.getElem?_cons_zero, List.getElem?_cons_succ]); first | done | rfl) (by kernel_rfl) (by kernel_rfl) (by kernel_rfl) (fun _ _ _ h => h) (Or.inl ⟨by rfl, ?_⟩) (by assumption) ?_
           rotate_left 1
           · (intro wz hSw; (try dsimp only at hSw); go_simp; try with_reducible rfl))
        try simp only [Act.put, List.setIfInBounds_toArray, List.set_cons_zero, List.set_cons_succ]
        first
        | (refine wpAnyH_take (i := 24) (v := undef) (by (try simp only [List.getElem?_toArray, List.getElem?_cons_zero, List.getElem?_cons_succ]); first | done | rfl) (by kernel_rfl) (by kernel_rfl) (by kernel_rfl) (fun _ _ _ h => h) (Or.inr ⟨by rfl, rfl⟩) (by assumption) ?_)
        | (refine wpAnyH_take (i := 24) (v := ?_) (by (try simp only [List.getElem?_toArray, List.getElem?_cons_zero, List.getElem?_cons_succ]); first | done | rfl) (by kernel_rfl) (by kernel_rfl) (by kernel_rfl) (fun _ _ _ h => h) (Or.inl ⟨by rfl, ?_⟩) (by assumption) ?_
           rotate_left 1
           · (intro wz hSw; (try dsimp only at hSw); go_simp; try with_reducible rfl))
        try simp only [Act.put, List.setIfInBounds_toArray, List.set_cons_zero, List.set_cons_succ]
        first
        | (refine wpAnyH_take (i := 25) (v := undef) (by (try simp only [List.getElem?_toArray, List.getElem?_cons_zero, List.getElem?_cons_succ]); first | done | rfl) (by kernel_rfl) (by kernel_rfl) (by kernel_rfl) (fun _ _ _ h => h) (Or.inr ⟨by rfl, rfl⟩) (by assumption) ?_)
        | (refine wpAnyH_take (i := 25) (v := ?_) (by (try simp only [List.getElem?_toArray, List.getElem?_cons_zero, List.getElem?_cons_succ]); first | done | rfl) (by kernel_rfl) (by kernel_rfl) (by kernel_rfl) (fun _ _ _ h => h) (Or.inl ⟨by rfl, ?_⟩) (by assumption) ?_
           rotate_left 1
           · (intro wz hSw; (try dsimp only at hSw); go_simp; try with_reducible rfl))
        try simp only [Act.put, List.setIfInBounds_toArray, List.set_cons_zero, List.set_cons_succ]
        first
        | (refine wpAnyH_take (i := 26) (v := undef) (by (try simp only [List.getElem?_toArray, List.getElem?_cons_zero, List.getElem?_cons_succ]); first | done | rfl) (by kernel_rfl) (by kernel_rfl) (by kernel_rfl) (fun _ _ _ h => h) (Or.inr ⟨by rfl, rfl⟩) (by assumption) ?_)
        | (refine wpAnyH_take (i := 26) (v := ?_) (by (try simp only [List.getElem?_toArray, List.getElem?_cons_zero, List.getElem?_cons_succ]); first | done | rfl) (by kernel_rfl) (by kernel_rfl) (by kernel_rfl) (fun _ _ _ h => h) (Or.inl ⟨by rfl, ?_⟩) (by assumption) ?_
           rotate_left 1
           · (intro wz hSw; (try dsimp only at hSw); go_simp; try with_reducible rfl))
        try simp only [Act.put, List.setIfInBounds_toArray, List.set_cons_zero, List.set_cons_succ]
        first
        | (refine wpAnyH_take (i := 27) (v := undef) (by (try simp only [List.getElem?_toArray, List.getElem?_cons_zero, List.getElem?_cons_succ]); first | done | rfl) (by kernel_rfl) (by kernel_rfl) (by kernel_rfl) (fun _ _ _ h => h) (Or.inr ⟨by rfl, rfl⟩) (by assumption) ?_)
        | (refine wpAnyH_take (i := 27) (v := ?_) (by (try simp only [List.getElem?_toArray, List.getElem?_cons_zero, List.getElem?_cons_succ]); first | done | rfl) (by kernel_rfl) (by kernel_rfl) (by kernel_rfl) (fun _ _ _ h => h) (Or.inl ⟨by rfl, ?_⟩) (by assumption) ?_
           rotate_left 1
           · (intro wz hSw; (try dsimp only at hSw); go_simp; try with_reducible rfl))
        try simp only [Act.put, List.setIfInBounds_toArray, List.set_cons_zero, List.set_cons_succ]
        first
        | (refine wpAnyH_take (i := 28) (v := undef) (by (try simp only [List.getElem?_toArray, List.getElem?_cons_zero, List.getElem?_cons_succ]); first | done | rfl) (by kernel_rfl) (by kernel_rfl) (by kernel_rfl) (fun _ _ _ h => h) (Or.inr ⟨by rfl, rfl⟩) (by assumption) ?_)
        | (refine wpAnyH_take (i := 28) (v := ?_) (by (try simp only [List.getElem?_toArray, List.getElem?_cons_zero, List.getElem?_cons_succ]); first | done | rfl) (by kernel_rfl) (by kernel_rfl) (by kernel_rfl) (fun _ _ _ h => h) (Or.inl ⟨by rfl, ?_⟩) (by assumption) ?_
           rotate_left 1
           · (intro wz hSw; (try dsimp only at hSw); go_simp; try with_reducible rfl))
        try simp only [Act.put, List.setIfInBounds_toArray, List.set_cons_zero, List.set_cons_succ]
        first
        | (refine wpAnyH_take (i := 29) (v := undef) (by (try simp only [List.getElem?_toArray, List.getElem?_cons_zero, List.getElem?_cons_succ]); first | done | rfl) (by kernel_rfl) (by kernel_rfl) (by kernel_rfl) (fun _ _ _ h => h) (Or.inr ⟨by rfl, rfl⟩) (by assumption) ?_)
        | (refine wpAnyH_take (i := 29) (v := ?_) (by (try simp only [List.getElem?_toArray, List.getElem?_cons_zero, List.getElem?_cons_succ]); first | done | rfl) (by kernel_rfl) (by kernel_rfl) (by kernel_rfl) (fun _ _ _ h => h) (Or.inl ⟨by rfl, ?_⟩) (by assumption) ?_
           rotate_left 1
           · (intro wz hSw; (try dsimp only at hSw); go_simp; try with_reducible rfl))
        try simp only [Act.put, List.setIfInBounds_toArray, List.set_cons_zero, List.set_cons_succ]
        first
        | (refine wpAnyH_take (i := 30) (v := undef) (by (try simp only [List.getElem?_toArray, List.getElem?_cons_zero, List.getElem?_cons_succ]); first | done | rfl) (by kernel_rfl) (by kernel_rfl) (by kernel_rfl) (fun _ _ _ h => h) (Or.inr ⟨by rfl, rfl⟩) (by assumption) ?_)
        | (refine wpAnyH_take (i := 30) (v := ?_) (by (try simp only [List.getElem?_toArray, List.getElem?_cons_zero, List.getElem?_cons_succ]); first | done | rfl) (by kernel_rfl) (by kernel_rfl) (by kernel_rfl) (fun _ _ _ h => h) (Or.inl ⟨by rfl, ?_⟩) (by assumption) ?_
           rotate_left 1
           · (intro wz hSw; (try dsimp only at hSw); go_simp; try with_reducible rfl))
        try simp only [Act.put, List.setIfInBounds_toArray, List.set_cons_zero, List.set_cons_succ]
        first
        | (refine wpAnyH_take (i := 31) (v := undef) (by (try simp only [List.getElem?_toArray, List.getElem?_cons_zero, List.getElem?_cons_succ]); first | done | rfl) (by kernel_rfl) (by kernel_rfl) (by kernel_rfl) (fun _ _ _ h => h) (Or.inr ⟨by rfl, rfl⟩) (by assumption) ?_)
        | (refine wpAnyH_take (i := 31) (v := ?_) (by (try simp only [List.getElem?_toArray, List.getElem?_cons_zero, List.getElem?_cons_succ]); first | done | rfl) (by kernel_rfl) (by kernel_rfl) (by kernel_rfl) (fun _ _ _ h => h) (Or.inl ⟨by rfl, ?_⟩) (by assumption) ?_
           rotate_left 1
           · (intro wz hSw; (try dsimp only at hSw); go_simp; try with_reducible rfl))
        try simp only [Act.put, List.setIfInBounds_toArray, List.set_cons_zero, List.set_cons_succ]
        first
        | (refine wpAnyH_take (i := 32) (v := undef) (by (try simp only [List.getElem?_toArray, List.getElem?_cons_zero, List.getElem?_cons_succ]); first | done | rfl) (by kernel_rfl) (by kernel_rfl) (by kernel_rfl) (fun _ _ _ h => h) (Or.inr ⟨by rfl, rfl⟩) (by assumption) ?_)
        | (refine wpAnyH_take (i := 32) (v := ?_) (by (try simp only [List.getElem?_toArray, List.getElem?_cons_zero, List.getElem?_cons_succ]); first | done | rfl) (by kernel_rfl) (by kernel_rfl) (by kernel_rfl) (fun _ _ _ h => h) (Or.inl ⟨by rfl, ?_⟩) (by assumption) ?_
           rotate_left 1
           · (intro wz hSw; (try dsimp only at hSw); go_simp; try with_reducible rfl))
        try simp only [Act.put, List.setIfInBounds_toArray, List.set_cons_zero, List.set_cons_succ]
        first
        | (refine wpAnyH_take (i := 33) (v := undef) (by (try simp only [List.getElem?_toArray, List.getElem?_cons_zero, List.getElem?_cons_succ]); first | done | rfl) (by kernel_rfl) (by kernel_rfl) (by kernel_rfl) (fun _ _ _ h => h) (Or.inr ⟨by rfl, rfl⟩) (by assumption) ?_)
        | (refine wpAnyH_take (i := 33) (v := ?_) (by (try simp only [List.getElem?_toArray, List.getElem?_cons_zero, List.getElem?_cons_succ]); first | done | rfl) (by kernel_rfl) (by kernel_rfl) (by kernel_rfl) (fun _ _ _ h => h) (Or.inl ⟨by rfl, ?_⟩) (by assumption) ?_
           rotate_left 1
           · (intro wz hSw; (try dsimp only at hSw); go_simp; try with_reducible rfl))
        try simp only [Act.put, List.setIfInBounds_toArray, List.set_cons_zero, List.set_cons_succ]
        refine wpAnyH_done (by kernel_rfl) ?_ _
        refine NoPanic.normal ?_
        have hL := tab_done ‹_›
        go_wp2_with fail
        go_ret
        exact ⟨by rw [HX.out]; rfl, hL⟩
      · have HF := Lib.hid (show (decide (0 ≤ r.f) && decide (r.f ≤ 9999999)) = true from hfq)
        cases hfin : r.finB
        · have HG := Lib.hid (show finTwo r.m.a r.m.b r.m.c r.m.d r.m.e r.m.f r.m.g r.m.h = false from hfin)
          have HX : Hid (tabB rs = false) := Lib.hid (by unfold tabB; rw [HT.out, hfq, hfin]; rfl)
          clear hfq hfin
          go_wp2_with fail
          refine wp_region_noPanic ?_
          refine wp_region_held_drew (S := fun w' => w'.cell? ⟨g, n * 5, none⟩ = some (.int .i64 r.f) ∧ w'.cell? ⟨g, n * 5 + 1, none⟩ = some (.complex .f32 r.m.a r.m.b) ∧ w'.cell? ⟨g, n * 5 + 2, none⟩ = some (.complex .f32 r.m.c r.m.d) ∧ w'.cell? ⟨g, n * 5 + 3, none⟩ = some (.complex .f32 r.m.e r.m.f) ∧ w'.cell? ⟨g, n * 5 + 4, none⟩ = some (.complex .f32 r.m.g r.m.h) ∧ w'.cell? ⟨g, (n - 1) * 5, none⟩ = some (.int .i64 q) ∧ Calm w w') (by kernel_rfl) ?_ (fun hHeld => ?_)
          · (try dsimp only)
            first | with_reducible assumption | with_reducible exact tab_drew ‹_› | with_reducible exact tab_calm ‹_› ‹_› | with_reducible exact tab_calm ‹_› (tab_drew ‹_›)
          first
          | (refine wpAnyH_take (i := 0) (v := undef) (by (try simp only [List.getElem?_toArray, List.getElem?_cons_zero]); first | done | rfl) (by kernel_rfl) (by kernel_rfl) (by kernel_rfl) (fun _ _ _ h => h) (Or.inr ⟨by rfl, rfl⟩) (by assumption) ?_)
          | (refine wpAnyH_take (i := 0) (v := ?_) (by (try simp only [List.getElem?_toArray, List.getElem?_cons_zero]); first | done | rfl) (by kernel_rfl) (by kernel_rfl) (by kernel_rfl) (fun _ _ _ h => h) (Or.inl ⟨by rfl, ?_⟩) (by assumption) ?_
             rotate_left 1
             · (intro wz hSw; (try dsimp only at hSw); go_simp; try with_reducible rfl))
          try simp only [Act.put, List.setIfInBounds_toArray, List.set_cons_zero, List.set_cons_succ]
          first
          | (refine wpAnyH_take (i := 1) (v := undef) (by (try simp only [List.getElem?_toArray, List.getElem?_cons_zero, List.getElem?_cons_succ]); first | done | rfl) (by kernel_rfl) (by kernel_rfl) (by kernel_rfl) (fun _ _ _ h => h) (Or.inr ⟨by rfl, rfl⟩) (by assumption) ?_)
          | (refine wpAnyH_take (i := 1) (v := ?_) (by (try simp only [List.getElem?_toArray, List.getElem?_cons_zero, List.getElem?_cons_succ]); first | done | rfl) (by kernel_rfl) (by kernel_rfl) (by kernel_rfl) (fun _ _ _ h => h) (Or.inl ⟨by rfl, ?_⟩) (by assumption) ?_
             rotate_left 1
             · (intro wz hSw; (try dsimp only at hSw); go_simp; try with_reducible rfl))
          try simp only [Act.put, List.setIfInBounds_toArray, List.set_cons_zero, List.set_cons_succ]
          first
          | (refine wpAnyH_take (i := 2) (v := undef) (by (try simp only [List.getElem?_toArray, List.getElem?_cons_zero, List.getElem?_cons_succ]); first | done | rfl) (by kernel_rfl) (by kernel_rfl) (by kernel_rfl) (fun _ _ _ h => h) (Or.inr ⟨by rfl, rfl⟩) (by assumption) ?_)
          | (refine wpAnyH_take (i := 2) (v := ?_) (by (try simp only [List.getElem?_toArray, List.getElem?_cons_zero, List.getElem?_cons_succ]); first | done | rfl) (by kernel_rfl) (by kernel_rfl) (by kernel_rfl) (fun _ _ _ h => h) (Or.inl ⟨by rfl, ?_⟩) (by assumption) ?_
             rotate_left 1
             · (intro wz hSw; (try dsimp only at hSw); go_simp; try with_reducible rfl))
          try simp only [Act.put, List.setIfInBounds_toArray, List.set_cons_zero, List.set_cons_succ]
          first
          | (refine wpAnyH_take (i := 3) (v := undef) (by (try simp only [List.getElem?_toArray, List.getElem?_cons_zero, List.getElem?_cons_succ]); first | done | rfl) (by kernel_rfl) (by kernel_rfl) (by kernel_rfl) (fun _ _ _ h => h) (Or.inr ⟨by rfl, rfl⟩) (by assumption) ?_)
          | (refine wpAnyH_take (i := 3) (v := ?_) (by (try simp only [List.getElem?_toArray, List.getElem?_cons_zero, List.getElem?_cons_succ]); first | done | rfl) (by kernel_rfl) (by kernel_rfl) (by kernel_rfl) (fun _ _ _ h => h) (Or.inl ⟨by rfl, ?_⟩) (by assumption) ?_
             rotate_left 1
             · (intro wz hSw; (try dsimp only at hSw); go_simp; try with_reducible rfl))
          try simp only [Act.put, List.setIfInBounds_toArray, List.set_cons_zero, List.set_cons_succ]
          first
          | (refine wpAnyH_take (i := 4) (v := undef) (by (try simp only [List.getElem?_toArray, List.getElem?_cons_zero, List.getElem?_cons_succ]); first | done | rfl) (by kernel_rfl) (by kernel_rfl) (by kernel_rfl) (fun _ _ _ h => h) (Or.inr ⟨by rfl, rfl⟩) (by assumption) ?_)
          | (refine wpAnyH_take (i := 4) (v := ?_) (by (try simp only [List.getElem?_toArray, List.getElem?_cons_zero, List.getElem?_cons_succ]); first | done | rfl) (by kernel_rfl) (by kernel_rfl) (by kernel_rfl) (fun _ _ _ h => h) (Or.inl ⟨by rfl, ?_⟩) (by assumption) ?_
             rotate_left 1
             · (intro wz hSw; (try dsimp only at hSw); go_simp; try with_reducible rfl))
          try simp only [Act.put, List.setIfInBounds_toArray, List.set_cons_zero, List.set_cons_succ]
          first
          | (refine wpAnyH_take (i := 5) (v := undef) (by (try simp only [List.getElem?_toArray, List.getElem?_cons_zero, List.getElem?_cons_succ]); first | done | rfl) (by kernel_rfl) (by kernel_rfl) (by kernel_rfl) (fun _ _ _ h => h) (Or.inr ⟨by rfl, rfl⟩) (by assumption) ?_)
          | (refine wpAnyH_ready (rs := [5]) (by kernel_rfl) (by simp) ?_
             refine AllReadyH.cons (by (try simp only [List.getElem?_toArray, List.getElem?_cons_zero, List.getElem?_cons_succ]); first | done | rfl) (fun K hK => ?_) AllReadyH.nil
             go_simp
             refine Calls.mono (l1In_any _ _ _ _) ?_; rw [HF.out]; rintro e w' ⟨rfl, rfl⟩
             refine hK.out _ _ ?_ (fun hHeld => ?_)
             · (try dsimp only)
               first | with_reducible assumption | with_reducible exact tab_drew ‹_› | with_reducible exact tab_calm ‹_› ‹_› | with_reducible exact tab_calm ‹_› (tab_drew ‹_›)
             clear hK K)
          try simp only [Act.put, List.setIfInBounds_toArray, List.set_cons_zero, List.set_cons_succ]
          first
          | (refine wpAnyH_take (i := 6) (v := undef) (by (try simp only [List.getElem?_toArray, List.getElem?_cons_zero, List.getElem?_cons_succ]); first | done | rfl) (by kernel_rfl) (by kernel_rfl) (by kernel_rfl) (fun _ _ _ h => h) (Or.inr ⟨by rfl, rfl⟩) (by assumption) ?_)
          | (refine wpAnyH_take (i := 6) (v := ?_) (by (try simp only [List.getElem?_toArray, List.getElem?_cons_zero, List.getElem?_cons_succ]); first | done | rfl) (by kernel_rfl) (by kernel_rfl) (by kernel_rfl) (fun _ _ _ h => h) (Or.inl ⟨by rfl, ?_⟩) (by assumption) ?_
             rotate_left 1
             · (intro wz hSw; (try dsimp only at hSw); go_simp; try with_reducible rfl))
          try simp only [Act.put, List.setIfInBounds_toArray, List.set_cons_zero, List.set_cons_succ]
          first
          | (refine wpAnyH_take (i := 7) (v := undef) (by (try simp only [List.getElem?_toArray, List.getElem?_cons_zero, List.getElem?_cons_succ]); first | done | rfl) (by kernel_rfl) (by kernel_rfl) (by kernel_rfl) (fun _ _ _ h => h) (Or.inr ⟨by rfl, rfl⟩) (by assumption) ?_)
          | (refine wpAnyH_take (i := 7) (v := ?_) (by (try simp only [List.getElem?_toArray, List.getElem?_cons_zero, List.getElem?_cons_succ]); first | done | rfl) (by kernel_rfl) (by kernel_rfl) (by kernel_rfl) (fun _ _ _ h => h) (Or.inl ⟨by rfl, ?_⟩) (by assumption) ?_
             rotate_left 1
             · (intro wz hSw; (try dsimp only at hSw); go_simp; try with_reducible rfl))
          try simp only [Act.put, List.setIfInBounds_toArray, List.set_cons_zero, List.set_cons_succ]
          first
          | (refine wpAnyH_take (i := 8) (v := undef) (by (try simp only [List.getElem?_toArray, List.getElem?_cons_zero, List.getElem?_cons_succ]); first | done | rfl) (by kernel_rfl) (by kernel_rfl) (by kernel_rfl) (fun _ _ _ h => h) (Or.inr ⟨by rfl, rfl⟩) (by assumption) ?_)
          | (refine wpAnyH_take (i := 8) (v := ?_) (by (try simp only [List.getElem?_toArray, List.getElem?_cons_zero, List.getElem?_cons_succ]); first | done | rfl) (by kernel_rfl) (by kernel_rfl) (by kernel_rfl) (fun _ _ _ h => h) (Or.inl ⟨by rfl, ?_⟩) (by assumption) ?_
             rotate_left 1
             · (intro wz hSw; (try dsimp only at hSw); go_simp; try with_reducible rfl))
          try simp only [Act.put, List.setIfInBounds_toArray, List.set_cons_zero, List.set_cons_succ]
          first
          | (refine wpAnyH_take (i := 9) (v := undef) (by (try simp only [List.getElem?_toArray, List.getElem?_cons_zero, List.getElem?_cons_succ]); first | done | rfl) (by kernel_rfl) (by kernel_rfl) (by kernel_rfl) (fun _ _ _ h => h) (Or.inr ⟨by rfl, rfl⟩) (by assumption) ?_)
          | (refine wpAnyH_take (i := 9) (v := ?_) (by (try simp only [List.getElem?_toArray, List.getElem?_cons_zero, List.getElem?_cons_succ]); first | done | rfl) (by kernel_rfl) (by kernel_rfl) (by kernel_rfl) (fun _ _ _ h => h) (Or.inl ⟨by rfl, ?_⟩) (by assumption) ?_
             rotate_left 1
             · (intro wz hSw; (try dsimp only at hSw); go_simp; try with_reducible rfl))
          try simp only [Act.put, List.setIfInBounds_toArray, List.set_cons_zero, List.set_cons_succ]
          first
          | (refine wpAnyH_take (i := 10) (v := undef) (by (try simp only [List.getElem?_toArray, List.getElem?_cons_zero, List.getElem?_cons_succ]); first | done | rfl) (by kernel_rfl) (by kernel_rfl) (by kernel_rfl) (fun _ _ _ h => h) (Or.inr ⟨by rfl, rfl⟩) (by assumption) ?_)
          | (refine wpAnyH_take (i := 10) (v := ?_) (by (try simp only [List.getElem?_toArray, List.getElem?_cons_zero, List.getElem?_cons_succ]); first | done | rfl) (by kernel_rfl) (by kernel_rfl) (by kernel_rfl) (fun _ _ _ h => h) (Or.inl ⟨by rfl, ?_⟩) (by assumption) ?_
             rotate_left 1
             · (intro wz hSw; (try dsimp only at hSw); go_simp; try with_reducible rfl))
          try simp only [Act.put, List.setIfInBounds_toArray, List.set_cons_zero, List.set_cons_succ]
          first
          | (refine wpAnyH_take (i := 11) (v := undef) (by (try simp only [List.getElem?_toArray, List.getElem?_cons_zero, List.getElem?_cons_succ]); first | done | rfl) (by kernel_rfl) (by kernel_rfl) (by kernel_rfl) (fun _ _ _ h => h) (Or.inr ⟨by rfl, rfl⟩) (by assumption) ?_)
          | (refine wpAnyH_take (i := 11) (v := ?_) (by (try simp only [List.getElem?_toArray, List.getElem?_cons_zero, List.getElem?_cons_succ]); first | done | rfl) (by kernel_rfl) (by kernel_rfl) (by kernel_rfl) (fun _ _ _ h => h) (Or.inl ⟨by rfl, ?_⟩) (by assumption) ?_
             rotate_left 1
             · (intro wz hSw; (try dsimp only at hSw); go_simp; try with_reducible rfl))
          try simp only [Act.put, List.setIfInBounds_toArray, List.set_cons_zero, List.set_cons_succ]
          first
          | (refine wpAnyH_take (i := 12) (v := undef) (by (try simp only [List.getElem?_toArray, List.getElem?_cons_zero, List.getElem?_cons_succ]); first | done | rfl) (by kernel_rfl) (by kernel_rfl) (by kernel_rfl) (fun _ _ _ h => h) (Or.inr ⟨by rfl, rfl⟩) (by assumption) ?_)
          | (refine wpAnyH_take (i := 12) (v := ?_) (by (try simp only [List.getElem?_toArray, List.getElem?_cons_zero, List.getElem?_cons_succ]); first | done | rfl) (by kernel_rfl) (by kernel_rfl) (by kernel_rfl) (fun _ _ _ h => h) (Or.inl ⟨by rfl, ?_⟩) (by assumption) ?_
             rotate_left 1
             · (intro wz hSw; (try dsimp only at hSw); go_simp; try with_reducible rfl))
          try simp only [Act.put, List.setIfInBounds_toArray, List.set_cons_zero, List.set_cons_succ]
          first
          | (refine wpAnyH_take (i := 13) (v := undef) (by (try simp only [List.getElem?_toArray, List.getElem?_cons_zero, List.getElem?_cons_succ]); first | done | rfl) (by kernel_rfl) (by kernel_rfl) (by kernel_rfl) (fun _ _ _ h => h) (Or.inr ⟨by rfl, rfl⟩) (by assumption) ?_)
          | (refine wpAnyH_ready (rs := [13]) (by kernel_rfl) (by simp) ?_
             refine AllReadyH.cons (by (try simp only [List.getElem?_toArray, List.getElem?_cons_zero, List.getElem?_cons_succ]); first | done | rfl) (fun K hK => ?_) AllReadyH.nil
             go_simp
             refine Calls.mono (specTwoOk_any _ _ _ _ _ _ _ _ _) ?_; rw [HG.out]; rintro e w' ⟨rfl, C⟩
             refine hK.out _ _ ?_ (fun hHeld => ?_)
             · (try dsimp only)
               first | with_reducible assumption | with_reducible exact tab_drew ‹_› | with_reducible exact tab_calm ‹_› ‹_› | with_reducible exact tab_calm ‹_› (tab_drew ‹_›)
             clear hK K)
          try simp only [Act.put, List.setIfInBounds_toArray, List.set_cons_zero, List.set_cons_succ]
          first
          | (refine wpAnyH_take (i := 14) (v := undef) (by (try simp only [List.getElem?_toArray, List.getElem?_cons_zero, List.getElem?_cons_succ]); first | done | rfl) (by kernel_rfl) (by kernel_rfl) (by kernel_rfl) (fun _ _ _ h => h) (Or.inr ⟨by rfl, rfl⟩) (by assumption) ?_)
          | (refine wpAnyH_take (i := 14) (v := ?_) (by (try simp only [List.getElem?_toArray, List.getElem?_cons_zero, List.getElem?_cons_succ]); first | done | rfl) (by kernel_rfl) (by kernel_rfl) (by kernel_rfl) (fun _ _ _ h => h) (Or.inl ⟨by rfl, ?_⟩) (by assumption) ?_
             rotate_left 1
             · (intro wz hSw; (try dsimp only at hSw); go_simp; try with_reducible rfl))
          try simp only [Act.put, List.setIfInBounds_toArray, List.set_cons_zero, List.set_cons_succ]
          first
          | (refine wpAnyH_take (i := 15) (v := undef) (by (try simp only [List.getElem?_toArray, List.getElem?_cons_zero, List.getElem?_cons_succ]); first | done | rfl) (by kernel_rfl) (by kernel_rfl) (by kernel_rfl) (fun _ _ _ h => h) (Or.inr ⟨by rfl, rfl⟩) (by assumption) ?_)
          | (refine wpAnyH_take (i := 15) (v := ?_) (by (try simp only [List.getElem?_toArray, List.getElem?_cons_zero, List.getElem?_cons_succ]); first | done | rfl) (by kernel_rfl) (by kernel_rfl) (by kernel_rfl) (fun _ _ _ h => h) (Or.inl ⟨by rfl, ?_⟩) (by assumption) ?_
             rotate_left 1
             · (intro wz hSw; (try dsimp only at hSw); go_simp; try with_reducible rfl))
          try simp only [Act.put, List.setIfInBounds_toArray, List.set_cons_zero, List.set_cons_succ]
          first
          | (refine wpAnyH_take (i := 16) (v := undef) (by (try simp only [List.getElem?_toArray, List.getElem?_cons_zero, List.getElem?_cons_succ]); first | done | rfl) (by kernel_rfl) (by kernel_rfl) (by kernel_rfl) (fun _ _ _ h => h) (Or.inr ⟨by rfl, rfl⟩) (by assumption) ?_)
          | (refine wpAnyH_take (i := 16) (v := ?_) (by (try simp only [List.getElem?_toArray, List.getElem?_cons_zero, List.getElem?_cons_succ]); first | done | rfl) (by kernel_rfl) (by kernel_rfl) (by kernel_rfl) (fun _ _ _ h => h) (Or.inl ⟨by rfl, ?_⟩) (by assumption) ?_
             rotate_left 1
             · (intro wz hSw; (try dsimp only at hSw); go_simp; try with_reducible rfl))
          try simp only [Act.put, List.setIfInBounds_toArray, List.set_cons_zero, List.set_cons_succ]
          first
          | (refine wpAnyH_take (i := 17) (v := undef) (by (try simp only [List.getElem?_toArray, List.getElem?_cons_zero, List.getElem?_cons_succ]); first | done | rfl) (by kernel_rfl) (by kernel_rfl) (by kernel_rfl) (fun _ _ _ h => h) (Or.inr ⟨by rfl, rfl⟩) (by assumption) ?_)
          | (refine wpAnyH_take (i := 17) (v := ?_) (by (try simp only [List.getElem?_toArray, List.getElem?_cons_zero, List.getElem?_cons_succ]); first | done | rfl) (by kernel_rfl) (by kernel_rfl) (by kernel_rfl) (fun _ _ _ h => h) (Or.inl ⟨by rfl, ?_⟩) (by assumption) ?_
             rotate_left 1
             · (intro wz hSw; (try dsimp only at hSw); go_simp; try with_reducible rfl))
          try simp only [Act.put, List.setIfInBounds_toArray, List.set_cons_zero, List.set_cons_succ]
          first
          | (refine wpAnyH_take (i := 18) (v := undef) (by (try simp only [List.getElem?_toArray, List.getElem?_cons_zero, List.getElem?_cons_succ]); first | done | rfl) (by kernel_rfl) (by kernel_rfl) (by kernel_rfl) (fun _ _ _ h => h) (Or.inr ⟨by rfl, rfl⟩) (by assumption) ?_)
          | (refine wpAnyH_take (i := 18) (v := ?_) (by (try simp only [List.getElem?_toArray, List.getElem?_cons_zero, List.getElem?_cons_succ]); first | done | rfl) (by kernel_rfl) (by kernel_rfl) (by kernel_rfl) (fun _ _ _ h => h) (Or.inl ⟨by rfl, ?_⟩) (by assumption) ?_
             rotate_left 1
             · (intro wz hSw; (try dsimp only at hSw); go_simp; try with_reducible rfl))
          try simp only [Act.put, List.setIfInBounds_toArray, List.set_cons_zero, List.set_cons_succ]
          first
          | (refine wpAnyH_take (i := 19) (v := undef) (by (try simp only [List.getElem?_toArray, List.getElem?_cons_zero, List.getElem?_cons_succ]); first | done | rfl) (by kernel_rfl) (by kernel_rfl) (by kernel_rfl) (fun _ _ _ h => h) (Or.inr ⟨by rfl, rfl⟩) (by assumption) ?_)
          | (refine wpAnyH_take (i := 19) (v := ?_) (by (try simp only [List.getElem?_toArray, List.getElem?_cons_zero, List.getElem?_cons_succ]); first | done | rfl) (by kernel_rfl) (by kernel_rfl) (by kernel_rfl) (fun _ _ _ h => h) (Or.inl ⟨by rfl, ?_⟩) (by assumption) ?_
             rotate_left 1
             · (intro wz hSw; (try dsimp only at hSw); go_simp; try with_reducible rfl))
          try simp only [Act.put, List.setIfInBounds_toArray, List.set_cons_zero, List.set_cons_succ]
          first
          | (refine wpAnyH_take (i := 20) (v := undef) (by (try simp only [List.getElem?_toArray, List.getElem?_cons_zero, List.getElem?_cons_succ]); first | done | rfl) (by kernel_rfl) (by kernel_rfl) (by kernel_rfl) (fun _ _ _ h => h) (Or.inr ⟨by rfl, rfl⟩) (by assumption) ?_)
          | (refine wpAnyH_take (i := 20) (v := ?_) (by (try simp only [List.getElem?_toArray, List.getElem?_cons_zero, List.getElem?_cons_succ]); first | done | rfl) (by kernel_rfl) (by kernel_rfl) (by kernel_rfl) (fun _ _ _ h => h) (Or.inl ⟨by rfl, ?_⟩) (by assumption) ?_
             rotate_left 1
             · (intro wz hSw; (try dsimp only at hSw); go_simp; try with_reducible rfl))
          try simp only [Act.put, List.setIfInBounds_toArray, List.set_cons_zero, List.set_cons_succ]
          first
          | (refine wpAnyH_take (i := 21) (v := undef) (by (try simp only [List.getElem?_toArray, List.getElem?_cons_zero, List.getElem?_cons_succ]); first | done | rfl) (by kernel_rfl) (by kernel_rfl) (by kernel_rfl) (fun _ _ _ h => h) (Or.inr ⟨by rfl, rfl⟩) (by assumption) ?_)
          | (refine wpAnyH_take (i := 21) (v := ?_) (by (try simp only [List.getElem?_toArray, List.getElem?_cons_zero, List.getElem?_cons_succ]); first | done | rfl) (by kernel_rfl) (by kernel_rfl) (by kernel_rfl) (fun _ _ _ h => h) (Or.inl ⟨by rfl, ?_⟩) (by assumption) ?_
             rotate_left 1
             · (intro wz hSw; (try dsimp only at hSw); go_simp; try with_reducible rfl))
          try simp only [Act.put, List.setIfInBounds_toArray, List.set_cons_zero, List.set_cons_succ]
          first
          | (refine wpAnyH_take (i := 22) (v := undef) (by (try simp only [List.getElem?_toArray, List.getElem?_cons_zero, List.getElem?_cons_succ]); first | done | rfl) (by kernel_rfl) (by kernel_rfl) (by kernel_rfl) (fun _ _ _ h => h) (Or.inr ⟨by rfl, rfl⟩) (by assumption) ?_)
          | (refine wpAnyH_take (i := 22) (v := ?_) (by (try simp only [List.getElem?_toArray, List.getElem?_cons_zero, List.getElem?_cons_succ]); first | done | rfl) (by kernel_rfl) (by kernel_rfl) (by kernel_rfl) (fun _ _ _ h => h) (Or.inl ⟨by rfl, ?_⟩) (by assumption) ?_
             rotate_left 1
             · (intro wz hSw; (try dsimp only at hSw); go_simp; try with_reducible rfl))
          try simp only [Act.put, List.setIfInBounds_toArray, List.set_cons_zero, List.set_cons_succ]
          first
          | (refine wpAnyH_take (i := 23) (v := undef) (by (try simp only [List.getElem?_toArray, List.getElem?_cons_zero, List.getElem?_cons_succ]); first | done | rfl) (by kernel_rfl) (by kernel_rfl) (by kernel_rfl) (fun _ _ _ h => h) (Or.inr ⟨by rfl, rfl⟩) (by assumption) ?_)
          | (refine wpAnyH_take (i := 23) (v := ?_) (by (try simp only [List.getElem?_toArray, List.getElem?_cons_zero, List.getElem?_cons_succ]); first | done | rfl) (by kernel_rfl) (by kernel_rfl) (by kernel_rfl) (fun _ _ _ h => h) (Or.inl ⟨by rfl, ?_⟩) (by assumption) ?_
             rotate_left 1
             · (intro wz hSw; (try dsimp only at hSw); go_simp; try with_reducible rfl))
          try simp only [Act.put, List.setIfInBounds_toArray, List.set_cons_zero, List.set_cons_succ]
          first
          | (refine wpAnyH_take (i := 24) (v := undef) (by (try simp only [List.getElem?_toArray, List.getElem?_cons_zero, List.getElem?_cons_succ]); first | done | rfl) (by kernel_rfl) (by kernel_rfl) (by kernel_rfl) (fun _ _ _ h => h) (Or.inr ⟨by rfl, rfl⟩) (by assumption) ?_)
          | (refine wpAnyH_take (i := 24) (v := ?_) (by (try simp only [List.getElem?_toArray, List.getElem?_cons_zero, List.getElem?_cons_succ]); first | done | rfl) (by kernel_rfl) (by kernel_rfl) (by kernel_rfl) (fun _ _ _ h => h) (Or.inl ⟨by rfl, ?_⟩) (by assumption) ?_
             rotate_left 1
             · (intro wz hSw; (try dsimp only at hSw); go_simp; try with_reducible rfl))
          try simp only [Act.put, List.setIfInBounds_toArray, List.set_cons_zero, List.set_cons_succ]
          first
          | (refine wpAnyH_take (i := 25) (v := undef) (by (try simp only [List.getElem?_toArray, List.getElem?_cons_zero, List.getElem?_cons_succ]); first | done | rfl) (by kernel_rfl) (by kernel_rfl) (by kernel_rfl) (fun _ _ _ h => h) (Or.inr ⟨by rfl, rfl⟩) (by assumption) ?_)
          | (refine wpAnyH_take (i := 25) (v := ?_) (by (try simp only [List.getElem?_toArray, List.getElem?_cons_zero, List.getElem?_cons_succ]); first | done | rfl) (by kernel_rfl) (by kernel_rfl) (by kernel_rfl) (fun _ _ _ h => h) (Or.inl ⟨by rfl, ?_⟩) (by assumption) ?_
             rotate_left 1
             · (intro wz hSw; (try dsimp only at hSw); go_simp; try with_reducible rfl))
          try simp only [Act.put, List.setIfInBounds_toArray, List.set_cons_zero, List.set_cons_succ]
          first
          | (refine wpAnyH_take (i := 26) (v := undef) (by (try simp only [List.getElem?_toArray, List.getElem?_cons_zero, List.getElem?_cons_succ]); first | done | rfl) (by kernel_rfl) (by kernel_rfl) (by kernel_rfl) (fun _ _ _ h => h) (Or.inr ⟨by rfl, rfl⟩) (by assumption) ?_)
          | (refine wpAnyH_take (i := 26) (v := ?_) (by (try simp only [List.getElem?_toArray, List.getElem?_cons_zero, List.getElem?_cons_succ]); first | done | rfl) (by kernel_rfl) (by kernel_rfl) (by kernel_rfl) (fun _ _ _ h => h) (Or.inl ⟨by rfl, ?_⟩) (by assumption) ?_
             rotate_left 1
             · (intro wz hSw; (try dsimp only at hSw); go_simp; try with_reducible rfl))
          try simp only [Act.put, List.setIfInBounds_toArray, List.set_cons_zero, List.set_cons_succ]
          first
          | (refine wpAnyH_take (i := 27) (v := undef) (by (try simp only [List.getElem?_toArray, List.getElem?_cons_zero, List.getElem?_cons_succ]); first | done | rfl) (by kernel_rfl) (by kernel_rfl) (by kernel_rfl) (fun _ _ _ h => h) (Or.inr ⟨by rfl, rfl⟩) (by assumption) ?_)
          | (refine wpAnyH_take (i := 27) (v := ?_) (by (try simp only [List.getElem?_toArray, List.getElem?_cons_zero, List.getElem?_cons_succ]); first | done | rfl) (by kernel_rfl) (by kernel_rfl) (by kernel_rfl) (fun _ _ _ h => h) (Or.inl ⟨by rfl, ?_⟩) (by assumption) ?_
             rotate_left 1
             · (intro wz hSw; (try dsimp only at hSw); go_simp; try with_reducible rfl))
          try simp only [Act.put, List.setIfInBounds_toArray, List.set_cons_zero, List.set_cons_succ]
          first
          | (refine wpAnyH_take (i := 28) (v := undef) (by (try simp only [List.getElem?_toArray, List.getElem?_cons_zero, List.getElem?_cons_succ]); first | done | rfl) (by kernel_rfl) (by kernel_rfl) (by kernel_rfl) (fun _ _ _ h => h) (Or.inr ⟨by rfl, rfl⟩) (by assumption) ?_)
          | (refine wpAnyH_take (i := 28) (v := ?_) (by (try simp only [List.getElem?_toArray, List.getElem?_cons_zero, List.getElem?_cons_succ]); first | done | rfl) (by kernel_rfl) (by kernel_rfl) (by kernel_rfl) (fun _ _ _ h => h) (Or.inl ⟨by rfl, ?_⟩) (by assumption) ?_
             rotate_left 1
             · (intro wz hSw; (try dsimp only at hSw); go_simp; try with_reducible rfl))
          try simp only [Act.put, List.setIfInBounds_toArray, List.set_cons_zero, List.set_cons_succ]
          first
          | (refine wpAnyH_take (i := 29) (v := undef) (by (try simp only [List.getElem?_toArray, List.getElem?_cons_zero, List.getElem?_cons_succ]); first | done | rfl) (by kernel_rfl) (by kernel_rfl) (by kernel_rfl) (fun _ _ _ h => h) (Or.inr ⟨by rfl, rfl⟩) (by assumption) ?_)
          | (refine wpAnyH_take (i := 29) (v := ?_) (by (try simp only [List.getElem?_toArray, List.getElem?_cons_zero, List.getElem?_cons_succ]); first | done | rfl) (by kernel_rfl) (by kernel_rfl) (by kernel_rfl) (fun _ _ _ h => h) (Or.inl ⟨by rfl, ?_⟩) (by assumption) ?_
             rotate_left 1
             · (intro wz hSw; (try dsimp only at hSw); go_simp; try with_reducible rfl))
          try simp only [Act.put, List.setIfInBounds_toArray, List.set_cons_zero, List.set_cons_succ]
          first
          | (refine wpAnyH_take (i := 30) (v := undef) (by (try simp only [List.getElem?_toArray, List.getElem?_cons_zero, List.getElem?_cons_succ]); first | done | rfl) (by kernel_rfl) (by kernel_rfl) (by kernel_rfl) (fun _ _ _ h => h) (Or.inr ⟨by rfl, rfl⟩) (by assumption) ?_)
          | (refine wpAnyH_take (i := 30) (v := ?_) (by (try simp only [List.getElem?_toArray, List.getElem?_cons_zero, List.getElem?_cons_succ]); first | done | rfl) (by kernel_rfl) (by kernel_rfl) (by kernel_rfl) (fun _ _ _ h => h) (Or.inl ⟨by rfl, ?_⟩) (by assumption) ?_
             rotate_left 1
             · (intro wz hSw; (try dsimp only at hSw); go_simp; try with_reducible rfl))
          try simp only [Act.put, List.setIfInBounds_toArray, List.set_cons_zero, List.set_cons_succ]
          first
          | (refine wpAnyH_take (i := 31) (v := undef) (by (try simp only [List.getElem?_toArray, List.getElem?_cons_zero, List.getElem?_cons_succ]); first | done | rfl) (by kernel_rfl) (by kernel_rfl) (by kernel_rfl) (fun _ _ _ h => h) (Or.inr ⟨by rfl, rfl⟩) (by assumption) ?_)
          | (refine wpAnyH_take (i := 31) (v := ?_) (by (try simp only [List.getElem?_toArray, List.getElem?_cons_zero, List.getElem?_cons_succ]); first | done | rfl) (by kernel_rfl) (by kernel_rfl) (by kernel_rfl) (fun _ _ _ h => h) (Or.inl ⟨by rfl, ?_⟩) (by assumption) ?_
             rotate_left 1
             · (intro wz hSw; (try dsimp only at hSw); go_simp; try with_reducible rfl))
          try simp only [Act.put, List.setIfInBounds_toArray, List.set_cons_zero, List.set_cons_succ]
          first
          | (refine wpAnyH_take (i := 32) (v := undef) (by (try simp only [List.getElem?_toArray, List.getElem?_cons_zero, List.getElem?_cons_succ]); first | done | rfl) (by kernel_rfl) (by kernel_rfl) (by kernel_rfl) (fun _ _ _ h => h) (Or.inr ⟨by rfl, rfl⟩) (by assumption) ?_)
          | (refine wpAnyH_take (i := 32) (v := ?_) (by (try simp only [List.getElem?_toArray, List.getElem?_cons_zero, List.getElem?_cons_succ]); first | done | rfl) (by kernel_rfl) (by kernel_rfl) (by kernel_rfl) (fun _ _ _ h => h) (Or.inl ⟨by rfl, ?_⟩) (by assumption) ?_
             rotate_left 1
             · (intro wz hSw; (try dsimp only at hSw); go_simp; try with_reducible rfl))
          try simp only [Act.put, List.setIfInBounds_toArray, List.set_cons_zero, List.set_cons_succ]
          first
          | (refine wpAnyH_take (i := 33) (v := undef) (by (try simp only [List.getElem?_toArray, List.getElem?_cons_zero, List.getElem?_cons_succ]); first | done | rfl) (by kernel_rfl) (by kernel_rfl) (by kernel_rfl) (fun _ _ _ h => h) (Or.inr ⟨by rfl, rfl⟩) (by assumption) ?_)
          | (refine wpAnyH_take (i := 33) (v := ?_) (by (try simp only [List.getElem?_toArray, List.getElem?_cons_zero, List.getElem?_cons_succ]); first | done | rfl) (by kernel_rfl) (by kernel_rfl) (by kernel_rfl) (fun _ _ _ h => h) (Or.inl ⟨by rfl, ?_⟩) (by assumption) ?_
             rotate_left 1
             · (intro wz hSw; (try dsimp only at hSw); go_simp; try with_reducible rfl))
          try simp only [Act.put, List.setIfInBounds_toArray, List.set_cons_zero, List.set_cons_succ]
          refine wpAnyH_done (by kernel_rfl) ?_ _
          refine NoPanic.normal ?_
          have hL := tab_done ‹_›
          go_wp2_with fail
          go_ret
          exact ⟨by rw [HX.out]; rfl, hL⟩
        · have HG := Lib.hid (show finTwo r.m.a r.m.b r.m.c r.m.d r.m.e r.m.f r.m.g r.m.h = true from hfin)
          by_cases hn0 : n = 0
          · subst hn0
            have HN : Hid (rowsB (prevF rs 1) (rs.drop 1) = rowsB none rs) := Lib.hid (by rw [HT.out, hfq, hfin]; rfl)
            clear hfq hfin
            go_wp2_with fail
            refine wp_region_noPanic ?_
            refine wp_region_held_drew (S := fun w' => w'.cell? ⟨g, 0 * 5, none⟩ = some (.int .i64 r.f) ∧ w'.cell? ⟨g, 0 * 5 + 1, none⟩ = some (.complex .f32 r.m.a r.m.b) ∧ w'.cell? ⟨g, 0 * 5 + 2, none⟩ = some (.complex .f32 r.m.c r.m.d) ∧ w'.cell? ⟨g, 0 * 5 + 3, none⟩ = some (.complex .f32 r.m.e r.m.f) ∧ w'.cell? ⟨g, 0 * 5 + 4, none⟩ = some (.complex .f32 r.m.g r.m.h) ∧ w'.cell? ⟨g, (0 - 1) * 5, none⟩ = some (.int .i64 q) ∧ Calm w w') (by kernel_rfl) ?_ (fun hHeld => ?_)
            · (try dsimp only)
              first | with_reducible assumption | with_reducible exact tab_drew ‹_› | with_reducible exact tab_calm ‹_› ‹_› | with_reducible exact tab_calm ‹_› (tab_drew ‹_›)
            first
            | (refine wpAnyH_take (i := 0) (v := undef) (by (try simp only [List.getElem?_toArray, List.getElem?_cons_zero]); first | done | rfl) (by kernel_rfl) (by kernel_rfl) (by kernel_rfl) (fun _ _ _ h => h) (Or.inr ⟨by rfl, rfl⟩) (by assumption) ?_)
            | (refine wpAnyH_take (i := 0) (v := ?_) (by (try simp only [List.getElem?_toArray, List.getElem?_cons_zero]); first | done | rfl) (by kernel_rfl) (by kernel_rfl) (by kernel_rfl) (fun _ _ _ h => h) (Or.inl ⟨by rfl, ?_⟩) (by assumption) ?_
               rotate_left 1
               · (intro wz hSw; (try dsimp only at hSw); go_simp; try with_reducible rfl))
            try simp only [Act.put, List.setIfInBounds_toArray, List.set_cons_zero, List.set_cons_succ]
            first
            | (refine wpAnyH_take (i := 1) (v := undef) (by (try simp only [List.getElem?_toArray, List.getElem?_cons_zero, List.getElem?_cons_succ]); first | done | rfl) (by kernel_rfl) (by kernel_rfl) (by kernel_rfl) (fun _ _ _ h => h) (Or.inr ⟨by rfl, rfl⟩) (by assumption) ?_)
            | (refine wpAnyH_take (i := 1) (v := ?_) (by (try simp only [List.getElem?_toArray, List.getElem?_cons_zero, List.getElem?_cons_succ]); first | done | rfl) (by kernel_rfl) (by kernel_rfl) (by kernel_rfl) (fun _ _ _ h => h) (Or.inl ⟨by rfl, ?_⟩) (by assumption) ?_
               rotate_left 1
               · (intro wz hSw; (try dsimp only at hSw); go_simp; try with_reducible rfl))
            try simp only [Act.put, List.setIfInBounds_toArray, List.set_cons_zero, List.set_cons_succ]
            first
            | (refine wpAnyH_take (i := 2) (v := undef) (by (try simp only [List.getElem?_toArray, List.getElem?_cons_zero, List.getElem?_cons_succ]); first | done | rfl) (by kernel_rfl) (by kernel_rfl) (by kernel_rfl) (fun _ _ _ h => h) (Or.inr ⟨by rfl, rfl⟩) (by assumption) ?_)
            | (refine wpAnyH_take (i := 2) (v := ?_) (by (try simp only [List.getElem?_toArray, List.getElem?_cons_zero, List.getElem?_cons_succ]); first | done | rfl) (by kernel_rfl) (by kernel_rfl) (by kernel_rfl) (fun _ _ _ h => h) (Or.inl ⟨by rfl, ?_⟩) (by assumption) ?_
               rotate_left 1
               · (intro wz hSw; (try dsimp only at hSw); go_simp; try with_reducible rfl))
            try simp only [Act.put, List.setIfInBounds_toArray, List.set_cons_zero, List.set_cons_succ]
            first
            | (refine wpAnyH_take (i := 3) (v := undef) (by (try simp only [List.getElem?_toArray, List.getElem?_cons_zero, List.getElem?_cons_succ]); first | done | rfl) (by kernel_rfl) (by kernel_rfl) (by kernel_rfl) (fun _ _ _ h => h) (Or.inr ⟨by rfl, rfl⟩) (by assumption) ?_)
            | (refine wpAnyH_take (i := 3) (v := ?_) (by (try simp only [List.getElem?_toArray, List.getElem?_cons_zero, List.getElem?_cons_succ]); first | done | rfl) (by kernel_rfl) (by kernel_rfl) (by kernel_rfl) (fun _ _ _ h => h) (Or.inl ⟨by rfl, ?_⟩) (by assumption) ?_
               rotate_left 1
               · (intro wz hSw; (try dsimp only at hSw); go_simp; try with_reducible rfl))
            try simp only [Act.put, List.setIfInBounds_toArray, List.set_cons_zero, List.set_cons_succ]
            first
            | (refine wpAnyH_take (i := 4) (v := undef) (by (try simp only [List.getElem?_toArray, List.getElem?_cons_zero, List.getElem?_cons_succ]); first | done | rfl) (by kernel_rfl) (by kernel_rfl) (by kernel_rfl) (fun _ _ _ h => h) (Or.inr ⟨by rfl, rfl⟩) (by assumption) ?_)
            | (refine wpAnyH_take (i := 4) (v := ?_) (by (try simp only [List.getElem?_toArray, List.getElem?_cons_zero, List.getElem?_cons_succ]); first | done | rfl) (by kernel_rfl) (by kernel_rfl) (by kernel_rfl) (fun _ _ _ h => h) (Or.inl ⟨by rfl, ?_⟩) (by assumption) ?_
               rotate_left 1
               · (intro wz hSw; (try dsimp only at hSw); go_simp; try with_reducible rfl))
            try simp only [Act.put, List.setIfInBounds_toArray, List.set_cons_zero, List.set_cons_succ]
            first
            | (refine wpAnyH_take (i := 5) (v := undef) (by (try simp only [List.getElem?_toArray, List.getElem?_cons_zero, List.getElem?_cons_succ]); first | done | rfl) (by kernel_rfl) (by kernel_rfl) (by kernel_rfl) (fun _ _ _ h => h) (Or.inr ⟨by rfl, rfl⟩) (by assumption) ?_)
            | (refine wpAnyH_ready (rs := [5]) (by kernel_rfl) (by simp) ?_
               refine AllReadyH.cons (by (try simp only [List.getElem?_toArray, List.getElem?_cons_zero, List.getElem?_cons_succ]); first | done | rfl) (fun K hK => ?_) AllReadyH.nil
               go_simp
               refine Calls.mono (l1In_any _ _ _ _) ?_; rw [HF.out]; rintro e w' ⟨rfl, rfl⟩
               refine hK.out _ _ ?_ (fun hHeld => ?_)
               · (try dsimp only)
                 first | with_reducible assumption | with_reducible exact tab_drew ‹_› | with_reducible exact tab_calm ‹_› ‹_› | with_reducible exact tab_calm ‹_› (tab_drew ‹_›)
               clear hK K)
            try simp only [Act.put, List.setIfInBounds_toArray, List.set_cons_zero, List.set_cons_succ]
            first
            | (refine wpAnyH_take (i := 6) (v := undef) (by (try simp only [List.getElem?_toArray, List.getElem?_cons_zero, List.getElem?_cons_succ]); first | done | rfl) (by kernel_rfl) (by kernel_rfl) (by kernel_rfl) (fun _ _ _ h => h) (Or.inr ⟨by rfl, rfl⟩) (by assumption) ?_)
            | (refine wpAnyH_take (i := 6) (v := ?_) (by (try simp only [List.getElem?_toArray, List.getElem?_cons_zero, List.getElem?_cons_succ]); first | done | rfl) (by kernel_rfl) (by kernel_rfl) (by kernel_rfl) (fun _ _ _ h => h) (Or.inl ⟨by rfl, ?_⟩) (by assumption) ?_
               rotate_left 1
               · (intro wz hSw; (try dsimp only at hSw); go_simp; try with_reducible rfl))
            try simp only [Act.put, List.setIfInBounds_toArray, List.set_cons_zero, List.set_cons_succ]
            first
            | (refine wpAnyH_take (i := 7) (v := undef) (by (try simp only [List.getElem?_toArray, List.getElem?_cons_zero, List.getElem?_cons_succ]); first | done | rfl) (by kernel_rfl) (by kernel_rfl) (by kernel_rfl) (fun _ _ _ h => h) (Or.inr ⟨by rfl, rfl⟩) (by assumption) ?_)
            | (refine wpAnyH_take (i := 7) (v := ?_) (by (try simp only [List.getElem?_toArray, List.getElem?_cons_zero, List.getElem?_cons_succ]); first | done | rfl) (by kernel_rfl) (by kernel_rfl) (by kernel_rfl) (fun _ _ _ h => h) (Or.inl ⟨by rfl, ?_⟩) (by assumption) ?_
               rotate_left 1
               · (intro wz hSw; (try dsimp only at hSw); go_simp; try with_reducible rfl))
            try simp only [Act.put, List.setIfInBounds_toArray, List.set_cons_zero, List.set_cons_succ]
            first
            | (refine wpAnyH_take (i := 8) (v := undef) (by (try simp only [List.getElem?_toArray, List.getElem?_cons_zero, List.getElem?_cons_succ]); first | done | rfl) (by kernel_rfl) (by kernel_rfl) (by kernel_rfl) (fun _ _ _ h => h) (Or.inr ⟨by rfl, rfl⟩) (by assumption) ?_)
            | (refine wpAnyH_take (i := 8) (v := ?_) (by (try simp only [List.getElem?_toArray, List.getElem?_cons_zero, List.getElem?_cons_succ]); first | done | rfl) (by kernel_rfl) (by kernel_rfl) (by kernel_rfl) (fun _ _ _ h => h) (Or.inl ⟨by rfl, ?_⟩) (by assumption) ?_
               rotate_left 1
               · (intro wz hSw; (try dsimp only at hSw); go_simp; try with_reducible rfl))
            try simp only [Act.put, List.setIfInBounds_toArray, List.set_cons_zero, List.set_cons_succ]
            first
            | (refine wpAnyH_take (i := 9) (v := undef) (by (try simp only [List.getElem?_toArray, List.getElem?_cons_zero, List.getElem?_cons_succ]); first | done | rfl) (by kernel_rfl) (by kernel_rfl) (by kernel_rfl) (fun _ _ _ h => h) (Or.inr ⟨by rfl, rfl⟩) (by assumption) ?_)
            | (refine wpAnyH_take (i := 9) (v := ?_) (by (try simp only [List.getElem?_toArray, List.getElem?_cons_zero, List.getElem?_cons_succ]); first | done | rfl) (by kernel_rfl) (by kernel_rfl) (by kernel_rfl) (fun _ _ _ h => h) (Or.inl ⟨by rfl, ?_⟩) (by assumption) ?_
               rotate_left 1
               · (intro wz hSw; (try dsimp only at hSw); go_simp; try with_reducible rfl))
            try simp only [Act.put, List.setIfInBounds_toArray, List.set_cons_zero, List.set_cons_succ]
            first
            | (refine wpAnyH_take (i := 10) (v := undef) (by (try simp only [List.getElem?_toArray, List.getElem?_cons_zero, List.getElem?_cons_succ]); first | done | rfl) (by kernel_rfl) (by kernel_rfl) (by kernel_rfl) (fun _ _ _ h => h) (Or.inr ⟨by rfl, rfl⟩) (by assumption) ?_)
            | (refine wpAnyH_take (i := 10) (v := ?_) (by (try simp only [List.getElem?_toArray, List.getElem?_cons_zero, List.getElem?_cons_succ]); first | done | rfl) (by kernel_rfl) (by kernel_rfl) (by kernel_rfl) (fun _ _ _ h => h) (Or.inl ⟨by rfl, ?_⟩) (by assumption) ?_
               rotate_left 1
               · (intro wz hSw; (try dsimp only at hSw); go_simp; try with_reducible rfl))
            try simp only [Act.put, List.setIfInBounds_toArray, List.set_cons_zero, List.set_cons_succ]
            first
            | (refine wpAnyH_take (i := 11) (v := undef) (by (try simp only [List.getElem?_toArray, List.getElem?_cons_zero, List.getElem?_cons_succ]); first | done | rfl) (by kernel_rfl) (by kernel_rfl) (by kernel_rfl) (fun _ _ _ h => h) (Or.inr ⟨by rfl, rfl⟩) (by assumption) ?_)
            | (refine wpAnyH_take (i := 11) (v := ?_) (by (try simp only [List.getElem?_toArray, List.getElem?_cons_zero, List.getElem?_cons_succ]); first | done | rfl) (by kernel_rfl) (by kernel_rfl) (by kernel_rfl) (fun _ _ _ h => h) (Or.inl ⟨by rfl, ?_⟩) (by assumption) ?_
               rotate_left 1
               · (intro wz hSw; (try dsimp only at hSw); go_simp; try with_reducible rfl))
            try simp only [Act.put, List.setIfInBounds_toArray, List.set_cons_zero, List.set_cons_succ]
            first
            | (refine wpAnyH_take (i := 12) (v := undef) (by (try simp only [List.getElem?_toArray, List.getElem?_cons_zero, List.getElem?_cons_succ]); first | done | rfl) (by kernel_rfl) (by kernel_rfl) (by kernel_rfl) (fun _ _ _ h => h) (Or.inr ⟨by rfl, rfl⟩) (by assumption) ?_)
            | (refine wpAnyH_take (i := 12) (v := ?_) (by (try simp only [List.getElem?_toArray, List.getElem?_cons_zero, List.getElem?_cons_succ]); first | done | rfl) (by kernel_rfl) (by kernel_rfl) (by kernel_rfl) (fun _ _ _ h => h) (Or.inl ⟨by rfl, ?_⟩) (by assumption) ?_
               rotate_left 1
               · (intro wz hSw; (try dsimp only at hSw); go_simp; try with_reducible rfl))
            try simp only [Act.put, List.setIfInBounds_toArray, List.set_cons_zero, List.set_cons_succ]
            first
            | (refine wpAnyH_take (i := 13) (v := undef) (by (try simp only [List.getElem?_toArray, List.getElem?_cons_zero, List.getElem?_cons_succ]); first | done | rfl) (by kernel_rfl) (by kernel_rfl) (by kernel_rfl) (fun _ _ _ h => h) (Or.inr ⟨by rfl, rfl⟩) (by assumption) ?_)
            | (refine wpAnyH_ready (rs := [13]) (by kernel_rfl) (by simp) ?_
               refine AllReadyH.cons (by (try simp only [List.getElem?_toArray, List.getElem?_cons_zero, List.getElem?_cons_succ]); first | done | rfl) (fun K hK => ?_) AllReadyH.nil
               go_simp
               refine Calls.mono (specTwoOk_any _ _ _ _ _ _ _ _ _) ?_; rw [HG.out]; rintro e w' ⟨rfl, C⟩
               refine hK.out _ _ ?_ (fun hHeld => ?_)
               · (try dsimp only)
                 first | with_reducible assumption | with_reducible exact tab_drew ‹_› | with_reducible exact tab_calm ‹_› ‹_› | with_reducible exact tab_calm ‹_› (tab_drew ‹_›)
               clear hK K)
            try simp only [Act.put, List.setIfInBounds_toArray, List.set_cons_zero, List.set_cons_succ]
            first
            | (refine wpAnyH_take (i := 14) (v := undef) (by (try simp only [List.getElem?_toArray, List.getElem?_cons_zero, List.getElem?_cons_succ]); first | done | rfl) (by kernel_rfl) (by kernel_rfl) (by kernel_rfl) (fun _ _ _ h => h) (Or.inr ⟨by rfl, rfl⟩) (by assumption) ?_)
            | (refine wpAnyH_take (i := 14) (v := ?_) (by (try simp only [List.getElem?_toArray, List.getElem?_cons_zero, List.getElem?_cons_succ]); first | done | rfl) (by kernel_rfl) (by kernel_rfl) (by kernel_rfl) (fun _ _ _ h => h) (Or.inl ⟨by rfl, ?_⟩) (by assumption) ?_
               rotate_left 1
               · (intro wz hSw; (try dsimp only at hSw); go_simp; try with_reducible rfl))
            try simp only [Act.put, List.setIfInBounds_toArray, List.set_cons_zero, List.set_cons_succ]
            first
            | (refine wpAnyH_take (i := 15) (v := undef) (by (try simp only [List.getElem?_toArray, List.getElem?_cons_zero, List.getElem?_cons_succ]); first | done | rfl) (by kernel_rfl) (by kernel_rfl) (by kernel_rfl) (fun _ _ _ h => h) (Or.inr ⟨by rfl, rfl⟩) (by assumption) ?_)
            | (refine wpAnyH_take (i := 15) (v := ?_) (by (try simp only [List.getElem?_toArray, List.getElem?_cons_zero, List.getElem?_cons_succ]); first | done | rfl) (by kernel_rfl) (by kernel_rfl) (by kernel_rfl) (fun _ _ _ h => h) (Or.inl ⟨by rfl, ?_⟩) (by assumption) ?_
               rotate_left 1
               · (intro wz hSw; (try dsimp only at hSw); go_simp; try with_reducible rfl))
            try simp only [Act.put, List.setIfInBounds_toArray, List.set_cons_zero, List.set_cons_succ]
            first
            | (refine wpAnyH_take (i := 16) (v := undef) (by (try simp only [List.getElem?_toArray, List.getElem?_cons_zero, List.getElem?_cons_succ]); first | done | rfl) (by kernel_rfl) (by kernel_rfl) (by kernel_rfl) (fun _ _ _ h => h) (Or.inr ⟨by rfl, rfl⟩) (by assumption) ?_)
            | (refine wpAnyH_take (i := 16) (v := ?_) (by (try simp only [List.getElem?_toArray, List.getElem?_cons_zero, List.getElem?_cons_succ]); first | done | rfl) (by kernel_rfl) (by kernel_rfl) (by kernel_rfl) (fun _ _ _ h => h) (Or.inl ⟨by rfl, ?_⟩) (by assumption) ?_
               rotate_left 1
               · (intro wz hSw; (try dsimp only at hSw); go_simp; try with_reducible rfl))
            try simp only [Act.put, List.setIfInBounds_toArray, List.set_cons_zero, List.set_cons_succ]
            first
            | (refine wpAnyH_take (i := 17) (v := undef) (by (try simp only [List.getElem?_toArray, List.getElem?_cons_zero, List.getElem?_cons_succ]); first | done | rfl) (by kernel_rfl) (by kernel_rfl) (by kernel_rfl) (fun _ _ _ h => h) (Or.inr ⟨by rfl, rfl⟩) (by assumption) ?_)
            | (refine wpAnyH_take (i := 17) (v := ?_) (by (try simp only [List.getElem?_toArray, List.getElem?_cons_zero, List.getElem?_cons_succ]); first | done | rfl) (by kernel_rfl) (by kernel_rfl) (by kernel_rfl) (fun _ _ _ h => h) (Or.inl ⟨by rfl, ?_⟩) (by assumption) ?_
               rotate_left 1
               · (intro wz hSw; (try dsimp only at hSw); go_simp; try with_reducible rfl))
            try simp only [Act.put, List.setIfInBounds_toArray, List.set_cons_zero, List.set_cons_succ]
            first
            | (refine wpAnyH_take (i := 18) (v := undef) (by (try simp only [List.getElem?_toArray, List.getElem?_cons_zero, List.getElem?_cons_succ]); first | done | rfl) (by kernel_rfl) (by kernel_rfl) (by kernel_rfl) (fun _ _ _ h => h) (Or.inr ⟨by rfl, rfl⟩) (by assumption) ?_)
            | (refine wpAnyH_take (i := 18) (v := ?_) (by (try simp only [List.getElem?_toArray, List.getElem?_cons_zero, List.getElem?_cons_succ]); first | done | rfl) (by kernel_rfl) (by kernel_rfl) (by kernel_rfl) (fun _ _ _ h => h) (Or.inl ⟨by rfl, ?_⟩) (by assumption) ?_
               rotate_left 1
               · (intro wz hSw; (try dsimp only at hSw); go_simp; try with_reducible rfl))
            try simp only [Act.put, List.setIfInBounds_toArray, List.set_cons_zero, List.set_cons_succ]
            first
            | (refine wpAnyH_take (i := 19) (v := undef) (by (try simp only [List.getElem?_toArray, List.getElem?_cons_zero, List.getElem?_cons_succ]); first | done | rfl) (by kernel_rfl) (by kernel_rfl) (by kernel_rfl) (fun _ _ _ h => h) (Or.inr ⟨by rfl, rfl⟩) (by assumption) ?_)
            | (refine wpAnyH_take (i := 19) (v := ?_) (by (try simp only [List.getElem?_toArray, List.getElem?_cons_zero, List.getElem?_cons_succ]); first | done | rfl) (by kernel_rfl) (by kernel_rfl) (by kernel_rfl) (fun _ _ _ h => h) (Or.inl ⟨by rfl, ?_⟩) (by assumption) ?_
               rotate_left 1
               · (intro wz hSw; (try dsimp only at hSw); go_simp; try with_reducible rfl))
            try simp only [Act.put, List.setIfInBounds_toArray, List.set_cons_zero, List.set_cons_succ]
            first
            | (refine wpAnyH_take (i := 20) (v := undef) (by (try simp only [List.getElem?_toArray, List.getElem?_cons_zero, List.getElem?_cons_succ]); first | done | rfl) (by kernel_rfl) (by kernel_rfl) (by kernel_rfl) (fun _ _ _ h => h) (Or.inr ⟨by rfl, rfl⟩) (by assumption) ?_)
            | (refine wpAnyH_take (i := 20) (v := ?_) (by (try simp only [List.getElem?_toArray, List.getElem?_cons_zero, List.getElem?_cons_succ]); first | done | rfl) (by kernel_rfl) (by kernel_rfl) (by kernel_rfl) (fun _ _ _ h => h) (Or.inl ⟨by rfl, ?_⟩) (by assumption) ?_
               rotate_left 1
               · (intro wz hSw; (try dsimp only at hSw); go_simp; try with_reducible rfl))
            try simp only [Act.put, List.setIfInBounds_toArray, List.set_cons_zero, List.set_cons_succ]
            first
            | (refine wpAnyH_take (i := 21) (v := undef) (by (try simp only [List.getElem?_toArray, List.getElem?_cons_zero, List.getElem?_cons_succ]); first | done | rfl) (by kernel_rfl) (by kernel_rfl) (by kernel_rfl) (fun _ _ _ h => h) (Or.inr ⟨by rfl, rfl⟩) (by assumption) ?_)
            | (refine wpAnyH_take (i := 21) (v := ?_) (by (try simp only [List.getElem?_toArray, List.getElem?_cons_zero, List.getElem?_cons_succ]); first | done | rfl) (by kernel_rfl) (by kernel_rfl) (by kernel_rfl) (fun _ _ _ h => h) (Or.inl ⟨by rfl, ?_⟩) (by assumption) ?_
               rotate_left 1
               · (intro wz hSw; (try dsimp only at hSw); go_simp; try with_reducible rfl))
            try simp only [Act.put, List.setIfInBounds_toArray, List.set_cons_zero, List.set_cons_succ]
            first
            | (refine wpAnyH_take (i := 22) (v := undef) (by (try simp only [List.getElem?_toArray, List.getElem?_cons_zero, List.getElem?_cons_succ]); first | done | rfl) (by kernel_rfl) (by kernel_rfl) (by kernel_rfl) (fun _ _ _ h => h) (Or.inr ⟨by rfl, rfl⟩) (by assumption) ?_)
            | (refine wpAnyH_take (i := 22) (v := ?_) (by (try simp only [List.getElem?_toArray, List.getElem?_cons_zero, List.getElem?_cons_succ]); first | done | rfl) (by kernel_rfl) (by kernel_rfl) (by kernel_rfl) (fun _ _ _ h => h) (Or.inl ⟨by rfl, ?_⟩) (by assumption) ?_
               rotate_left 1
               · (intro wz hSw; (try dsimp only at hSw); go_simp; try with_reducible rfl))
            try simp only [Act.put, List.setIfInBounds_toArray, List.set_cons_zero, List.set_cons_succ]
            first
            | (refine wpAnyH_take (i := 23) (v := undef) (by (try simp only [List.getElem?_toArray, List.getElem?_cons_zero, List.getElem?_cons_succ]); first | done | rfl) (by kernel_rfl) (by kernel_rfl) (by kernel_rfl) (fun _ _ _ h => h) (Or.inr ⟨by rfl, rfl⟩) (by assumption) ?_)
            | (refine wpAnyH_take (i := 23) (v := ?_) (by (try simp only [List.getElem?_toArray, List.getElem?_cons_zero, List.getElem?_cons_succ]); first | done | rfl) (by kernel_rfl) (by kernel_rfl) (by kernel_rfl) (fun _ _ _ h => h) (Or.inl ⟨by rfl, ?_⟩) (by assumption) ?_
               rotate_left 1
               · (intro wz hSw; (try dsimp only at hSw); go_simp; try with_reducible rfl))
            try simp only [Act.put, List.setIfInBounds_toArray, List.set_cons_zero, List.set_cons_succ]
            first
            | (refine wpAnyH_take (i := 24) (v := undef) (by (try simp only [List.getElem?_toArray, List.getElem?_cons_zero, List.getElem?_cons_succ]); first | done | rfl) (by kernel_rfl) (by kernel_rfl) (by kernel_rfl) (fun _ _ _ h => h) (Or.inr ⟨by rfl, rfl⟩) (by assumption) ?_)
            | (refine wpAnyH_take (i := 24) (v := ?_) (by (try simp only [List.getElem?_toArray, List.getElem?_cons_zero, List.getElem?_cons_succ]); first | done | rfl) (by kernel_rfl) (by kernel_rfl) (by kernel_rfl) (fun _ _ _ h => h) (Or.inl ⟨by rfl, ?_⟩) (by assumption) ?_
               rotate_left 1
               · (intro wz hSw; (try dsimp only at hSw); go_simp; try with_reducible rfl))
            try simp only [Act.put, List.setIfInBounds_toArray, List.set_cons_zero, List.set_cons_succ]
            first
            | (refine wpAnyH_take (i := 25) (v := undef) (by (try simp only [List.getElem?_toArray, List.getElem?_cons_zero, List.getElem?_cons_succ]); first | done | rfl) (by kernel_rfl) (by kernel_rfl) (by kernel_rfl) (fun _ _ _ h => h) (Or.inr ⟨by rfl, rfl⟩) (by assumption) ?_)
            | (refine wpAnyH_take (i := 25) (v := ?_) (by (try simp only [List.getElem?_toArray, List.getElem?_cons_zero, List.getElem?_cons_succ]); first | done | rfl) (by kernel_rfl) (by kernel_rfl) (by kernel_rfl) (fun _ _ _ h => h) (Or.inl ⟨by rfl, ?_⟩) (by assumption) ?_
               rotate_left 1
               · (intro wz hSw; (try dsimp only at hSw); go_simp; try with_reducible rfl))
            try simp only [Act.put, List.setIfInBounds_toArray, List.set_cons_zero, List.set_cons_succ]
            first
            | (refine wpAnyH_take (i := 26) (v := undef) (by (try simp only [List.getElem?_toArray, List.getElem?_cons_zero, List.getElem?_cons_succ]); first | done | rfl) (by kernel_rfl) (by kernel_rfl) (by kernel_rfl) (fun _ _ _ h => h) (Or.inr ⟨by rfl, rfl⟩) (by assumption) ?_)
            | (refine wpAnyH_take (i := 26) (v := ?_) (by (try simp only [List.getElem?_toArray, List.getElem?_cons_zero, List.getElem?_cons_succ]); first | done | rfl) (by kernel_rfl) (by kernel_rfl) (by kernel_rfl) (fun _ _ _ h => h) (Or.inl ⟨by rfl, ?_⟩) (by assumption) ?_
               rotate_left 1
               · (intro wz hSw; (try dsimp only at hSw); go_simp; try with_reducible rfl))
            try simp only [Act.put, List.setIfInBounds_toArray, List.set_cons_zero, List.set_cons_succ]
            first
            | (refine wpAnyH_take (i := 27) (v := undef) (by (try simp only [List.getElem?_toArray, List.getElem?_cons_zero, List.getElem?_cons_succ]); first | done | rfl) (by kernel_rfl) (by kernel_rfl) (by kernel_rfl) (fun _ _ _ h => h) (Or.inr ⟨by rfl, rfl⟩) (by assumption) ?_)
            | (refine wpAnyH_take (i := 27) (v := ?_) (by (try simp only [List.getElem?_toArray, List.getElem?_cons_zero, List.getElem?_cons_succ]); first | done | rfl) (by kernel_rfl) (by kernel_rfl) (by kernel_rfl) (fun _ _ _ h => h) (Or.inl ⟨by rfl, ?_⟩) (by assumption) ?_
               rotate_left 1
               · (intro wz hSw; (try dsimp only at hSw); go_simp; try with_reducible rfl))
            try simp only [Act.put, List.setIfInBounds_toArray, List.set_cons_zero, List.set_cons_succ]
            first
            | (refine wpAnyH_take (i := 28) (v := undef) (by (try simp only [List.getElem?_toArray, List.getElem?_cons_zero, List.getElem?_cons_succ]); first | done | rfl) (by kernel_rfl) (by kernel_rfl) (by kernel_rfl) (fun _ _ _ h => h) (Or.inr ⟨by rfl, rfl⟩) (by assumption) ?_)
            | (refine wpAnyH_take (i := 28) (v := ?_) (by (try simp only [List.getElem?_toArray, List.getElem?_cons_zero, List.getElem?_cons_succ]); first | done | rfl) (by kernel_rfl) (by kernel_rfl) (by kernel_rfl) (fun _ _ _ h => h) (Or.inl ⟨by rfl, ?_⟩) (by assumption) ?_
               rotate_left 1
               · (intro wz hSw; (try dsimp only at hSw); go_simp; try with_reducible rfl))
            try simp only [Act.put, List.setIfInBounds_toArray, List.set_cons_zero, List.set_cons_succ]
            first
            | (refine wpAnyH_take (i := 29) (v := undef) (by (try simp only [List.getElem?_toArray, List.getElem?_cons_zero, List.getElem?_cons_succ]); first | done | rfl) (by kernel_rfl) (by kernel_rfl) (by kernel_rfl) (fun _ _ _ h => h) (Or.inr ⟨by rfl, rfl⟩) (by assumption) ?_)
            | (refine wpAnyH_take (i := 29) (v := ?_) (by (try simp only [List.getElem?_toArray, List.getElem?_cons_zero, List.getElem?_cons_succ]); first | done | rfl) (by kernel_rfl) (by kernel_rfl) (by kernel_rfl) (fun _ _ _ h => h) (Or.inl ⟨by rfl, ?_⟩) (by assumption) ?_
               rotate_left 1
               · (intro wz hSw; (try dsimp only at hSw); go_simp; try with_reducible rfl))
            try simp only [Act.put, List.setIfInBounds_toArray, List.set_cons_zero, List.set_cons_succ]
            first
            | (refine wpAnyH_take (i := 30) (v := undef) (by (try simp only [List.getElem?_toArray, List.getElem?_cons_zero, List.getElem?_cons_succ]); first | done | rfl) (by kernel_rfl) (by kernel_rfl) (by kernel_rfl) (fun _ _ _ h => h) (Or.inr ⟨by rfl, rfl⟩) (by assumption) ?_)
            | (refine wpAnyH_take (i := 30) (v := ?_) (by (try simp only [List.getElem?_toArray, List.getElem?_cons_zero, List.getElem?_cons_succ]); first | done | rfl) (by kernel_rfl) (by kernel_rfl) (by kernel_rfl) (fun _ _ _ h => h) (Or.inl ⟨by rfl, ?_⟩) (by assumption) ?_
               rotate_left 1
               · (intro wz hSw; (try dsimp only at hSw); go_simp; try with_reducible rfl))
            try simp only [Act.put, List.setIfInBounds_toArray, List.set_cons_zero, List.set_cons_succ]
            first
            | (refine wpAnyH_take (i := 31) (v := undef) (by (try simp only [List.getElem?_toArray, List.getElem?_cons_zero, List.getElem?_cons_succ]); first | done | rfl) (by kernel_rfl) (by kernel_rfl) (by kernel_rfl) (fun _ _ _ h => h) (Or.inr ⟨by rfl, rfl⟩) (by assumption) ?_)
            | (refine wpAnyH_take (i := 31) (v := ?_) (by (try simp only [List.getElem?_toArray, List.getElem?_cons_zero, List.getElem?_cons_succ]); first | done | rfl) (by kernel_rfl) (by kernel_rfl) (by kernel_rfl) (fun _ _ _ h => h) (Or.inl ⟨by rfl, ?_⟩) (by assumption) ?_
               rotate_left 1
               · (intro wz hSw; (try dsimp only at hSw); go_simp; try with_reducible rfl))
            try simp only [Act.put, List.setIfInBounds_toArray, List.set_cons_zero, List.set_cons_succ]
            first
            | (refine wpAnyH_take (i := 32) (v := undef) (by (try simp only [List.getElem?_toArray, List.getElem?_cons_zero, List.getElem?_cons_succ]); first | done | rfl) (by kernel_rfl) (by kernel_rfl) (by kernel_rfl) (fun _ _ _ h => h) (Or.inr ⟨by rfl, rfl⟩) (by assumption) ?_)
            | (refine wpAnyH_take (i := 32) (v := ?_) (by (try simp only [List.getElem?_toArray, List.getElem?_cons_zero, List.getElem?_cons_succ]); first | done | rfl) (by kernel_rfl) (by kernel_rfl) (by kernel_rfl) (fun _ _ _ h => h) (Or.inl ⟨by rfl, ?_⟩) (by assumption) ?_
               rotate_left 1
               · (intro wz hSw; (try dsimp only at hSw); go_simp; try with_reducible rfl))
            try simp only [Act.put, List.setIfInBounds_toArray, List.set_cons_zero, List.set_cons_succ]
            first
            | (refine wpAnyH_take (i := 33) (v := undef) (by (try simp only [List.getElem?_toArray, List.getElem?_cons_zero, List.getElem?_cons_succ]); first | done | rfl) (by kernel_rfl) (by kernel_rfl) (by kernel_rfl) (fun _ _ _ h => h) (Or.inr ⟨by rfl, rfl⟩) (by assumption) ?_)
            | (refine wpAnyH_take (i := 33) (v := ?_) (by (try simp only [List.getElem?_toArray, List.getElem?_cons_zero, List.getElem?_cons_succ]); first | done | rfl) (by kernel_rfl) (by kernel_rfl) (by kernel_rfl) (fun _ _ _ h => h) (Or.inl ⟨by rfl, ?_⟩) (by assumption) ?_
               rotate_left 1
               · (intro wz hSw; (try dsimp only at hSw); go_simp; try with_reducible rfl))
            try simp only [Act.put, List.setIfInBounds_toArray, List.set_cons_zero, List.set_cons_succ]
            refine wpAnyH_done (by kernel_rfl) ?_ _
            refine NoPanic.normal ?_
            have hL := tab_done ‹_›
            go_wp2_with fail
            exact ⟨⟨1, by omega, by go_num, HN.out, hL⟩, by simp [intOf]; omega⟩
          · have hq' := HQ.out.resolve_left hn0
            have ej : IntKind.i64.wrap ((n : Int) - 1) = ((n - 1 : Nat) : Int) := by rw [IntWalk.i64_in _ (by omega)]; omega
            have ei : ((n - 1 : Nat) : Int) < (rs.length : Int) := by omega
            have hp1 : decide (0 < n) = true := by simp; omega
            cases haf : decide (q < r.f)
            · have hle : r.f ≤ q := by simpa using haf
              have hp2 : decide (r.f ≤ q) = true := by simpa using haf
              have HX : Hid (tabB rs = false) := Lib.hid (by unfold tabB; rw [HT.out, hq', hfq, hfin, show afterB (some q) r.f = decide (q < r.f) from rfl, haf]; rfl)
              clear hfq hfin haf
              go_wp2_with fail
              refine wp_region_noPanic ?_
              refine wp_region_held_drew (S := fun w' => w'.cell? ⟨g, n * 5, none⟩ = some (.int .i64 r.f) ∧ w'.cell? ⟨g, n * 5 + 1, none⟩ = some (.complex .f32 r.m.a r.m.b) ∧ w'.cell? ⟨g, n * 5 + 2, none⟩ = some (.complex .f32 r.m.c r.m.d) ∧ w'.cell? ⟨g, n * 5 + 3, none⟩ = some (.complex .f32 r.m.e r.m.f) ∧ w'.cell? ⟨g, n * 5 + 4, none⟩ = some (.complex .f32 r.m.g r.m.h) ∧ w'.cell? ⟨g, (n - 1) * 5, none⟩ = some (.int .i64 q) ∧ Calm w w') (by kernel_rfl) ?_ (fun hHeld => ?_)
              · (try dsimp only)
                first | with_reducible assumption | with_reducible exact tab_drew ‹_› | with_reducible exact tab_calm ‹_› ‹_› | with_reducible exact tab_calm ‹_› (tab_drew ‹_›)
              first
              | (refine wpAnyH_take (i := 0) (v := undef) (by (try simp only [List.getElem?_toArray, List.getElem?_cons_zero]); first | done | rfl) (by kernel_rfl) (by kernel_rfl) (by kernel_rfl) (fun _ _ _ h => h) (Or.inr ⟨by rfl, rfl⟩) (by assumption) ?_)
              | (refine wpAnyH_take (i := 0) (v := ?_) (by (try simp only [List.getElem?_toArray, List.getElem?_cons_zero]); first | done | rfl) (by kernel_rfl) (by kernel_rfl) (by kernel_rfl) (fun _ _ _ h => h) (Or.inl ⟨by rfl, ?_⟩) (by assumption) ?_
                 rotate_left 1
                 · (intro wz hSw; (try dsimp only at hSw); go_simp; try with_reducible rfl))
              try simp only [Act.put, List.setIfInBounds_toArray, List.set_cons_zero, List.set_cons_succ]
              first
              | (refine wpAnyH_take (i := 1) (v := undef) (by (try simp only [List.getElem?_toArray, List.getElem?_cons_zero, List.getElem?_cons_succ]); first | done | rfl) (by kernel_rfl) (by kernel_rfl) (by kernel_rfl) (fun _ _ _ h => h) (Or.inr ⟨by rfl, rfl⟩) (by assumption) ?_)
              | (refine wpAnyH_take (i := 1) (v := ?_) (by (try simp only [List.getElem?_toArray, List.getElem?_cons_zero, List.getElem?_cons_succ]); first | done | rfl) (by kernel_rfl) (by kernel_rfl) (by kernel_rfl) (fun _ _ _ h => h) (Or.inl ⟨by rfl, ?_⟩) (by assumption) ?_
                 rotate_left 1
                 · (intro wz hSw; (try dsimp only at hSw); go_simp; try with_reducible rfl))
              try simp only [Act.put, List.setIfInBounds_toArray, List.set_cons_zero, List.set_cons_succ]
              first
              | (refine wpAnyH_take (i := 2) (v := undef) (by (try simp only [List.getElem?_toArray, List.getElem?_cons_zero, List.getElem?_cons_succ]); first | done | rfl) (by kernel_rfl) (by kernel_rfl) (by kernel_rfl) (fun _ _ _ h => h) (Or.inr ⟨by rfl, rfl⟩) (by assumption) ?_)
              | (refine wpAnyH_take (i := 2) (v := ?_) (by (try simp only [List.getElem?_toArray, List.getElem?_cons_zero, List.getElem?_cons_succ]); first | done | rfl) (by kernel_rfl) (by kernel_rfl) (by kernel_rfl) (fun _ _ _ h => h) (Or.inl ⟨by rfl, ?_⟩) (by assumption) ?_
                 rotate_left 1
                 · (intro wz hSw; (try dsimp only at hSw); go_simp; try with_reducible rfl))
              try simp only [Act.put, List.setIfInBounds_toArray, List.set_cons_zero, List.set_cons_succ]
              first
              | (refine wpAnyH_take (i := 3) (v := undef) (by (try simp only [List.getElem?_toArray, List.getElem?_cons_zero, List.getElem?_cons_succ]); first | done | rfl) (by kernel_rfl) (by kernel_rfl) (by kernel_rfl) (fun _ _ _ h => h) (Or.inr ⟨by rfl, rfl⟩) (by assumption) ?_)
              | (refine wpAnyH_take (i := 3) (v := ?_) (by (try simp only [List.getElem?_toArray, List.getElem?_cons_zero, List.getElem?_cons_succ]); first | done | rfl) (by kernel_rfl) (by kernel_rfl) (by kernel_rfl) (fun _ _ _ h => h) (Or.inl ⟨by rfl, ?_⟩) (by assumption) ?_
                 rotate_left 1
                 · (intro wz hSw; (try dsimp only at hSw); go_simp; try with_reducible rfl))
              try simp only [Act.put, List.setIfInBounds_toArray, List.set_cons_zero, List.set_cons_succ]
              first
              | (refine wpAnyH_take (i := 4) (v := undef) (by (try simp only [List.getElem?_toArray, List.getElem?_cons_zero, List.getElem?_cons_succ]); first | done | rfl) (by kernel_rfl) (by kernel_rfl) (by kernel_rfl) (fun _ _ _ h => h) (Or.inr ⟨by rfl, rfl⟩) (by assumption) ?_)
              | (refine wpAnyH_take (i := 4) (v := ?_) (by (try simp only [List.getElem?_toArray, List.getElem?_cons_zero, List.getElem?_cons_succ]); first | done | rfl) (by kernel_rfl) (by kernel_rfl) (by kernel_rfl) (fun _ _ _ h => h) (Or.inl ⟨by rfl, ?_⟩) (by assumption) ?_
                 rotate_left 1
                 · (intro wz hSw; (try dsimp only at hSw); go_simp; try with_reducible rfl))
              try simp only [Act.put, List.setIfInBounds_toArray, List.set_cons_zero, List.set_cons_succ]
              first
              | (refine wpAnyH_take (i := 5) (v := undef) (by (try simp only [List.getElem?_toArray, List.getElem?_cons_zero, List.getElem?_cons_succ]); first | done | rfl) (by kernel_rfl) (by kernel_rfl) (by kernel_rfl) (fun _ _ _ h => h) (Or.inr ⟨by rfl, rfl⟩) (by assumption) ?_)
              | (refine wpAnyH_ready (rs := [5]) (by kernel_rfl) (by simp) ?_
                 refine AllReadyH.cons (by (try simp only [List.getElem?_toArray, List.getElem?_cons_zero, List.getElem?_cons_succ]); first | done | rfl) (fun K hK => ?_) AllReadyH.nil
                 go_simp
                 refine Calls.mono (l1In_any _ _ _ _) ?_; rw [HF.out]; rintro e w' ⟨rfl, rfl⟩
                 refine hK.out _ _ ?_ (fun hHeld => ?_)
                 · (try dsimp only)
                   first | with_reducible assumption | with_reducible exact tab_drew ‹_› | with_reducible exact tab_calm ‹_› ‹_› | with_reducible exact tab_calm ‹_› (tab_drew ‹_›)
                 clear hK K)
              try simp only [Act.put, List.setIfInBounds_toArray, List.set_cons_zero, List.set_cons_succ]
              first
              | (refine wpAnyH_take (i := 6) (v := undef) (by (try simp only [List.getElem?_toArray, List.getElem?_cons_zero, List.getElem?_cons_succ]); first | done | rfl) (by kernel_rfl) (by kernel_rfl) (by kernel_rfl) (fun _ _ _ h => h) (Or.inr ⟨by rfl, rfl⟩) (by assumption) ?_)
              | (refine wpAnyH_take (i := 6) (v := ?_) (by (try simp only [List.getElem?_toArray, List.getElem?_cons_zero, List.getElem?_cons_succ]); first | done | rfl) (by kernel_rfl) (by kernel_rfl) (by kernel_rfl) (fun _ _ _ h => h) (Or.inl ⟨by rfl, ?_⟩) (by assumption) ?_
                 rotate_left 1
                 · (intro wz hSw; (try dsimp only at hSw); go_simp; try with_reducible rfl))
              try simp only [Act.put, List.setIfInBounds_toArray, List.set_cons_zero, List.set_cons_succ]
              first
              | (refine wpAnyH_take (i := 7) (v := undef) (by (try simp only [List.getElem?_toArray, List.getElem?_cons_zero, List.getElem?_cons_succ]); first | done | rfl) (by kernel_rfl) (by kernel_rfl) (by kernel_rfl) (fun _ _ _ h => h) (Or.inr ⟨by rfl, rfl⟩) (by assumption) ?_)
              | (refine wpAnyH_take (i := 7) (v := ?_) (by (try simp only [List.getElem?_toArray, List.getElem?_cons_zero, List.getElem?_cons_succ]); first | done | rfl) (by kernel_rfl) (by kernel_rfl) (by kernel_rfl) (fun _ _ _ h => h) (Or.inl ⟨by rfl, ?_⟩) (by assumption) ?_
                 rotate_left 1
                 · (intro wz hSw; (try dsimp only at hSw); go_simp; try with_reducible rfl))
              try simp only [Act.put, List.setIfInBounds_toArray, List.set_cons_zero, List.set_cons_succ]
              first
              | (refine wpAnyH_take (i := 8) (v := undef) (by (try simp only [List.getElem?_toArray, List.getElem?_cons_zero, List.getElem?_cons_succ]); first | done | rfl) (by kernel_rfl) (by kernel_rfl) (by kernel_rfl) (fun _ _ _ h => h) (Or.inr ⟨by rfl, rfl⟩) (by assumption) ?_)
              | (refine wpAnyH_take (i := 8) (v := ?_) (by (try simp only [List.getElem?_toArray, List.getElem?_cons_zero, List.getElem?_cons_succ]); first | done | rfl) (by kernel_rfl) (by kernel_rfl) (by kernel_rfl) (fun _ _ _ h => h) (Or.inl ⟨by rfl, ?_⟩) (by assumption) ?_
                 rotate_left 1
                 · (intro wz hSw; (try dsimp only at hSw); go_simp; try with_reducible rfl))
              try simp only [Act.put, List.setIfInBounds_toArray, List.set_cons_zero, List.set_cons_succ]
              first
              | (refine wpAnyH_take (i := 9) (v := undef) (by (try simp only [List.getElem?_toArray, List.getElem?_cons_zero, List.getElem?_cons_succ]); first | done | rfl) (by kernel_rfl) (by kernel_rfl) (by kernel_rfl) (fun _ _ _ h => h) (Or.inr ⟨by rfl, rfl⟩) (by assumption) ?_)
              | (refine wpAnyH_take (i := 9) (v := ?_) (by (try simp only [List.getElem?_toArray, List.getElem?_cons_zero, List.getElem?_cons_succ]); first | done | rfl) (by kernel_rfl) (by kernel_rfl) (by kernel_rfl) (fun _ _ _ h => h) (Or.inl ⟨by rfl, ?_⟩) (by assumption) ?_
                 rotate_left 1
                 · (intro wz hSw; (try dsimp only at hSw); go_simp; try with_reducible rfl))
              try simp only [Act.put, List.setIfInBounds_toArray, List.set_cons_zero, List.set_cons_succ]
              first
              | (refine wpAnyH_take (i := 10) (v := undef) (by (try simp only [List.getElem?_toArray, List.getElem?_cons_zero, List.getElem?_cons_succ]); first | done | rfl) (by kernel_rfl) (by kernel_rfl) (by kernel_rfl) (fun _ _ _ h => h) (Or.inr ⟨by rfl, rfl⟩) (by assumption) ?_)
              | (refine wpAnyH_take (i := 10) (v := ?_) (by (try simp only [List.getElem?_toArray, List.getElem?_cons_zero, List.getElem?_cons_succ]); first | done | rfl) (by kernel_rfl) (by kernel_rfl) (by kernel_rfl) (fun _ _ _ h => h) (Or.inl ⟨by rfl, ?_⟩) (by assumption) ?_
                 rotate_left 1
                 · (intro wz hSw; (try dsimp only at hSw); go_simp; try with_reducible rfl))
              try simp only [Act.put, List.setIfInBounds_toArray, List.set_cons_zero, List.set_cons_succ]
              first
              | (refine wpAnyH_take (i := 11) (v := undef) (by (try simp only [List.getElem?_toArray, List.getElem?_cons_zero, List.getElem?_cons_succ]); first | done | rfl) (by kernel_rfl) (by kernel_rfl) (by kernel_rfl) (fun _ _ _ h => h) (Or.inr ⟨by rfl, rfl⟩) (by assumption) ?_)
              | (refine wpAnyH_take (i := 11) (v := ?_) (by (try simp only [List.getElem?_toArray, List.getElem?_cons_zero, List.getElem?_cons_succ]); first | done | rfl) (by kernel_rfl) (by kernel_rfl) (by kernel_rfl) (fun _ _ _ h => h) (Or.inl ⟨by rfl, ?_⟩) (by assumption) ?_
                 rotate_left 1
                 · (intro wz hSw; (try dsimp only at hSw); go_simp; try with_reducible rfl))
              try simp only [Act.put, List.setIfInBounds_toArray, List.set_cons_zero, List.set_cons_succ]
              first
              | (refine wpAnyH_take (i := 12) (v := undef) (by (try simp only [List.getElem?_toArray, List.getElem?_cons_zero, List.getElem?_cons_succ]); first | done | rfl) (by kernel_rfl) (by kernel_rfl) (by kernel_rfl) (fun _ _ _ h => h) (Or.inr ⟨by rfl, rfl⟩) (by assumption) ?_)
              | (refine wpAnyH_take (i := 12) (v := ?_) (by (try simp only [List.getElem?_toArray, List.getElem?_cons_zero, List.getElem?_cons_succ]); first | done | rfl) (by kernel_rfl) (by kernel_rfl) (by kernel_rfl) (fun _ _ _ h => h) (Or.inl ⟨by rfl, ?_⟩) (by assumption) ?_
                 rotate_left 1
                 · (intro wz hSw; (try dsimp only at hSw); go_simp; try with_reducible rfl))
              try simp only [Act.put, List.setIfInBounds_toArray, List.set_cons_zero, List.set_cons_succ]
              first
              | (refine wpAnyH_take (i := 13) (v := undef) (by (try simp only [List.getElem?_toArray, List.getElem?_cons_zero, List.getElem?_cons_succ]); first | done | rfl) (by kernel_rfl) (by kernel_rfl) (by kernel_rfl) (fun _ _ _ h => h) (Or.inr ⟨by rfl, rfl⟩) (by assumption) ?_)
              | (refine wpAnyH_ready (rs := [13]) (by kernel_rfl) (by simp) ?_
                 refine AllReadyH.cons (by (try simp only [List.getElem?_toArray, List.getElem?_cons_zero, List.getElem?_cons_succ]); first | done | rfl) (fun K hK => ?_) AllReadyH.nil
                 go_simp
                 refine Calls.mono (specTwoOk_any _ _ _ _ _ _ _ _ _) ?_; rw [HG.out]; rintro e w' ⟨rfl, C⟩
                 refine hK.out _ _ ?_ (fun hHeld => ?_)
                 · (try dsimp only)
                   first | with_reducible assumption | with_reducible exact tab_drew ‹_› | with_reducible exact tab_calm ‹_› ‹_› | with_reducible exact tab_calm ‹_› (tab_drew ‹_›)
                 clear hK K)
              try simp only [Act.put, List.setIfInBounds_toArray, List.set_cons_zero, List.set_cons_succ]
              first
              | (refine wpAnyH_take (i := 14) (v := undef) (by (try simp only [List.getElem?_toArray, List.getElem?_cons_zero, List.getElem?_cons_succ]); first | done | rfl) (by kernel_rfl) (by kernel_rfl) (by kernel_rfl) (fun _ _ _ h => h) (Or.inr ⟨by rfl, rfl⟩) (by assumption) ?_)
              | (refine wpAnyH_take (i := 14) (v := ?_) (by (try simp only [List.getElem?_toArray, List.getElem?_cons_zero, List.getElem?_cons_succ]); first | done | rfl) (by kernel_rfl) (by kernel_rfl) (by kernel_rfl) (fun _ _ _ h => h) (Or.inl ⟨by rfl, ?_⟩) (by assumption) ?_
                 rotate_left 1
                 · (intro wz hSw; (try dsimp only at hSw); go_simp; try with_reducible rfl))
              try simp only [Act.put, List.setIfInBounds_toArray, List.set_cons_zero, List.set_cons_succ]
              first
              | (refine wpAnyH_take (i := 15) (v := undef) (by (try simp only [List.getElem?_toArray, List.getElem?_cons_zero, List.getElem?_cons_succ]); first | done | rfl) (by kernel_rfl) (by kernel_rfl) (by kernel_rfl) (fun _ _ _ h => h) (Or.inr ⟨by rfl, rfl⟩) (by assumption) ?_)
              | (refine wpAnyH_take (i := 15) (v := ?_) (by (try simp only [List.getElem?_toArray, List.getElem?_cons_zero, List.getElem?_cons_succ]); first | done | rfl) (by kernel_rfl) (by kernel_rfl) (by kernel_rfl) (fun _ _ _ h => h) (Or.inl ⟨by rfl, ?_⟩) (by assumption) ?_
                 rotate_left 1
                 · (intro wz hSw; (try dsimp only at hSw); go_simp; try with_reducible rfl))
              try simp only [Act.put, List.setIfInBounds_toArray, List.set_cons_zero, List.set_cons_succ]
              first
              | (refine wpAnyH_take (i := 16) (v := undef) (by (try simp only [List.getElem?_toArray, List.getElem?_cons_zero, List.getElem?_cons_succ]); first | done | rfl) (by kernel_rfl) (by kernel_rfl) (by kernel_rfl) (fun _ _ _ h => h) (Or.inr ⟨by rfl, rfl⟩) (by assumption) ?_)
              | (refine wpAnyH_take (i := 16) (v := ?_) (by (try simp only [List.getElem?_toArray, List.getElem?_cons_zero, List.getElem?_cons_succ]); first | done | rfl) (by kernel_rfl) (by kernel_rfl) (by kernel_rfl) (fun _ _ _ h => h) (Or.inl ⟨by rfl, ?_⟩) (by assumption) ?_
                 rotate_left 1
                 · (intro wz hSw; (try dsimp only at hSw); go_simp; try with_reducible rfl))
              try simp only [Act.put, List.setIfInBounds_toArray, List.set_cons_zero, List.set_cons_succ]
              first
              | (refine wpAnyH_take (i := 17) (v := undef) (by (try simp only [List.getElem?_toArray, List.getElem?_cons_zero, List.getElem?_cons_succ]); first | done | rfl) (by kernel_rfl) (by kernel_rfl) (by kernel_rfl) (fun _ _ _ h => h) (Or.inr ⟨by rfl, rfl⟩) (by assumption) ?_)
              | (refine wpAnyH_take (i := 17) (v := ?_) (by (try simp only [List.getElem?_toArray, List.getElem?_cons_zero, List.getElem?_cons_succ]); first | done | rfl) (by kernel_rfl) (by kernel_rfl) (by kernel_rfl) (fun _ _ _ h => h) (Or.inl ⟨by rfl, ?_⟩) (by assumption) ?_
                 rotate_left 1
                 · (intro wz hSw; (try dsimp only at hSw); go_simp; try with_reducible rfl))
              try simp only [Act.put, List.setIfInBounds_toArray, List.set_cons_zero, List.set_cons_succ]
              first
              | (refine wpAnyH_take (i := 18) (v := undef) (by (try simp only [List.getElem?_toArray, List.getElem?_cons_zero, List.getElem?_cons_succ]); first | done | rfl) (by kernel_rfl) (by kernel_rfl) (by kernel_rfl) (fun _ _ _ h => h) (Or.inr ⟨by rfl, rfl⟩) (by assumption) ?_)
              | (refine wpAnyH_take (i := 18) (v := ?_) (by (try simp only [List.getElem?_toArray, List.getElem?_cons_zero, List.getElem?_cons_succ]); first | done | rfl) (by kernel_rfl) (by kernel_rfl) (by kernel_rfl) (fun _ _ _ h => h) (Or.inl ⟨by rfl, ?_⟩) (by assumption) ?_
                 rotate_left 1
                 · (intro wz hSw; (try dsimp only at hSw); go_simp; try with_reducible rfl))
              try simp only [Act.put, List.setIfInBounds_toArray, List.set_cons_zero, List.set_cons_succ]
              first
              | (refine wpAnyH_take (i := 19) (v := undef) (by (try simp only [List.getElem?_toArray, List.getElem?_cons_zero, List.getElem?_cons_succ]); first | done | rfl) (by kernel_rfl) (by kernel_rfl) (by kernel_rfl) (fun _ _ _ h => h) (Or.inr ⟨by rfl, rfl⟩) (by assumption) ?_)
              | (refine wpAnyH_take (i := 19) (v := ?_) (by (try simp only [List.getElem?_toArray, List.getElem?_cons_zero, List.getElem?_cons_succ]); first | done | rfl) (by kernel_rfl) (by kernel_rfl) (by kernel_rfl) (fun _ _ _ h => h) (Or.inl ⟨by rfl, ?_⟩) (by assumption) ?_
                 rotate_left 1
                 · (intro wz hSw; (try dsimp only at hSw); go_simp; try with_reducible rfl))
              try simp only [Act.put, List.setIfInBounds_toArray, List.set_cons_zero, List.set_cons_succ]
              first
              | (refine wpAnyH_take (i := 20) (v := undef) (by (try simp only [List.getElem?_toArray, List.getElem?_cons_zero, List.getElem?_cons_succ]); first | done | rfl) (by kernel_rfl) (by kernel_rfl) (by kernel_rfl) (fun _ _ _ h => h) (Or.inr ⟨by rfl, rfl⟩) (by assumption) ?_)
              | (refine wpAnyH_take (i := 20) (v := ?_) (by (try simp only [List.getElem?_toArray, List.getElem?_cons_zero, List.getElem?_cons_succ]); first | done | rfl) (by kernel_rfl) (by kernel_rfl) (by kernel_rfl) (fun _ _ _ h => h) (Or.inl ⟨by rfl, ?_⟩) (by assumption) ?_
                 rotate_left 1
                 · (intro wz hSw; (try dsimp only at hSw); go_simp; try with_reducible rfl))
              try simp only [Act.put, List.setIfInBounds_toArray, List.set_cons_zero, List.set_cons_succ]
              first
              | (refine wpAnyH_take (i := 21) (v := undef) (by (try simp only [List.getElem?_toArray, List.getElem?_cons_zero, List.getElem?_cons_succ]); first | done | rfl) (by kernel_rfl) (by kernel_rfl) (by kernel_rfl) (fun _ _ _ h => h) (Or.inr ⟨by rfl, rfl⟩) (by assumption) ?_)
              | (refine wpAnyH_take (i := 21) (v := ?_) (by (try simp only [List.getElem?_toArray, List.getElem?_cons_zero, List.getElem?_cons_succ]); first | done | rfl) (by kernel_rfl) (by kernel_rfl) (by kernel_rfl) (fun _ _ _ h => h) (Or.inl ⟨by rfl, ?_⟩) (by assumption) ?_
                 rotate_left 1
                 · (intro wz hSw; (try dsimp only at hSw); go_simp; try with_reducible rfl))
              try simp only [Act.put, List.setIfInBounds_toArray, List.set_cons_zero, List.set_cons_succ]
              first
              | (refine wpAnyH_take (i := 22) (v := undef) (by (try simp only [List.getElem?_toArray, List.getElem?_cons_zero, List.getElem?_cons_succ]); first | done | rfl) (by kernel_rfl) (by kernel_rfl) (by kernel_rfl) (fun _ _ _ h => h) (Or.inr ⟨by rfl, rfl⟩) (by assumption) ?_)
              | (refine wpAnyH_take (i := 22) (v := ?_) (by (try simp only [List.getElem?_toArray, List.getElem?_cons_zero, List.getElem?_cons_succ]); first | done | rfl) (by kernel_rfl) (by kernel_rfl) (by kernel_rfl) (fun _ _ _ h => h) (Or.inl ⟨by rfl, ?_⟩) (by assumption) ?_
                 rotate_left 1
                 · (intro wz hSw; (try dsimp only at hSw); go_simp; try with_reducible rfl))
              try simp only [Act.put, List.setIfInBounds_toArray, List.set_cons_zero, List.set_cons_succ]
              first
              | (refine wpAnyH_take (i := 23) (v := undef) (by (try simp only [List.getElem?_toArray, List.getElem?_cons_zero, List.getElem?_cons_succ]); first | done | rfl) (by kernel_rfl) (by kernel_rfl) (by kernel_rfl) (fun _ _ _ h => h) (Or.inr ⟨by rfl, rfl⟩) (by assumption) ?_)
              | (refine wpAnyH_take (i := 23) (v := ?_) (by (try simp only [List.getElem?_toArray, List.getElem?_cons_zero, List.getElem?_cons_succ]); first | done | rfl) (by kernel_rfl) (by kernel_rfl) (by kernel_rfl) (fun _ _ _ h => h) (Or.inl ⟨by rfl, ?_⟩) (by assumption) ?_
                 rotate_left 1
                 · (intro wz hSw; (try dsimp only at hSw); go_simp; try with_reducible rfl))
              try simp only [Act.put, List.setIfInBounds_toArray, List.set_cons_zero, List.set_cons_succ]
              first
              | (refine wpAnyH_take (i := 24) (v := undef) (by (try simp only [List.getElem?_toArray, List.getElem?_cons_zero, List.getElem?_cons_succ]); first | done | rfl) (by kernel_rfl) (by kernel_rfl) (by kernel_rfl) (fun _ _ _ h => h) (Or.inr ⟨by rfl, rfl⟩) (by assumption) ?_)
              | (refine wpAnyH_take (i := 24) (v := ?_) (by (try simp only [List.getElem?_toArray, List.getElem?_cons_zero, List.getElem?_cons_succ]); first | done | rfl) (by kernel_rfl) (by kernel_rfl) (by kernel_rfl) (fun _ _ _ h => h) (Or.inl ⟨by rfl, ?_⟩) (by assumption) ?_
                 rotate_left 1
                 · (intro wz hSw; (try dsimp only at hSw); go_simp; try with_reducible rfl))
              try simp only [Act.put, List.setIfInBounds_toArray, List.set_cons_zero, List.set_cons_succ]
              first
              | (refine wpAnyH_take (i := 25) (v := undef) (by (try simp only [List.getElem?_toArray, List.getElem?_cons_zero, List.getElem?_cons_succ]); first | done | rfl) (by kernel_rfl) (by kernel_rfl) (by kernel_rfl) (fun _ _ _ h => h) (Or.inr ⟨by rfl, rfl⟩) (by assumption) ?_)
              | (refine wpAnyH_take (i := 25) (v := ?_) (by (try simp only [List.getElem?_toArray, List.getElem?_cons_zero, List.getElem?_cons_succ]); first | done | rfl) (by kernel_rfl) (by kernel_rfl) (by kernel_rfl) (fun _ _ _ h => h) (Or.inl ⟨by rfl, ?_⟩) (by assumption) ?_
                 rotate_left 1
                 · (intro wz hSw; (try dsimp only at hSw); go_simp; try with_reducible rfl))
              try simp only [Act.put, List.setIfInBounds_toArray, List.set_cons_zero, List.set_cons_succ]
              first
              | (refine wpAnyH_take (i := 26) (v := undef) (by (try simp only [List.getElem?_toArray, List.getElem?_cons_zero, List.getElem?_cons_succ]); first | done | rfl) (by kernel_rfl) (by kernel_rfl) (by kernel_rfl) (fun _ _ _ h => h) (Or.inr ⟨by rfl, rfl⟩) (by assumption) ?_)
              | (refine wpAnyH_take (i := 26) (v := ?_) (by (try simp only [List.getElem?_toArray, List.getElem?_cons_zero, List.getElem?_cons_succ]); first | done | rfl) (by kernel_rfl) (by kernel_rfl) (by kernel_rfl) (fun _ _ _ h => h) (Or.inl ⟨by rfl, ?_⟩) (by assumption) ?_
                 rotate_left 1
                 · (intro wz hSw; (try dsimp only at hSw); go_simp; try with_reducible rfl))
              try simp only [Act.put, List.setIfInBounds_toArray, List.set_cons_zero, List.set_cons_succ]
              first
              | (refine wpAnyH_take (i := 27) (v := undef) (by (try simp only [List.getElem?_toArray, List.getElem?_cons_zero, List.getElem?_cons_succ]); first | done | rfl) (by kernel_rfl) (by kernel_rfl) (by kernel_rfl) (fun _ _ _ h => h) (Or.inr ⟨by rfl, rfl⟩) (by assumption) ?_)
              | (refine wpAnyH_take (i := 27) (v := ?_) (by (try simp only [List.getElem?_toArray, List.getElem?_cons_zero, List.getElem?_cons_succ]); first | done | rfl) (by kernel_rfl) (by kernel_rfl) (by kernel_rfl) (fun _ _ _ h => h) (Or.inl ⟨by rfl, ?_⟩) (by assumption) ?_
                 rotate_left 1
                 · (intro wz hSw; (try dsimp only at hSw); go_simp; try with_reducible rfl))
              try simp only [Act.put, List.setIfInBounds_toArray, List.set_cons_zero, List.set_cons_succ]
              first
              | (refine wpAnyH_take (i := 28) (v := undef) (by (try simp only [List.getElem?_toArray, List.getElem?_cons_zero, List.getElem?_cons_succ]); first | done | rfl) (by kernel_rfl) (by kernel_rfl) (by kernel_rfl) (fun _ _ _ h => h) (Or.inr ⟨by rfl, rfl⟩) (by assumption) ?_)
              | (refine wpAnyH_take (i := 28) (v := ?_) (by (try simp only [List.getElem?_toArray, List.getElem?_cons_zero, List.getElem?_cons_succ]); first | done | rfl) (by kernel_rfl) (by kernel_rfl) (by kernel_rfl) (fun _ _ _ h => h) (Or.inl ⟨by rfl, ?_⟩) (by assumption) ?_
                 rotate_left 1
                 · (intro wz hSw; (try dsimp only at hSw); go_simp; try with_reducible rfl))
              try simp only [Act.put, List.setIfInBounds_toArray, List.set_cons_zero, List.set_cons_succ]
              first
              | (refine wpAnyH_take (i := 29) (v := undef) (by (try simp only [List.getElem?_toArray, List.getElem?_cons_zero, List.getElem?_cons_succ]); first | done | rfl) (by kernel_rfl) (by kernel_rfl) (by kernel_rfl) (fun _ _ _ h => h) (Or.inr ⟨by rfl, rfl⟩) (by assumption) ?_)
              | (refine wpAnyH_take (i := 29) (v := ?_) (by (try simp only [List.getElem?_toArray, List.getElem?_cons_zero, List.getElem?_cons_succ]); first | done | rfl) (by kernel_rfl) (by kernel_rfl) (by kernel_rfl) (fun _ _ _ h => h) (Or.inl ⟨by rfl, ?_⟩) (by assumption) ?_
                 rotate_left 1
                 · (intro wz hSw; (try dsimp only at hSw); go_simp; try with_reducible rfl))
              try simp only [Act.put, List.setIfInBounds_toArray, List.set_cons_zero, List.set_cons_succ]
              first
              | (refine wpAnyH_take (i := 30) (v := undef) (by (try simp only [List.getElem?_toArray, List.getElem?_cons_zero, List.getElem?_cons_succ]); first | done | rfl) (by kernel_rfl) (by kernel_rfl) (by kernel_rfl) (fun _ _ _ h => h) (Or.inr ⟨by rfl, rfl⟩) (by assumption) ?_)
              | (refine wpAnyH_take (i := 30) (v := ?_) (by (try simp only [List.getElem?_toArray, List.getElem?_cons_zero, List.getElem?_cons_succ]); first | done | rfl) (by kernel_rfl) (by kernel_rfl) (by kernel_rfl) (fun _ _ _ h => h) (Or.inl ⟨by rfl, ?_⟩) (by assumption) ?_
                 rotate_left 1
                 · (intro wz hSw; (try dsimp only at hSw); go_simp; try with_reducible rfl))
              try simp only [Act.put, List.setIfInBounds_toArray, List.set_cons_zero, List.set_cons_succ]
              first
              | (refine wpAnyH_take (i := 31) (v := undef) (by (try simp only [List.getElem?_toArray, List.getElem?_cons_zero, List.getElem?_cons_succ]); first | done | rfl) (by kernel_rfl) (by kernel_rfl) (by kernel_rfl) (fun _ _ _ h => h) (Or.inr ⟨by rfl, rfl⟩) (by assumption) ?_)
              | (refine wpAnyH_take (i := 31) (v := ?_) (by (try simp only [List.getElem?_toArray, List.getElem?_cons_zero, List.getElem?_cons_succ]); first | done | rfl) (by kernel_rfl) (by kernel_rfl) (by kernel_rfl) (fun _ _ _ h => h) (Or.inl ⟨by rfl, ?_⟩) (by assumption) ?_
                 rotate_left 1
                 · (intro wz hSw; (try dsimp only at hSw); go_simp; try with_reducible rfl))
              try simp only [Act.put, List.setIfInBounds_toArray, List.set_cons_zero, List.set_cons_succ]
              first
              | (refine wpAnyH_take (i := 32) (v := undef) (by (try simp only [List.getElem?_toArray, List.getElem?_cons_zero, List.getElem?_cons_succ]); first | done | rfl) (by kernel_rfl) (by kernel_rfl) (by kernel_rfl) (fun _ _ _ h => h) (Or.inr ⟨by rfl, rfl⟩) (by assumption) ?_)
              | (refine wpAnyH_take (i := 32) (v := ?_) (by (try simp only [List.getElem?_toArray, List.getElem?_cons_zero, List.getElem?_cons_succ]); first | done | rfl) (by kernel_rfl) (by kernel_rfl) (by kernel_rfl) (fun _ _ _ h => h) (Or.inl ⟨by rfl, ?_⟩) (by assumption) ?_
                 rotate_left 1
                 · (intro wz hSw; (try dsimp only at hSw); go_simp; try with_reducible rfl))
              try simp only [Act.put, List.setIfInBounds_toArray, List.set_cons_zero, List.set_cons_succ]
              first
              | (refine wpAnyH_take (i := 33) (v := undef) (by (try simp only [List.getElem?_toArray, List.getElem?_cons_zero, List.getElem?_cons_succ]); first | done | rfl) (by kernel_rfl) (by kernel_rfl) (by kernel_rfl) (fun _ _ _ h => h) (Or.inr ⟨by rfl, rfl⟩) (by assumption) ?_)
              | (refine wpAnyH_take (i := 33) (v := ?_) (by (try simp only [List.getElem?_toArray, List.getElem?_cons_zero, List.getElem?_cons_succ]); first | done | rfl) (by kernel_rfl) (by kernel_rfl) (by kernel_rfl) (fun _ _ _ h => h) (Or.inl ⟨by rfl, ?_⟩) (by assumption) ?_
                 rotate_left 1
                 · (intro wz hSw; (try dsimp only at hSw); go_simp; try with_reducible rfl))
              try simp only [Act.put, List.setIfInBounds_toArray, List.set_cons_zero, List.set_cons_succ]
              refine wpAnyH_done (by kernel_rfl) ?_ _
              refine NoPanic.normal ?_
              have hL := tab_done ‹_›
              go_wp2_with fail
              go_ret
              exact ⟨by rw [HX.out]; rfl, hL⟩
            · have hlt2 : q < r.f := by simpa using haf
              have hp2 : decide (r.f ≤ q) = false := by simpa using haf
              have HN : Hid (rowsB (prevF rs (n + 1)) (rs.drop (n + 1)) = rowsB none rs) := Lib.hid (by rw [HT.out, hq', hfq, hfin, show afterB (some q) r.f = decide (q < r.f) from rfl, haf]; rfl)
              clear hfq hfin haf
              go_wp2_with fail
              refine wp_region_noPanic ?_
              refine wp_region_held_drew (S := fun w' => w'.cell? ⟨g, n * 5, none⟩ = some (.int .i64 r.f) ∧ w'.cell? ⟨g, n * 5 + 1, none⟩ = some (.complex .f32 r.m.a r.m.b) ∧ w'.cell? ⟨g, n * 5 + 2, none⟩ = some (.complex .f32 r.m.c r.m.d) ∧ w'.cell? ⟨g, n * 5 + 3, none⟩ = some (.complex .f32 r.m.e r.m.f) ∧ w'.cell? ⟨g, n * 5 + 4, none⟩ = some (.complex .f32 r.m.g r.m.h) ∧ w'.cell? ⟨g, (n - 1) * 5, none⟩ = some (.int .i64 q) ∧ Calm w w') (by kernel_rfl) ?_ (fun hHeld => ?_)
              · (try dsimp only)
                first | with_reducible assumption | with_reducible exact tab_drew ‹_› | with_reducible exact tab_calm ‹_› ‹_› | with_reducible exact tab_calm ‹_› (tab_drew ‹_›)
              first
              | (refine wpAnyH_take (i := 0) (v := undef) (by (try simp only [List.getElem?_toArray, List.getElem?_cons_zero]); first | done | rfl) (by kernel_rfl) (by kernel_rfl) (by kernel_rfl) (fun _ _ _ h => h) (Or.inr ⟨by rfl, rfl⟩) (by assumption) ?_)
              | (refine wpAnyH_take (i := 0) (v := ?_) (by (try simp only [List.getElem?_toArray, List.getElem?_cons_zero]); first | done | rfl) (by kernel_rfl) (by kernel_rfl) (by kernel_rfl) (fun _ _ _ h => h) (Or.inl ⟨by rfl, ?_⟩) (by assumption) ?_
                 rotate_left 1
                 · (intro wz hSw; (try dsimp only at hSw); go_simp; try with_reducible rfl))
              try simp only [Act.put, List.setIfInBounds_toArray, List.set_cons_zero, List.set_cons_succ]
              first
              | (refine wpAnyH_take (i := 1) (v := undef) (by (try simp only [List.getElem?_toArray, List.getElem?_cons_zero, List.getElem?_cons_succ]); first | done | rfl) (by kernel_rfl) (by kernel_rfl) (by kernel_rfl) (fun _ _ _ h => h) (Or.inr ⟨by rfl, rfl⟩) (by assumption) ?_)
              | (refine wpAnyH_take (i := 1) (v := ?_) (by (try simp only [List.getElem?_toArray, List.getElem?_cons_zero, List.getElem?_cons_succ]); first | done | rfl) (by kernel_rfl) (by kernel_rfl) (by kernel_rfl) (fun _ _ _ h => h) (Or.inl ⟨by rfl, ?_⟩) (by assumption) ?_
                 rotate_left 1
                 · (intro wz hSw; (try dsimp only at hSw); go_simp; try with_reducible rfl))
              try simp only [Act.put, List.setIfInBounds_toArray, List.set_cons_zero, List.set_cons_succ]
              first
              | (refine wpAnyH_take (i := 2) (v := undef) (by (try simp only [List.getElem?_toArray, List.getElem?_cons_zero, List.getElem?_cons_succ]); first | done | rfl) (by kernel_rfl) (by kernel_rfl) (by kernel_rfl) (fun _ _ _ h => h) (Or.inr ⟨by rfl, rfl⟩) (by assumption) ?_)
              | (refine wpAnyH_take (i := 2) (v := ?_) (by (try simp only [List.getElem?_toArray, List.getElem?_cons_zero, List.getElem?_cons_succ]); first | done | rfl) (by kernel_rfl) (by kernel_rfl) (by kernel_rfl) (fun _ _ _ h => h) (Or.inl ⟨by rfl, ?_⟩) (by assumption) ?_
                 rotate_left 1
                 · (intro wz hSw; (try dsimp only at hSw); go_simp; try with_reducible rfl))
              try simp only [Act.put, List.setIfInBounds_toArray, List.set_cons_zero, List.set_cons_succ]
              first
              | (refine wpAnyH_take (i := 3) (v := undef) (by (try simp only [List.getElem?_toArray, List.getElem?_cons_zero, List.getElem?_cons_succ]); first | done | rfl) (by kernel_rfl) (by kernel_rfl) (by kernel_rfl) (fun _ _ _ h => h) (Or.inr ⟨by rfl, rfl⟩) (by assumption) ?_)
              | (refine wpAnyH_take (i := 3) (v := ?_) (by (try simp only [List.getElem?_toArray, List.getElem?_cons_zero, List.getElem?_cons_succ]); first | done | rfl) (by kernel_rfl) (by kernel_rfl) (by kernel_rfl) (fun _ _ _ h => h) (Or.inl ⟨by rfl, ?_⟩) (by assumption) ?_
                 rotate_left 1
                 · (intro wz hSw; (try dsimp only at hSw); go_simp; try with_reducible rfl))
              try simp only [Act.put, List.setIfInBounds_toArray, List.set_cons_zero, List.set_cons_succ]
              first
              | (refine wpAnyH_take (i := 4) (v := undef) (by (try simp only [List.getElem?_toArray, List.getElem?_cons_zero, List.getElem?_cons_succ]); first | done | rfl) (by kernel_rfl) (by kernel_rfl) (by kernel_rfl) (fun _ _ _ h => h) (Or.inr ⟨by rfl, rfl⟩) (by assumption) ?_)
              | (refine wpAnyH_take (i := 4) (v := ?_) (by (try simp only [List.getElem?_toArray, List.getElem?_cons_zero, List.getElem?_cons_succ]); first | done | rfl) (by kernel_rfl) (by kernel_rfl) (by kernel_rfl) (fun _ _ _ h => h) (Or.inl ⟨by rfl, ?_⟩) (by assumption) ?_
                 rotate_left 1
                 · (intro wz hSw; (try dsimp only at hSw); go_simp; try with_reducible rfl))
              try simp only [Act.put, List.setIfInBounds_toArray, List.set_cons_zero, List.set_cons_succ]
              first
              | (refine wpAnyH_take (i := 5) (v := undef) (by (try simp only [List.getElem?_toArray, List.getElem?_cons_zero, List.getElem?_cons_succ]); first | done | rfl) (by kernel_rfl) (by kernel_rfl) (by kernel_rfl) (fun _ _ _ h => h) (Or.inr ⟨by rfl, rfl⟩) (by assumption) ?_)
              | (refine wpAnyH_ready (rs := [5]) (by kernel_rfl) (by simp) ?_
                 refine AllReadyH.cons (by (try simp only [List.getElem?_toArray, List.getElem?_cons_zero, List.getElem?_cons_succ]); first | done | rfl) (fun K hK => ?_) AllReadyH.nil
                 go_simp
                 refine Calls.mono (l1In_any _ _ _ _) ?_; rw [HF.out]; rintro e w' ⟨rfl, rfl⟩
                 refine hK.out _ _ ?_ (fun hHeld => ?_)
                 · (try dsimp only)
                   first | with_reducible assumption | with_reducible exact tab_drew ‹_› | with_reducible exact tab_calm ‹_› ‹_› | with_reducible exact tab_calm ‹_› (tab_drew ‹_›)
                 clear hK K)
              try simp only [Act.put, List.setIfInBounds_toArray, List.set_cons_zero, List.set_cons_succ]
              first
              | (refine wpAnyH_take (i := 6) (v := undef) (by (try simp only [List.getElem?_toArray, List.getElem?_cons_zero, List.getElem?_cons_succ]); first | done | rfl) (by kernel_rfl) (by kernel_rfl) (by kernel_rfl) (fun _ _ _ h => h) (Or.inr ⟨by rfl, rfl⟩) (by assumption) ?_)
              | (refine wpAnyH_take (i := 6) (v := ?_) (by (try simp only [List.getElem?_toArray, List.getElem?_cons_zero, List.getElem?_cons_succ]); first | done | rfl) (by kernel_rfl) (by kernel_rfl) (by kernel_rfl) (fun _ _ _ h => h) (Or.inl ⟨by rfl, ?_⟩) (by assumption) ?_
                 rotate_left 1
                 · (intro wz hSw; (try dsimp only at hSw); go_simp; try with_reducible rfl))
              try simp only [Act.put, List.setIfInBounds_toArray, List.set_cons_zero, List.set_cons_succ]
              first
              | (refine wpAnyH_take (i := 7) (v := undef) (by (try simp only [List.getElem?_toArray, List.getElem?_cons_zero, List.getElem?_cons_succ]); first | done | rfl) (by kernel_rfl) (by kernel_rfl) (by kernel_rfl) (fun _ _ _ h => h) (Or.inr ⟨by rfl, rfl⟩) (by assumption) ?_)
              | (refine wpAnyH_take (i := 7) (v := ?_) (by (try simp only [List.getElem?_toArray, List.getElem?_cons_zero, List.getElem?_cons_succ]); first | done | rfl) (by kernel_rfl) (by kernel_rfl) (by kernel_rfl) (fun _ _ _ h => h) (Or.inl ⟨by rfl, ?_⟩) (by assumption) ?_
                 rotate_left 1
                 · (intro wz hSw; (try dsimp only at hSw); go_simp; try with_reducible rfl))
              try simp only [Act.put, List.setIfInBounds_toArray, List.set_cons_zero, List.set_cons_succ]
              first
              | (refine wpAnyH_take (i := 8) (v := undef) (by (try simp only [List.getElem?_toArray, List.getElem?_cons_zero, List.getElem?_cons_succ]); first | done | rfl) (by kernel_rfl) (by kernel_rfl) (by kernel_rfl) (fun _ _ _ h => h) (Or.inr ⟨by rfl, rfl⟩) (by assumption) ?_)
              | (refine wpAnyH_take (i := 8) (v := ?_) (by (try simp only [List.getElem?_toArray, List.getElem?_cons_zero, List.getElem?_cons_succ]); first | done | rfl) (by kernel_rfl) (by kernel_rfl) (by kernel_rfl) (fun _ _ _ h => h) (Or.inl ⟨by rfl, ?_⟩) (by assumption) ?_
                 rotate_left 1
                 · (intro wz hSw; (try dsimp only at hSw); go_simp; try with_reducible rfl))
              try simp only [Act.put, List.setIfInBounds_toArray, List.set_cons_zero, List.set_cons_succ]
              first
              | (refine wpAnyH_take (i := 9) (v := undef) (by (try simp only [List.getElem?_toArray, List.getElem?_cons_zero, List.getElem?_cons_succ]); first | done | rfl) (by kernel_rfl) (by kernel_rfl) (by kernel_rfl) (fun _ _ _ h => h) (Or.inr ⟨by rfl, rfl⟩) (by assumption) ?_)
              | (refine wpAnyH_take (i := 9) (v := ?_) (by (try simp only [List.getElem?_toArray, List.getElem?_cons_zero, List.getElem?_cons_succ]); first | done | rfl) (by kernel_rfl) (by kernel_rfl) (by kernel_rfl) (fun _ _ _ h => h) (Or.inl ⟨by rfl, ?_⟩) (by assumption) ?_
                 rotate_left 1
                 · (intro wz hSw; (try dsimp only at hSw); go_simp; try with_reducible rfl))
              try simp only [Act.put, List.setIfInBounds_toArray, List.set_cons_zero, List.set_cons_succ]
              first
              | (refine wpAnyH_take (i := 10) (v := undef) (by (try simp only [List.getElem?_toArray, List.getElem?_cons_zero, List.getElem?_cons_succ]); first | done | rfl) (by kernel_rfl) (by kernel_rfl) (by kernel_rfl) (fun _ _ _ h => h) (Or.inr ⟨by rfl, rfl⟩) (by assumption) ?_)
              | (refine wpAnyH_take (i := 10) (v := ?_) (by (try simp only [List.getElem?_toArray, List.getElem?_cons_zero, List.getElem?_cons_succ]); first | done | rfl) (by kernel_rfl) (by kernel_rfl) (by kernel_rfl) (fun _ _ _ h => h) (Or.inl ⟨by rfl, ?_⟩) (by assumption) ?_
                 rotate_left 1
                 · (intro wz hSw; (try dsimp only at hSw); go_simp; try with_reducible rfl))
              try simp only [Act.put, List.setIfInBounds_toArray, List.set_cons_zero, List.set_cons_succ]
              first
              | (refine wpAnyH_take (i := 11) (v := undef) (by (try simp only [List.getElem?_toArray, List.getElem?_cons_zero, List.getElem?_cons_succ]); first | done | rfl) (by kernel_rfl) (by kernel_rfl) (by kernel_rfl) (fun _ _ _ h => h) (Or.inr ⟨by rfl, rfl⟩) (by assumption) ?_)
              | (refine wpAnyH_take (i := 11) (v := ?_) (by (try simp only [List.getElem?_toArray, List.getElem?_cons_zero, List.getElem?_cons_succ]); first | done | rfl) (by kernel_rfl) (by kernel_rfl) (by kernel_rfl) (fun _ _ _ h => h) (Or.inl ⟨by rfl, ?_⟩) (by assumption) ?_
                 rotate_left 1
                 · (intro wz hSw; (try dsimp only at hSw); go_simp; try with_reducible rfl))
              try simp only [Act.put, List.setIfInBounds_toArray, List.set_cons_zero, List.set_cons_succ]
              first
              | (refine wpAnyH_take (i := 12) (v := undef) (by (try simp only [List.getElem?_toArray, List.getElem?_cons_zero, List.getElem?_cons_succ]); first | done | rfl) (by kernel_rfl) (by kernel_rfl) (by kernel_rfl) (fun _ _ _ h => h) (Or.inr ⟨by rfl, rfl⟩) (by assumption) ?_)
              | (refine wpAnyH_take (i := 12) (v := ?_) (by (try simp only [List.getElem?_toArray, List.getElem?_cons_zero, List.getElem?_cons_succ]); first | done | rfl) (by kernel_rfl) (by kernel_rfl) (by kernel_rfl) (fun _ _ _ h => h) (Or.inl ⟨by rfl, ?_⟩) (by assumption) ?_
                 rotate_left 1
                 · (intro wz hSw; (try dsimp only at hSw); go_simp; try with_reducible rfl))
              try simp only [Act.put, List.setIfInBounds_toArray, List.set_cons_zero, List.set_cons_succ]
              first
              | (refine wpAnyH_take (i := 13) (v := undef) (by (try simp only [List.getElem?_toArray, List.getElem?_cons_zero, List.getElem?_cons_succ]); first | done | rfl) (by kernel_rfl) (by kernel_rfl) (by kernel_rfl) (fun _ _ _ h => h) (Or.inr ⟨by rfl, rfl⟩) (by assumption) ?_)
              | (refine wpAnyH_ready (rs := [13]) (by kernel_rfl) (by simp) ?_
                 refine AllReadyH.cons (by (try simp only [List.getElem?_toArray, List.getElem?_cons_zero, List.getElem?_cons_succ]); first | done | rfl) (fun K hK => ?_) AllReadyH.nil
                 go_simp
                 refine Calls.mono (specTwoOk_any _ _ _ _ _ _ _ _ _) ?_; rw [HG.out]; rintro e w' ⟨rfl, C⟩
                 refine hK.out _ _ ?_ (fun hHeld => ?_)
                 · (try dsimp only)
                   first | with_reducible assumption | with_reducible exact tab_drew ‹_› | with_reducible exact tab_calm ‹_› ‹_› | with_reducible exact tab_calm ‹_› (tab_drew ‹_›)
                 clear hK K)
              try simp only [Act.put, List.setIfInBounds_toArray, List.set_cons_zero, List.set_cons_succ]
              first
              | (refine wpAnyH_take (i := 14) (v := undef) (by (try simp only [List.getElem?_toArray, List.getElem?_cons_zero, List.getElem?_cons_succ]); first | done | rfl) (by kernel_rfl) (by kernel_rfl) (by kernel_rfl) (fun _ _ _ h => h) (Or.inr ⟨by rfl, rfl⟩) (by assumption) ?_)
              | (refine wpAnyH_take (i := 14) (v := ?_) (by (try simp only [List.getElem?_toArray, List.getElem?_cons_zero, List.getElem?_cons_succ]); first | done | rfl) (by kernel_rfl) (by kernel_rfl) (by kernel_rfl) (fun _ _ _ h => h) (Or.inl ⟨by rfl, ?_⟩) (by assumption) ?_
                 rotate_left 1
                 · (intro wz hSw; (try dsimp only at hSw); go_simp; try with_reducible rfl))
              try simp only [Act.put, List.setIfInBounds_toArray, List.set_cons_zero, List.set_cons_succ]
              first
              | (refine wpAnyH_take (i := 15) (v := undef) (by (try simp only [List.getElem?_toArray, List.getElem?_cons_zero, List.getElem?_cons_succ]); first | done | rfl) (by kernel_rfl) (by kernel_rfl) (by kernel_rfl) (fun _ _ _ h => h) (Or.inr ⟨by rfl, rfl⟩) (by assumption) ?_)
              | (refine wpAnyH_take (i := 15) (v := ?_) (by (try simp only [List.getElem?_toArray, List.getElem?_cons_zero, List.getElem?_cons_succ]); first | done | rfl) (by kernel_rfl) (by kernel_rfl) (by kernel_rfl) (fun _ _ _ h => h) (Or.inl ⟨by rfl, ?_⟩) (by assumption) ?_
                 rotate_left 1
                 · (intro wz hSw; (try dsimp only at hSw); go_simp; try with_reducible rfl))
              try simp only [Act.put, List.setIfInBounds_toArray, List.set_cons_zero, List.set_cons_succ]
              first
              | (refine wpAnyH_take (i := 16) (v := undef) (by (try simp only [List.getElem?_toArray, List.getElem?_cons_zero, List.getElem?_cons_succ]); first | done | rfl) (by kernel_rfl) (by kernel_rfl) (by kernel_rfl) (fun _ _ _ h => h) (Or.inr ⟨by rfl, rfl⟩) (by assumption) ?_)
              | (refine wpAnyH_take (i := 16) (v := ?_) (by (try simp only [List.getElem?_toArray, List.getElem?_cons_zero, List.getElem?_cons_succ]); first | done | rfl) (by kernel_rfl) (by kernel_rfl) (by kernel_rfl) (fun _ _ _ h => h) (Or.inl ⟨by rfl, ?_⟩) (by assumption) ?_
                 rotate_left 1
                 · (intro wz hSw; (try dsimp only at hSw); go_simp; try with_reducible rfl))
              try simp only [Act.put, List.setIfInBounds_toArray, List.set_cons_zero, List.set_cons_succ]
              first
              | (refine wpAnyH_take (i := 17) (v := undef) (by (try simp only [List.getElem?_toArray, List.getElem?_cons_zero, List.getElem?_cons_succ]); first | done | rfl) (by kernel_rfl) (by kernel_rfl) (by kernel_rfl) (fun _ _ _ h => h) (Or.inr ⟨by rfl, rfl⟩) (by assumption) ?_)
              | (refine wpAnyH_take (i := 17) (v := ?_) (by (try simp only [List.getElem?_toArray, List.getElem?_cons_zero, List.getElem?_cons_succ]); first | done | rfl) (by kernel_rfl) (by kernel_rfl) (by kernel_rfl) (fun _ _ _ h => h) (Or.inl ⟨by rfl, ?_⟩) (by assumption) ?_
                 rotate_left 1
                 · (intro wz hSw; (try dsimp only at hSw); go_simp; try with_reducible rfl))
              try simp only [Act.put, List.setIfInBounds_toArray, List.set_cons_zero, List.set_cons_succ]
              first
              | (refine wpAnyH_take (i := 18) (v := undef) (by (try simp only [List.getElem?_toArray, List.getElem?_cons_zero, List.getElem?_cons_succ]); first | done | rfl) (by kernel_rfl) (by kernel_rfl) (by kernel_rfl) (fun _ _ _ h => h) (Or.inr ⟨by rfl, rfl⟩) (by assumption) ?_)
              | (refine wpAnyH_take (i := 18) (v := ?_) (by (try simp only [List.getElem?_toArray, List.getElem?_cons_zero, List.getElem?_cons_succ]); first | done | rfl) (by kernel_rfl) (by kernel_rfl) (by kernel_rfl) (fun _ _ _ h => h) (Or.inl ⟨by rfl, ?_⟩) (by assumption) ?_
                 rotate_left 1
                 · (intro wz hSw; (try dsimp only at hSw); go_simp; try with_reducible rfl))
              try simp only [Act.put, List.setIfInBounds_toArray, List.set_cons_zero, List.set_cons_succ]
              first
              | (refine wpAnyH_take (i := 19) (v := undef) (by (try simp only [List.getElem?_toArray, List.getElem?_cons_zero, List.getElem?_cons_succ]); first | done | rfl) (by kernel_rfl) (by kernel_rfl) (by kernel_rfl) (fun _ _ _ h => h) (Or.inr ⟨by rfl, rfl⟩) (by assumption) ?_)
              | (refine wpAnyH_take (i := 19) (v := ?_) (by (try simp only [List.getElem?_toArray, List.getElem?_cons_zero, List.getElem?_cons_succ]); first | done | rfl) (by kernel_rfl) (by kernel_rfl) (by kernel_rfl) (fun _ _ _ h => h) (Or.inl ⟨by rfl, ?_⟩) (by assumption) ?_
                 rotate_left 1
                 · (intro wz hSw; (try dsimp only at hSw); go_simp; try with_reducible rfl))
              try simp only [Act.put, List.setIfInBounds_toArray, List.set_cons_zero, List.set_cons_succ]
              first
              | (refine wpAnyH_take (i := 20) (v := undef) (by (try simp only [List.getElem?_toArray, List.getElem?_cons_zero, List.getElem?_cons_succ]); first | done | rfl) (by kernel_rfl) (by kernel_rfl) (by kernel_rfl) (fun _ _ _ h => h) (Or.inr ⟨by rfl, rfl⟩) (by assumption) ?_)
              | (refine wpAnyH_take (i := 20) (v := ?_) (by (try simp only [List.getElem?_toArray, List.getElem?_cons_zero, List.getElem?_cons_succ]); first | done | rfl) (by kernel_rfl) (by kernel_rfl) (by kernel_rfl) (fun _ _ _ h => h) (Or.inl ⟨by rfl, ?_⟩) (by assumption) ?_
                 rotate_left 1
                 · (intro wz hSw; (try dsimp only at hSw); go_simp; try with_reducible rfl))
              try simp only [Act.put, List.setIfInBounds_toArray, List.set_cons_zero, List.set_cons_succ]
              first
              | (refine wpAnyH_take (i := 21) (v := undef) (by (try simp only [List.getElem?_toArray, List.getElem?_cons_zero, List.getElem?_cons_succ]); first | done | rfl) (by kernel_rfl) (by kernel_rfl) (by kernel_rfl) (fun _ _ _ h => h) (Or.inr ⟨by rfl, rfl⟩) (by assumption) ?_)
              | (refine wpAnyH_take (i := 21) (v := ?_) (by (try simp only [List.getElem?_toArray, List.getElem?_cons_zero, List.getElem?_cons_succ]); first | done | rfl) (by kernel_rfl) (by kernel_rfl) (by kernel_rfl) (fun _ _ _ h => h) (Or.inl ⟨by rfl, ?_⟩) (by assumption) ?_
                 rotate_left 1
                 · (intro wz hSw; (try dsimp only at hSw); go_simp; try with_reducible rfl))
              try simp only [Act.put, List.setIfInBounds_toArray, List.set_cons_zero, List.set_cons_succ]
              first
              | (refine wpAnyH_take (i := 22) (v := undef) (by (try simp only [List.getElem?_toArray, List.getElem?_cons_zero, List.getElem?_cons_succ]); first | done | rfl) (by kernel_rfl) (by kernel_rfl) (by kernel_rfl) (fun _ _ _ h => h) (Or.inr ⟨by rfl, rfl⟩) (by assumption) ?_)
              | (refine wpAnyH_take (i := 22) (v := ?_) (by (try simp only [List.getElem?_toArray, List.getElem?_cons_zero, List.getElem?_cons_succ]); first | done | rfl) (by kernel_rfl) (by kernel_rfl) (by kernel_rfl) (fun _ _ _ h => h) (Or.inl ⟨by rfl, ?_⟩) (by assumption) ?_
                 rotate_left 1
                 · (intro wz hSw; (try dsimp only at hSw); go_simp; try with_reducible rfl))
              try simp only [Act.put, List.setIfInBounds_toArray, List.set_cons_zero, List.set_cons_succ]
              first
              | (refine wpAnyH_take (i := 23) (v := undef) (by (try simp only [List.getElem?_toArray, List.getElem?_cons_zero, List.getElem?_cons_succ]); first | done | rfl) (by kernel_rfl) (by kernel_rfl) (by kernel_rfl) (fun _ _ _ h => h) (Or.inr ⟨by rfl, rfl⟩) (by assumption) ?_)
              | (refine wpAnyH_take (i := 23) (v := ?_) (by (try simp only [List.getElem?_toArray, List.getElem?_cons_zero, List.getElem?_cons_succ]); first | done | rfl) (by kernel_rfl) (by kernel_rfl) (by kernel_rfl) (fun _ _ _ h => h) (Or.inl ⟨by rfl, ?_⟩) (by assumption) ?_
                 rotate_left 1
                 · (intro wz hSw; (try dsimp only at hSw); go_simp; try with_reducible rfl))
              try simp only [Act.put, List.setIfInBounds_toArray, List.set_cons_zero, List.set_cons_succ]
              first
              | (refine wpAnyH_take (i := 24) (v := undef) (by (try simp only [List.getElem?_toArray, List.getElem?_cons_zero, List.getElem?_cons_succ]); first | done | rfl) (by kernel_rfl) (by kernel_rfl) (by kernel_rfl) (fun _ _ _ h => h) (Or.inr ⟨by rfl, rfl⟩) (by assumption) ?_)
              | (refine wpAnyH_take (i := 24) (v := ?_) (by (try simp only [List.getElem?_toArray, List.getElem?_cons_zero, List.getElem?_cons_succ]); first | done | rfl) (by kernel_rfl) (by kernel_rfl) (by kernel_rfl) (fun _ _ _ h => h) (Or.inl ⟨by rfl, ?_⟩) (by assumption) ?_
                 rotate_left 1
                 · (intro wz hSw; (try dsimp only at hSw); go_simp; try with_reducible rfl))
              try simp only [Act.put, List.setIfInBounds_toArray, List.set_cons_zero, List.set_cons_succ]
              first
              | (refine wpAnyH_take (i := 25) (v := undef) (by (try simp only [List.getElem?_toArray, List.getElem?_cons_zero, List.getElem?_cons_succ]); first | done | rfl) (by kernel_rfl) (by kernel_rfl) (by kernel_rfl) (fun _ _ _ h => h) (Or.inr ⟨by rfl, rfl⟩) (by assumption) ?_)
              | (refine wpAnyH_take (i := 25) (v := ?_) (by (try simp only [List.getElem?_toArray, List.getElem?_cons_zero, List.getElem?_cons_succ]); first | done | rfl) (by kernel_rfl) (by kernel_rfl) (by kernel_rfl) (fun _ _ _ h => h) (Or.inl ⟨by rfl, ?_⟩) (by assumption) ?_
                 rotate_left 1
                 · (intro wz hSw; (try dsimp only at hSw); go_simp; try with_reducible rfl))
              try simp only [Act.put, List.setIfInBounds_toArray, List.set_cons_zero, List.set_cons_succ]
              first
              | (refine wpAnyH_take (i := 26) (v := undef) (by (try simp only [List.getElem?_toArray, List.getElem?_cons_zero, List.getElem?_cons_succ]); first | done | rfl) (by kernel_rfl) (by kernel_rfl) (by kernel_rfl) (fun _ _ _ h => h) (Or.inr ⟨by rfl, rfl⟩) (by assumption) ?_)
              | (refine wpAnyH_take (i := 26) (v := ?_) (by (try simp only [List.getElem?_toArray, List.getElem?_cons_zero, List.getElem?_cons_succ]); first | done | rfl) (by kernel_rfl) (by kernel_rfl) (by kernel_rfl) (fun _ _ _ h => h) (Or.inl ⟨by rfl, ?_⟩) (by assumption) ?_
                 rotate_left 1
                 · (intro wz hSw; (try dsimp only at hSw); go_simp; try with_reducible rfl))
              try simp only [Act.put, List.setIfInBounds_toArray, List.set_cons_zero, List.set_cons_succ]
              first
              | (refine wpAnyH_take (i := 27) (v := undef) (by (try simp only [List.getElem?_toArray, List.getElem?_cons_zero, List.getElem?_cons_succ]); first | done | rfl) (by kernel_rfl) (by kernel_rfl) (by kernel_rfl) (fun _ _ _ h => h) (Or.inr ⟨by rfl, rfl⟩) (by assumption) ?_)
              | (refine wpAnyH_take (i := 27) (v := ?_) (by (try simp only [List.getElem?_toArray, List.getElem?_cons_zero, List.getElem?_cons_succ]); first | done | rfl) (by kernel_rfl) (by kernel_rfl) (by kernel_rfl) (fun _ _ _ h => h) (Or.inl ⟨by rfl, ?_⟩) (by assumption) ?_
                 rotate_left 1
                 · (intro wz hSw; (try dsimp only at hSw); go_simp; try with_reducible rfl))
              try simp only [Act.put, List.setIfInBounds_toArray, List.set_cons_zero, List.set_cons_succ]
              first
              | (refine wpAnyH_take (i := 28) (v := undef) (by (try simp only [List.getElem?_toArray, List.getElem?_cons_zero, List.getElem?_cons_succ]); first | done | rfl) (by kernel_rfl) (by kernel_rfl) (by kernel_rfl) (fun _ _ _ h => h) (Or.inr ⟨by rfl, rfl⟩) (by assumption) ?_)
              | (refine wpAnyH_take (i := 28) (v := ?_) (by (try simp only [List.getElem?_toArray, List.getElem?_cons_zero, List.getElem?_cons_succ]); first | done | rfl) (by kernel_rfl) (by kernel_rfl) (by kernel_rfl) (fun _ _ _ h => h) (Or.inl ⟨by rfl, ?_⟩) (by assumption) ?_
                 rotate_left 1
                 · (intro wz hSw; (try dsimp only at hSw); go_simp; try with_reducible rfl))
              try simp only [Act.put, List.setIfInBounds_toArray, List.set_cons_zero, List.set_cons_succ]
              first
              | (refine wpAnyH_take (i := 29) (v := undef) (by (try simp only [List.getElem?_toArray, List.getElem?_cons_zero, List.getElem?_cons_succ]); first | done | rfl) (by kernel_rfl) (by kernel_rfl) (by kernel_rfl) (fun _ _ _ h => h) (Or.inr ⟨by rfl, rfl⟩) (by assumption) ?_)
              | (refine wpAnyH_take (i := 29) (v := ?_) (by (try simp only [List.getElem?_toArray, List.getElem?_cons_zero, List.getElem?_cons_succ]); first | done | rfl) (by kernel_rfl) (by kernel_rfl) (by kernel_rfl) (fun _ _ _ h => h) (Or.inl ⟨by rfl, ?_⟩) (by assumption) ?_
                 rotate_left 1
                 · (intro wz hSw; (try dsimp only at hSw); go_simp; try with_reducible rfl))
              try simp only [Act.put, List.setIfInBounds_toArray, List.set_cons_zero, List.set_cons_succ]
              first
              | (refine wpAnyH_take (i := 30) (v := undef) (by (try simp only [List.getElem?_toArray, List.getElem?_cons_zero, List.getElem?_cons_succ]); first | done | rfl) (by kernel_rfl) (by kernel_rfl) (by kernel_rfl) (fun _ _ _ h => h) (Or.inr ⟨by rfl, rfl⟩) (by assumption) ?_)
              | (refine wpAnyH_take (i := 30) (v := ?_) (by (try simp only [List.getElem?_toArray, List.getElem?_cons_zero, List.getElem?_cons_succ]); first | done | rfl) (by kernel_rfl) (by kernel_rfl) (by kernel_rfl) (fun _ _ _ h => h) (Or.inl ⟨by rfl, ?_⟩) (by assumption) ?_
                 rotate_left 1
                 · (intro wz hSw; (try dsimp only at hSw); go_simp; try with_reducible rfl))
              try simp only [Act.put, List.setIfInBounds_toArray, List.set_cons_zero, List.set_cons_succ]
              first
              | (refine wpAnyH_take (i := 31) (v := undef) (by (try simp only [List.getElem?_toArray, List.getElem?_cons_zero, List.getElem?_cons_succ]); first | done | rfl) (by kernel_rfl) (by kernel_rfl) (by kernel_rfl) (fun _ _ _ h => h) (Or.inr ⟨by rfl, rfl⟩) (by assumption) ?_)
              | (refine wpAnyH_take (i := 31) (v := ?_) (by (try simp only [List.getElem?_toArray, List.getElem?_cons_zero, List.getElem?_cons_succ]); first | done | rfl) (by kernel_rfl) (by kernel_rfl) (by kernel_rfl) (fun _ _ _ h => h) (Or.inl ⟨by rfl, ?_⟩) (by assumption) ?_
                 rotate_left 1
                 · (intro wz hSw; (try dsimp only at hSw); go_simp; try with_reducible rfl))
              try simp only [Act.put, List.setIfInBounds_toArray, List.set_cons_zero, List.set_cons_succ]
              first
              | (refine wpAnyH_take (i := 32) (v := undef) (by (try simp only [List.getElem?_toArray, List.getElem?_cons_zero, List.getElem?_cons_succ]); first | done | rfl) (by kernel_rfl) (by kernel_rfl) (by kernel_rfl) (fun _ _ _ h => h) (Or.inr ⟨by rfl, rfl⟩) (by assumption) ?_)
              | (refine wpAnyH_take (i := 32) (v := ?_) (by (try simp only [List.getElem?_toArray, List.getElem?_cons_zero, List.getElem?_cons_succ]); first | done | rfl) (by kernel_rfl) (by kernel_rfl) (by kernel_rfl) (fun _ _ _ h => h) (Or.inl ⟨by rfl, ?_⟩) (by assumption) ?_
                 rotate_left 1
                 · (intro wz hSw; (try dsimp only at hSw); go_simp; try with_reducible rfl))
              try simp only [Act.put, List.setIfInBounds_toArray, List.set_cons_zero, List.set_cons_succ]
              first
              | (refine wpAnyH_take (i := 33) (v := undef) (by (try simp only [List.getElem?_toArray, List.getElem?_cons_zero, List.getElem?_cons_succ]); first | done | rfl) (by kernel_rfl) (by kernel_rfl) (by kernel_rfl) (fun _ _ _ h => h) (Or.inr ⟨by rfl, rfl⟩) (by assumption) ?_)
              | (refine wpAnyH_take (i := 33) (v := ?_) (by (try simp only [List.getElem?_toArray, List.getElem?_cons_zero, List.getElem?_cons_succ]); first | done | rfl) (by kernel_rfl) (by kernel_rfl) (by kernel_rfl) (fun _ _ _ h => h) (Or.inl ⟨by rfl, ?_⟩) (by assumption) ?_
                 rotate_left 1
                 · (intro wz hSw; (try dsimp only at hSw); go_simp; try with_reducible rfl))
              try simp only [Act.put, List.setIfInBounds_toArray, List.set_cons_zero, List.set_cons_succ]
              refine wpAnyH_done (by kernel_rfl) ?_ _
              refine NoPanic.normal ?_
              have hL := tab_done ‹_›
              go_wp2_with fail
              exact ⟨⟨n + 1, by omega, by go_num, HN.out, hL⟩, by simp [intOf]; omega⟩
    · have hn' : n = rs.length := by omega
      subst hn'
      rw [List.drop_length] at hF
      have HI := Lib.hid (show (decide ((1 : Int) ≤ (rs.length : Int)) && decide ((rs.length : Int) ≤ 8)) = tabB rs by
        unfold tabB
        rw [← hF]
        show _ = (true && _)
        rw [Bool.true_and, Bool.eq_iff_iff]
        simp
        omega)
      clear hF
      go_wp2_with fail
      refine (l1In_any _ _ _ _).mono ?_
      rw [HI.out]
      rintro z w2 ⟨rfl, hw2⟩
      subst hw2
      go_wp2_with fail
      go_ret
      exact ⟨rfl, HC.out⟩

end Go.Proofs.YthbebgnjidaokaaDoor
