/-
  ReadTable in the model.
-/
import Derived.Test.YthbebgnjidaokaaDoorReadT
import Derived.Deep.RegionHeld3
namespace Go.Proofs.YthbebgnjidaokaaDoor
open Go.RowKit Fl

theorem Tryd.infoRowR : (Tryd.prog.info? 40).map (fun i => (i.zero, i.size, i.bytes)) = some (some (.agg #[.int .i64 0, .complex .f32 0 0, .complex .f32 0 0, .complex .f32 0 0, .complex .f32 0 0]), 5, 40) := by kernel_rfl
theorem Tryd.infoCR : (Tryd.prog.info? 33).map (fun i => (i.zero, i.size, i.bytes)) = some (some (.complex .f32 0 0), 1, 8) := by kernel_rfl

/-- A row in thousandths, as the words of a table. -/
def rowM (r : Tx.RowI) : RowW := ⟨r.f, ⟨milliB r.a.1, milliB r.a.2, milliB r.b.1, milliB r.b.2, milliB r.c.1, milliB r.c.2, milliB r.d.1, milliB r.d.2⟩⟩
/-- What ReadTable gives. -/
def readT (l : Tx.Bs) : Option (List Tx.RowI) := match Tx.rowsV l with
  | some rs => if tabB (rs.map rowM) then some rs else none
  | none => none

theorem linesV_all : ∀ {xs : List Tx.Bs} {rs : List Tx.RowI}, xs.map Tx.lineV = rs.map some → ∀ last, Tx.linesV (xs ++ [last]) = if last = [] then some rs else none := by
  intro xs
  induction xs with
  | nil =>
    intro rs h last
    cases rs with
    | nil => rfl
    | cons r t => simp at h
  | cons x xs ih =>
    intro rs h last
    cases rs with
    | nil => simp at h
    | cons r t =>
      simp only [List.map_cons, List.cons.injEq] at h
      have := ih h.2 last
      cases hxs : xs ++ [last] with
      | nil => simp at hxs
      | cons y ys =>
        show Tx.linesV (x :: (xs ++ [last])) = _
        rw [hxs] at this ⊢
        unfold Tx.linesV
        rw [h.1, this]
        by_cases hl : last = []
        · rw [if_pos hl, if_pos hl]
        · rw [if_neg hl, if_neg hl]
theorem linesV_bad : ∀ {xs : List Tx.Bs} {x : Tx.Bs}, x ∈ xs → Tx.lineV x = none → ∀ last, Tx.linesV (xs ++ [last]) = none := by
  intro xs
  induction xs with
  | nil => intro x h; simp at h
  | cons y xs ih =>
    intro x hx hn last
    cases hxs : xs ++ [last] with
    | nil => simp at hxs
    | cons z zs =>
      show Tx.linesV (y :: (xs ++ [last])) = _
      rw [hxs]
      unfold Tx.linesV
      rcases List.mem_cons.1 hx with rfl | hx
      · rw [hn]
      · have := ih hx hn last
        rw [hxs] at this
        rw [this]
        cases Tx.lineV y <;> rfl

/-- The numbers of a line, from its words. -/
theorem lineV_words {l : Tx.Bs} {a b c d e : Tx.Bs} (h : Tx.cutL 32 l = [a, b, c, d, e]) : Tx.lineV l = match Tx.digV a, Tx.numV b, Tx.numV c, Tx.numV d, Tx.numV e with
    | some f, some a, some b, some c, some d => some ⟨f, a, b, c, d⟩
    | _, _, _, _, _ => none := by
  unfold Tx.lineV
  rw [h]
  rfl
theorem lineV_short {l : Tx.Bs} (h : (Tx.cutL 32 l).length ≠ 5) : Tx.lineV l = none := by
  unfold Tx.lineV
  split
  · rename_i hc
    rw [hc] at h
    exact absurd rfl h
  · rfl

theorem mat_drew {wx : World} {x a b c d e f g h B : Nat} (H : wx.cell? ⟨x, 0, none⟩ = some (.complex .f32 a b) ∧ wx.cell? ⟨x, 1, none⟩ = some (.complex .f32 c d) ∧ wx.cell? ⟨x, 2, none⟩ = some (.complex .f32 e f) ∧ wx.cell? ⟨x, 3, none⟩ = some (.complex .f32 g h) ∧ x ≠ B) : wx.drew.cell? ⟨x, 0, none⟩ = some (.complex .f32 a b) ∧ wx.drew.cell? ⟨x, 1, none⟩ = some (.complex .f32 c d) ∧ wx.drew.cell? ⟨x, 2, none⟩ = some (.complex .f32 e f) ∧ wx.drew.cell? ⟨x, 3, none⟩ = some (.complex .f32 g h) ∧ x ≠ B := H
theorem mat_set {wx : World} {x a b c d e f g h B : Nat} (H : wx.cell? ⟨x, 0, none⟩ = some (.complex .f32 a b) ∧ wx.cell? ⟨x, 1, none⟩ = some (.complex .f32 c d) ∧ wx.cell? ⟨x, 2, none⟩ = some (.complex .f32 e f) ∧ wx.cell? ⟨x, 3, none⟩ = some (.complex .f32 g h) ∧ x ≠ B) (i : Nat) (u : Value) : (wx.setCell ⟨B, i, none⟩ u).cell? ⟨x, 0, none⟩ = some (.complex .f32 a b) ∧ (wx.setCell ⟨B, i, none⟩ u).cell? ⟨x, 1, none⟩ = some (.complex .f32 c d) ∧ (wx.setCell ⟨B, i, none⟩ u).cell? ⟨x, 2, none⟩ = some (.complex .f32 e f) ∧ (wx.setCell ⟨B, i, none⟩ u).cell? ⟨x, 3, none⟩ = some (.complex .f32 g h) ∧ x ≠ B := by
  obtain ⟨h0, h1, h2, h3, hne⟩ := H
  have key : ∀ (j : Nat) (v : Value), wx.cell? ⟨x, j, none⟩ = some v → (wx.setCell ⟨B, i, none⟩ u).cell? ⟨x, j, none⟩ = some v := by
    intro j v hv
    rw [World.cell?_of_block (w := wx) (Below.heap_setCell _ _ _ _ (by show x ≠ B; exact hne))]
    exact hv
  exact ⟨key _ _ h0, key _ _ h1, key _ _ h2, key _ _ h3, hne⟩

set_option maxRecDepth 8000 in
set_option maxHeartbeats 4000000 in
theorem matrix_any {x cap a b c d e f g h : Nat} {w : World} (h0 : w.cell? ⟨x, 0, none⟩ = some (.complex .f32 a b)) (h1 : w.cell? ⟨x, 1, none⟩ = some (.complex .f32 c d)) (h2 : w.cell? ⟨x, 2, none⟩ = some (.complex .f32 e f)) (h3 : w.cell? ⟨x, 3, none⟩ = some (.complex .f32 g h)) :
    Calls Tryd.prog 12 #[.slice (some ⟨x, 0, none⟩) 4 cap] w fun z w' => z = .returned (.agg #[.complex .f32 a b, .complex .f32 c d, .complex .f32 e f, .complex .f32 g h]) ∧ Calm w w' := by
  have xl := World.block_lt_of_cell? w _ h0
  dsimp only at xl
  have Z0 := Blk.new w 0 0 0 0 0 0 0 0
  have C0 := calm_new w (.cells #[.complex .f32 0 0, .complex .f32 0 0, .complex .f32 0 0, .complex .f32 0 0] 37)
  have hne : x ≠ w.heap.size := by omega
  have kb : ∀ (i : Nat) (v : Value), w.cell? ⟨x, i, none⟩ = some v → (w.alloc (.cells #[.complex .f32 0 0, .complex .f32 0 0, .complex .f32 0 0, .complex .f32 0 0] 37)).cell? ⟨x, i, none⟩ = some v := by
    intro i v hv
    rw [World.cell?_of_block (w := w) (C0.block x xl (fun e => by cases e))]
    exact hv
  have HS0 := (⟨kb _ _ h0, kb _ _ h1, kb _ _ h2, kb _ _ h3, hne⟩ : (w.alloc (.cells #[.complex .f32 0 0, .complex .f32 0 0, .complex .f32 0 0, .complex .f32 0 0] 37)).cell? ⟨x, 0, none⟩ = some (.complex .f32 a b) ∧ (w.alloc (.cells #[.complex .f32 0 0, .complex .f32 0 0, .complex .f32 0 0, .complex .f32 0 0] 37)).cell? ⟨x, 1, none⟩ = some (.complex .f32 c d) ∧ (w.alloc (.cells #[.complex .f32 0 0, .complex .f32 0 0, .complex .f32 0 0, .complex .f32 0 0] 37)).cell? ⟨x, 2, none⟩ = some (.complex .f32 e f) ∧ (w.alloc (.cells #[.complex .f32 0 0, .complex .f32 0 0, .complex .f32 0 0, .complex .f32 0 0] 37)).cell? ⟨x, 3, none⟩ = some (.complex .f32 g h) ∧ x ≠ w.heap.size)
  have Z1 := Z0.drew
  have K1 : Calm w (w.alloc (.cells #[.complex .f32 0 0, .complex .f32 0 0, .complex .f32 0 0, .complex .f32 0 0] 37)).drew := grown_drew C0
  clear kb h0 h1 h2 h3
  go_enter Tryd.func12, Tryd.ntmps12
  go_wp2_with fail
  generalize (w.alloc (.cells #[.complex .f32 0 0, .complex .f32 0 0, .complex .f32 0 0, .complex .f32 0 0] 37)) = w0 at *
  generalize hB : w.heap.size = B at *
  have zz0 := Z1.c0
  have zz1 := Z1.c1
  have zz2 := Z1.c2
  have zz3 := Z1.c3
  have ff0 := Z1.fr 0
  have ff1 := Z1.fr 1
  have ff2 := Z1.fr 2
  have ff3 := Z1.fr 3
  have zl := Z1.lt
  have yy0 := Z0.c0
  have yy1 := Z0.c1
  have yy2 := Z0.c2
  have yy3 := Z0.c3
  have gg0 := Z0.fr 0
  have gg1 := Z0.fr 1
  have gg2 := Z0.fr 2
  have gg3 := Z0.fr 3
  have yl := Z0.lt
  refine wp_region_noPanic ?_
  refine wp_region_held_drew (S := fun w' => w'.cell? ⟨x, 0, none⟩ = some (.complex .f32 a b) ∧ w'.cell? ⟨x, 1, none⟩ = some (.complex .f32 c d) ∧ w'.cell? ⟨x, 2, none⟩ = some (.complex .f32 e f) ∧ w'.cell? ⟨x, 3, none⟩ = some (.complex .f32 g h) ∧ x ≠ B) (by kernel_rfl) ?_ (fun hHeld => ?_)
  · (try dsimp only)
    first | with_reducible assumption | with_reducible exact mat_drew ‹_› | with_reducible exact mat_set (mat_set (mat_set (mat_set ‹_› _ _) _ _) _ _) _ _ | with_reducible exact mat_drew (mat_set (mat_set (mat_set (mat_set ‹_› _ _) _ _) _ _) _ _) | with_reducible exact mat_drew (mat_set (mat_set (mat_set (mat_set HS0 _ _) _ _) _ _) _ _) | with_reducible exact mat_set (mat_set (mat_set (mat_set (mat_drew ‹_›) _ _) _ _) _ _) _ _
  first
  | (refine wpAnyH_take (i := 0) (v := undef) (by (try simp only [List.getElem?_toArray, List.getElem?_cons_zero]); first | done | rfl) (by kernel_rfl) (by kernel_rfl) (by kernel_rfl) (fun _ _ _ h => h) (Or.inr ⟨by rfl, rfl⟩) (by assumption) ?_)
  | (refine wpAnyH_take (i := 0) (v := ?_) (by (try simp only [List.getElem?_toArray, List.getElem?_cons_zero]); first | done | rfl) (by kernel_rfl) (by kernel_rfl) (by kernel_rfl) (fun _ _ _ h => h) (Or.inl ⟨by rfl, ?_⟩) (by assumption) ?_
     rotate_left 1
     · (intro wz hSw; (try dsimp only at hSw); go_simp; try with_reducible rfl))
  try simp only [Act.put, List.setIfInBounds_toArray, List.set_cons_zero, List.set_cons_succ]
  first
  | (refine wpAnyH_take (i := 1) (v := undef) (by (try simp only [List.getElem?_toArray, List.getElem?_cons_zero, List.getElem?_cons_succ]); first | done | rfl) (by kernel_rfl) (by kernel_rfl) (by kernel_rfl) (fun _ _ _ h => h) (Or.inr ⟨by rfl, rfl⟩) (by assumption) ?_)
  | (refine wpAnyH_take (i := 1) (v := ?_) (by (try simp only [List.getElem?_toArray, List.getElem?_cons_zero, List.getElem?_cons_succ]); first | done | rfl) (by kernel_rfl) (by kernel_rfl) (by kernel_rfl) (fun _ _ _ h => h) (Or.inl ⟨by rfl, ?_⟩) (by assumption) ?_
     rotate_left 1
     · (intro wz hSw; (try dsimp only at hSw); go_simp; try with_reducible rfl))
  try simp only [Act.put, List.setIfInBounds_toArray, List.set_cons_zero, List.set_cons_succ]
  first
  | (refine wpAnyH_take (i := 2) (v := undef) (by (try simp only [List.getElem?_toArray, List.getElem?_cons_zero, List.getElem?_cons_succ]); first | done | rfl) (by kernel_rfl) (by kernel_rfl) (by kernel_rfl) (fun _ _ _ h => h) (Or.inr ⟨by rfl, rfl⟩) (by assumption) ?_)
  | (refine wpAnyH_take (i := 2) (v := ?_) (by (try simp only [List.getElem?_toArray, List.getElem?_cons_zero, List.getElem?_cons_succ]); first | done | rfl) (by kernel_rfl) (by kernel_rfl) (by kernel_rfl) (fun _ _ _ h => h) (Or.inl ⟨by rfl, ?_⟩) (by assumption) ?_
     rotate_left 1
     · (intro wz hSw; (try dsimp only at hSw); go_simp; try with_reducible rfl))
  try simp only [Act.put, List.setIfInBounds_toArray, List.set_cons_zero, List.set_cons_succ]
  first
  | (refine wpAnyH_take (i := 3) (v := undef) (by (try simp only [List.getElem?_toArray, List.getElem?_cons_zero, List.getElem?_cons_succ]); first | done | rfl) (by kernel_rfl) (by kernel_rfl) (by kernel_rfl) (fun _ _ _ h => h) (Or.inr ⟨by rfl, rfl⟩) (by assumption) ?_)
  | (refine wpAnyH_take (i := 3) (v := ?_) (by (try simp only [List.getElem?_toArray, List.getElem?_cons_zero, List.getElem?_cons_succ]); first | done | rfl) (by kernel_rfl) (by kernel_rfl) (by kernel_rfl) (fun _ _ _ h => h) (Or.inl ⟨by rfl, ?_⟩) (by assumption) ?_
     rotate_left 1
     · (intro wz hSw; (try dsimp only at hSw); go_simp; try with_reducible rfl))
  try simp only [Act.put, List.setIfInBounds_toArray, List.set_cons_zero, List.set_cons_succ]
  first
  | (refine wpAnyH_take (i := 4) (v := undef) (by (try simp only [List.getElem?_toArray, List.getElem?_cons_zero, List.getElem?_cons_succ]); first | done | rfl) (by kernel_rfl) (by kernel_rfl) (by kernel_rfl) (fun _ _ _ h => h) (Or.inr ⟨by rfl, rfl⟩) (by assumption) ?_)
  | (refine wpAnyH_take (i := 4) (v := ?_) (by (try simp only [List.getElem?_toArray, List.getElem?_cons_zero, List.getElem?_cons_succ]); first | done | rfl) (by kernel_rfl) (by kernel_rfl) (by kernel_rfl) (fun _ _ _ h => h) (Or.inl ⟨by rfl, ?_⟩) (by assumption) ?_
     rotate_left 1
     · (intro wz hSw; (try dsimp only at hSw); go_simp; try with_reducible rfl))
  try simp only [Act.put, List.setIfInBounds_toArray, List.set_cons_zero, List.set_cons_succ]
  first
  | (refine wpAnyH_take (i := 5) (v := undef) (by (try simp only [List.getElem?_toArray, List.getElem?_cons_zero, List.getElem?_cons_succ]); first | done | rfl) (by kernel_rfl) (by kernel_rfl) (by kernel_rfl) (fun _ _ _ h => h) (Or.inr ⟨by rfl, rfl⟩) (by assumption) ?_)
  | (refine wpAnyH_take (i := 5) (v := ?_) (by (try simp only [List.getElem?_toArray, List.getElem?_cons_zero, List.getElem?_cons_succ]); first | done | rfl) (by kernel_rfl) (by kernel_rfl) (by kernel_rfl) (fun _ _ _ h => h) (Or.inl ⟨by rfl, ?_⟩) (by assumption) ?_
     rotate_left 1
     · (intro wz hSw; (try dsimp only at hSw); go_simp; try with_reducible rfl))
  try simp only [Act.put, List.setIfInBounds_toArray, List.set_cons_zero, List.set_cons_succ]
  first
  | (refine wpAnyH_take (i := 6) (v := undef) (by (try simp only [List.getElem?_toArray, List.getElem?_cons_zero, List.getElem?_cons_succ]); first | done | rfl) (by kernel_rfl) (by kernel_rfl) (by kernel_rfl) (fun _ _ _ h => h) (Or.inr ⟨by rfl, rfl⟩) (by assumption) ?_)
  | (refine wpAnyH_take (i := 6) (v := ?_) (by (try simp only [List.getElem?_toArray, List.getElem?_cons_zero, List.getElem?_cons_succ]); first | done | rfl) (by kernel_rfl) (by kernel_rfl) (by kernel_rfl) (fun _ _ _ h => h) (Or.inl ⟨by rfl, ?_⟩) (by assumption) ?_
     rotate_left 1
     · (intro wz hSw; (try dsimp only at hSw); go_simp; try with_reducible rfl))
  try simp only [Act.put, List.setIfInBounds_toArray, List.set_cons_zero, List.set_cons_succ]
  first
  | (refine wpAnyH_take (i := 7) (v := undef) (by (try simp only [List.getElem?_toArray, List.getElem?_cons_zero, List.getElem?_cons_succ]); first | done | rfl) (by kernel_rfl) (by kernel_rfl) (by kernel_rfl) (fun _ _ _ h => h) (Or.inr ⟨by rfl, rfl⟩) (by assumption) ?_)
  | (refine wpAnyH_take (i := 7) (v := ?_) (by (try simp only [List.getElem?_toArray, List.getElem?_cons_zero, List.getElem?_cons_succ]); first | done | rfl) (by kernel_rfl) (by kernel_rfl) (by kernel_rfl) (fun _ _ _ h => h) (Or.inl ⟨by rfl, ?_⟩) (by assumption) ?_
     rotate_left 1
     · (intro wz hSw; (try dsimp only at hSw); go_simp; try with_reducible rfl))
  try simp only [Act.put, List.setIfInBounds_toArray, List.set_cons_zero, List.set_cons_succ]
  first
  | (refine wpAnyH_take (i := 8) (v := undef) (by (try simp only [List.getElem?_toArray, List.getElem?_cons_zero, List.getElem?_cons_succ]); first | done | rfl) (by kernel_rfl) (by kernel_rfl) (by kernel_rfl) (fun _ _ _ h => h) (Or.inr ⟨by rfl, rfl⟩) (by assumption) ?_)
  | (refine wpAnyH_take (i := 8) (v := ?_) (by (try simp only [List.getElem?_toArray, List.getElem?_cons_zero, List.getElem?_cons_succ]); first | done | rfl) (by kernel_rfl) (by kernel_rfl) (by kernel_rfl) (fun _ _ _ h => h) (Or.inl ⟨by rfl, ?_⟩) (by assumption) ?_
     rotate_left 1
     · (intro wz hSw; (try dsimp only at hSw); go_simp; try with_reducible rfl))
  try simp only [Act.put, List.setIfInBounds_toArray, List.set_cons_zero, List.set_cons_succ]
  first
  | (refine wpAnyH_take (i := 9) (v := undef) (by (try simp only [List.getElem?_toArray, List.getElem?_cons_zero, List.getElem?_cons_succ]); first | done | rfl) (by kernel_rfl) (by kernel_rfl) (by kernel_rfl) (fun _ _ _ h => h) (Or.inr ⟨by rfl, rfl⟩) (by assumption) ?_)
  | (refine wpAnyH_take (i := 9) (v := ?_) (by (try simp only [List.getElem?_toArray, List.getElem?_cons_zero, List.getElem?_cons_succ]); first | done | rfl) (by kernel_rfl) (by kernel_rfl) (by kernel_rfl) (fun _ _ _ h => h) (Or.inl ⟨by rfl, ?_⟩) (by assumption) ?_
     rotate_left 1
     · (intro wz hSw; (try dsimp only at hSw); go_simp; try with_reducible rfl))
  try simp only [Act.put, List.setIfInBounds_toArray, List.set_cons_zero, List.set_cons_succ]
  first
  | (refine wpAnyH_take (i := 10) (v := undef) (by (try simp only [List.getElem?_toArray, List.getElem?_cons_zero, List.getElem?_cons_succ]); first | done | rfl) (by kernel_rfl) (by kernel_rfl) (by kernel_rfl) (fun _ _ _ h => h) (Or.inr ⟨by rfl, rfl⟩) (by assumption) ?_)
  | (refine wpAnyH_take (i := 10) (v := ?_) (by (try simp only [List.getElem?_toArray, List.getElem?_cons_zero, List.getElem?_cons_succ]); first | done | rfl) (by kernel_rfl) (by kernel_rfl) (by kernel_rfl) (fun _ _ _ h => h) (Or.inl ⟨by rfl, ?_⟩) (by assumption) ?_
     rotate_left 1
     · (intro wz hSw; (try dsimp only at hSw); go_simp; try with_reducible rfl))
  try simp only [Act.put, List.setIfInBounds_toArray, List.set_cons_zero, List.set_cons_succ]
  first
  | (refine wpAnyH_take (i := 11) (v := undef) (by (try simp only [List.getElem?_toArray, List.getElem?_cons_zero, List.getElem?_cons_succ]); first | done | rfl) (by kernel_rfl) (by kernel_rfl) (by kernel_rfl) (fun _ _ _ h => h) (Or.inr ⟨by rfl, rfl⟩) (by assumption) ?_)
  | (refine wpAnyH_take (i := 11) (v := ?_) (by (try simp only [List.getElem?_toArray, List.getElem?_cons_zero, List.getElem?_cons_succ]); first | done | rfl) (by kernel_rfl) (by kernel_rfl) (by kernel_rfl) (fun _ _ _ h => h) (Or.inl ⟨by rfl, ?_⟩) (by assumption) ?_
     rotate_left 1
     · (intro wz hSw; (try dsimp only at hSw); go_simp; try with_reducible rfl))
  try simp only [Act.put, List.setIfInBounds_toArray, List.set_cons_zero, List.set_cons_succ]
  first
  | (refine wpAnyH_take (i := 12) (v := undef) (by (try simp only [List.getElem?_toArray, List.getElem?_cons_zero, List.getElem?_cons_succ]); first | done | rfl) (by kernel_rfl) (by kernel_rfl) (by kernel_rfl) (fun _ _ _ h => h) (Or.inr ⟨by rfl, rfl⟩) (by assumption) ?_)
  | (refine wpAnyH_take (i := 12) (v := ?_) (by (try simp only [List.getElem?_toArray, List.getElem?_cons_zero, List.getElem?_cons_succ]); first | done | rfl) (by kernel_rfl) (by kernel_rfl) (by kernel_rfl) (fun _ _ _ h => h) (Or.inl ⟨by rfl, ?_⟩) (by assumption) ?_
     rotate_left 1
     · (intro wz hSw; (try dsimp only at hSw); go_simp; try with_reducible rfl))
  try simp only [Act.put, List.setIfInBounds_toArray, List.set_cons_zero, List.set_cons_succ]
  first
  | (refine wpAnyH_take (i := 13) (v := undef) (by (try simp only [List.getElem?_toArray, List.getElem?_cons_zero, List.getElem?_cons_succ]); first | done | rfl) (by kernel_rfl) (by kernel_rfl) (by kernel_rfl) (fun _ _ _ h => h) (Or.inr ⟨by rfl, rfl⟩) (by assumption) ?_)
  | (refine wpAnyH_ready (rs := [13]) (by kernel_rfl) (by simp) ?_
     refine AllReadyH.cons (by (try simp only [List.getElem?_toArray, List.getElem?_cons_zero, List.getElem?_cons_succ]); first | done | rfl) (fun K hK => ?_) AllReadyH.nil
     go_simp
     skip
     refine hK.out _ _ ?_ (fun hHeld => ?_)
     · (try dsimp only)
       first | with_reducible assumption | with_reducible exact mat_drew ‹_› | with_reducible exact mat_set (mat_set (mat_set (mat_set ‹_› _ _) _ _) _ _) _ _ | with_reducible exact mat_drew (mat_set (mat_set (mat_set (mat_set ‹_› _ _) _ _) _ _) _ _) | with_reducible exact mat_drew (mat_set (mat_set (mat_set (mat_set HS0 _ _) _ _) _ _) _ _) | with_reducible exact mat_set (mat_set (mat_set (mat_set (mat_drew ‹_›) _ _) _ _) _ _) _ _
     clear hK K)
  try simp only [Act.put, List.setIfInBounds_toArray, List.set_cons_zero, List.set_cons_succ]
  refine wpAnyH_done (by kernel_rfl) ?_ _
  refine NoPanic.normal ?_
  go_wp2_with fail
  first
  | (refine bodyPost_ret (results_two rfl _ rfl ((((Z1.s0 _ _).s1 _ _).s2 _ _).s3 _ _)) rfl ?_
     exact ⟨rfl, calm_set4 K1 (by omega) _ _ _ _⟩)
  | (refine bodyPost_ret (results_two rfl _ rfl ((((Z0.s0 _ _).s1 _ _).s2 _ _).s3 _ _).drew) rfl ?_
     exact ⟨rfl, grown_drew (calm_set4 C0 (by omega) _ _ _ _)⟩)

end Go.Proofs.YthbebgnjidaokaaDoor
