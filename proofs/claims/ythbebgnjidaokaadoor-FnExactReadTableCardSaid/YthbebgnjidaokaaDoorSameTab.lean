/-
  Numbers, matrices and tables compared, where their numbers are the same and not always the same words (0 and -0).
-/
import Derived.Test.YthbebgnjidaokaaDoorC3
import Derived.Test.YthbebgnjidaokaaDoorWTableOk
import Derived.Test.YthbebgnjidaokaaDoorReadTc
import Derived.Test.YthbebgnjidaokaaDoorSameCol
namespace Go.Proofs.YthbebgnjidaokaaDoor
open Go.RowKit Fl

/-- Two parts are the same number. -/
def pE (x y : Nat) : Bool := FloatKind.f64.format.order (yW x) (yW y) == some .eq
/-- Two finite numbers, and that they are the same. -/
structure NumF (a b c d : Nat) : Prop where
  fa : fin .f32 a = true
  fb : fin .f32 b = true
  fc : fin .f32 c = true
  fd : fin .f32 d = true
structure NumE (a b c d : Nat) : Prop extends NumF a b c d where
  re : pE a c = true
  im : pE b d = true
theorem NumE.refl {a b : Nat} (ha : fin .f32 a = true) (hb : fin .f32 b = true) : NumE a b a b := by
  refine ⟨⟨ha, hb, ha, hb⟩, ?_, ?_⟩
  · unfold pE; rw [order_self _ (fin_not_nan (yW_spec ha).2.1)]; rfl
  · unfold pE; rw [order_self _ (fin_not_nan (yW_spec hb).2.1)]; rfl

/-- Two rows are the same. -/
structure RowE (r s : RowW) : Prop where
  f : r.f = s.f
  a : NumE r.m.a r.m.b s.m.a s.m.b
  b : NumE r.m.c r.m.d s.m.c s.m.d
  c : NumE r.m.e r.m.f s.m.e s.m.f
  d : NumE r.m.g r.m.h s.m.g s.m.h
/-- A list of rows, or none. -/
def TRow (w : World) (a : Option Addr) (rs : List RowW) : Prop := rs = [] ∨ ∃ g, a = some ⟨g, 0, none⟩ ∧ Row5 w g rs
theorem TRow.calm {w w' : World} {a : Option Addr} {rs : List RowW} (H : TRow w a rs) (C : Calm w w') : TRow w' a rs := by
  rcases H with h | ⟨g, h1, h2⟩
  · exact .inl h
  · exact .inr ⟨g, h1, h2.calm C⟩

/-! What a round reads. -/
theorem tabs_drew {w wx : World} {g h n : Nat} {f : Int} {m m' : Words} (H : wx.cell? ⟨g, n * 5, none⟩ = some (.int .i64 f) ∧ wx.cell? ⟨g, n * 5 + 1, none⟩ = some (.complex .f32 m.a m.b) ∧ wx.cell? ⟨g, n * 5 + 2, none⟩ = some (.complex .f32 m.c m.d) ∧ wx.cell? ⟨g, n * 5 + 3, none⟩ = some (.complex .f32 m.e m.f) ∧ wx.cell? ⟨g, n * 5 + 4, none⟩ = some (.complex .f32 m.g m.h) ∧ wx.cell? ⟨h, n * 5, none⟩ = some (.int .i64 f) ∧ wx.cell? ⟨h, n * 5 + 1, none⟩ = some (.complex .f32 m'.a m'.b) ∧ wx.cell? ⟨h, n * 5 + 2, none⟩ = some (.complex .f32 m'.c m'.d) ∧ wx.cell? ⟨h, n * 5 + 3, none⟩ = some (.complex .f32 m'.e m'.f) ∧ wx.cell? ⟨h, n * 5 + 4, none⟩ = some (.complex .f32 m'.g m'.h) ∧ Calm w wx) : wx.drew.cell? ⟨g, n * 5, none⟩ = some (.int .i64 f) ∧ wx.drew.cell? ⟨g, n * 5 + 1, none⟩ = some (.complex .f32 m.a m.b) ∧ wx.drew.cell? ⟨g, n * 5 + 2, none⟩ = some (.complex .f32 m.c m.d) ∧ wx.drew.cell? ⟨g, n * 5 + 3, none⟩ = some (.complex .f32 m.e m.f) ∧ wx.drew.cell? ⟨g, n * 5 + 4, none⟩ = some (.complex .f32 m.g m.h) ∧ wx.drew.cell? ⟨h, n * 5, none⟩ = some (.int .i64 f) ∧ wx.drew.cell? ⟨h, n * 5 + 1, none⟩ = some (.complex .f32 m'.a m'.b) ∧ wx.drew.cell? ⟨h, n * 5 + 2, none⟩ = some (.complex .f32 m'.c m'.d) ∧ wx.drew.cell? ⟨h, n * 5 + 3, none⟩ = some (.complex .f32 m'.e m'.f) ∧ wx.drew.cell? ⟨h, n * 5 + 4, none⟩ = some (.complex .f32 m'.g m'.h) ∧ Calm w wx.drew := by
  obtain ⟨a, b, c, d, e, a', b', c', d', e', C⟩ := H
  exact ⟨a, b, c, d, e, a', b', c', d', e', grown_drew C⟩
theorem tabs_calm {w wx wy : World} {g h n : Nat} {f : Int} {m m' : Words} (K : Calm wx wy) (H : wx.cell? ⟨g, n * 5, none⟩ = some (.int .i64 f) ∧ wx.cell? ⟨g, n * 5 + 1, none⟩ = some (.complex .f32 m.a m.b) ∧ wx.cell? ⟨g, n * 5 + 2, none⟩ = some (.complex .f32 m.c m.d) ∧ wx.cell? ⟨g, n * 5 + 3, none⟩ = some (.complex .f32 m.e m.f) ∧ wx.cell? ⟨g, n * 5 + 4, none⟩ = some (.complex .f32 m.g m.h) ∧ wx.cell? ⟨h, n * 5, none⟩ = some (.int .i64 f) ∧ wx.cell? ⟨h, n * 5 + 1, none⟩ = some (.complex .f32 m'.a m'.b) ∧ wx.cell? ⟨h, n * 5 + 2, none⟩ = some (.complex .f32 m'.c m'.d) ∧ wx.cell? ⟨h, n * 5 + 3, none⟩ = some (.complex .f32 m'.e m'.f) ∧ wx.cell? ⟨h, n * 5 + 4, none⟩ = some (.complex .f32 m'.g m'.h) ∧ Calm w wx) : wy.cell? ⟨g, n * 5, none⟩ = some (.int .i64 f) ∧ wy.cell? ⟨g, n * 5 + 1, none⟩ = some (.complex .f32 m.a m.b) ∧ wy.cell? ⟨g, n * 5 + 2, none⟩ = some (.complex .f32 m.c m.d) ∧ wy.cell? ⟨g, n * 5 + 3, none⟩ = some (.complex .f32 m.e m.f) ∧ wy.cell? ⟨g, n * 5 + 4, none⟩ = some (.complex .f32 m.g m.h) ∧ wy.cell? ⟨h, n * 5, none⟩ = some (.int .i64 f) ∧ wy.cell? ⟨h, n * 5 + 1, none⟩ = some (.complex .f32 m'.a m'.b) ∧ wy.cell? ⟨h, n * 5 + 2, none⟩ = some (.complex .f32 m'.c m'.d) ∧ wy.cell? ⟨h, n * 5 + 3, none⟩ = some (.complex .f32 m'.e m'.f) ∧ wy.cell? ⟨h, n * 5 + 4, none⟩ = some (.complex .f32 m'.g m'.h) ∧ Calm w wy := by
  obtain ⟨a, b, c, d, e, a', b', c', d', e', C⟩ := H
  have hb := K.block g (World.block_lt_of_cell? wx _ a) (fun e => by cases e)
  have hb' := K.block h (World.block_lt_of_cell? wx _ a') (fun e => by cases e)
  refine ⟨?_, ?_, ?_, ?_, ?_, ?_, ?_, ?_, ?_, ?_, calm_trans C K⟩
  all_goals first | (rw [World.cell?_of_block (w := wx) hb]; assumption) | (rw [World.cell?_of_block (w := wx) hb']; assumption)
theorem tabs_done {w wx : World} {g h n : Nat} {f : Int} {m m' : Words} (H : wx.cell? ⟨g, n * 5, none⟩ = some (.int .i64 f) ∧ wx.cell? ⟨g, n * 5 + 1, none⟩ = some (.complex .f32 m.a m.b) ∧ wx.cell? ⟨g, n * 5 + 2, none⟩ = some (.complex .f32 m.c m.d) ∧ wx.cell? ⟨g, n * 5 + 3, none⟩ = some (.complex .f32 m.e m.f) ∧ wx.cell? ⟨g, n * 5 + 4, none⟩ = some (.complex .f32 m.g m.h) ∧ wx.cell? ⟨h, n * 5, none⟩ = some (.int .i64 f) ∧ wx.cell? ⟨h, n * 5 + 1, none⟩ = some (.complex .f32 m'.a m'.b) ∧ wx.cell? ⟨h, n * 5 + 2, none⟩ = some (.complex .f32 m'.c m'.d) ∧ wx.cell? ⟨h, n * 5 + 3, none⟩ = some (.complex .f32 m'.e m'.f) ∧ wx.cell? ⟨h, n * 5 + 4, none⟩ = some (.complex .f32 m'.g m'.h) ∧ Calm w wx) : Calm w wx := H.2.2.2.2.2.2.2.2.2.2

theorem rowE_refl {r : RowW} (h : r.finB = true) : RowE r r := by
  unfold RowW.finB finTwo at h
  simp only [Bool.and_eq_true] at h
  obtain ⟨⟨⟨⟨a, b⟩, c, d⟩, e, f⟩, g, i⟩ := h
  exact ⟨rfl, .refl a b, .refl c d, .refl e f, .refl g i⟩
theorem rowsB_fin (rs : List RowW) : ∀ p, rowsB p rs = true → ∀ r ∈ rs, r.finB = true := by
  induction rs with
  | nil => intro p _ r hr; simp at hr
  | cons x xs ih =>
    intro p h r hr
    have h' : (freqB x.f && x.finB && afterB p x.f && rowsB (some x.f) xs) = true := h
    simp only [Bool.and_eq_true] at h'
    rcases List.mem_cons.1 hr with rfl | hr
    · exact h'.1.1.2
    · exact ih _ h'.2 r hr
theorem tabB_fin {rs : List RowW} (h : tabB rs = true) : ∀ r ∈ rs, r.finB = true := by
  unfold tabB at h
  simp only [Bool.and_eq_true] at h
  exact rowsB_fin rs none h.1
theorem tabE_refl {rs : List RowW} (h : tabB rs = true ∨ rs = []) : ∀ i, (h1 : i < rs.length) → (h2 : i < rs.length) → RowE rs[i] rs[i] := by
  intro i h1 _
  rcases h with h | rfl
  · exact rowE_refl (tabB_fin h _ (List.getElem_mem h1))
  · simp at h1

theorem trow_own {w : World} {base n : Nat} {v : Value} {rs : List RowW} (O : w.ownsRow base 40 5 v n (cells5 rs)) (hn : rs.length = n) : ∃ a c, v = .slice a n c ∧ TRow w a rs := by
  subst hn
  by_cases hv : v = .slice none 0 0
  · subst hv
    have h0 : rs = [] := by
      have := O.1
      rcases O.2 with ⟨_, h⟩ | ⟨g, c, cur, h, _⟩
      · cases rs with
        | nil => rfl
        | cons r t => exfalso; simp at h
      · cases h
    subst h0
    exact ⟨none, 0, rfl, .inl rfl⟩
  · obtain ⟨g, c, rfl⟩ := own_formT O hv
    exact ⟨some ⟨g, 0, none⟩, c, rfl, .inr ⟨g, rfl, row5_of O⟩⟩

end Go.Proofs.YthbebgnjidaokaaDoor
