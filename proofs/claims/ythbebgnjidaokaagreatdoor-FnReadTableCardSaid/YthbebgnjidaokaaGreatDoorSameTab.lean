/-
  Numbers, matrices and tables compared, where their numbers are the same and not always the same words (0 and -0).
-/
import Derived.Test.YthbebgnjidaokaaGreatDoorC3
import Derived.Test.YthbebgnjidaokaaGreatDoorWTableOk
import Derived.Test.YthbebgnjidaokaaGreatDoorReadTc
import Derived.Test.YthbebgnjidaokaaGreatDoorSameCol
namespace Go.Proofs.YthbebgnjidaokaaGreatDoor
open Go.RowKit Fl

/-- Two parts are the same number. -/
def pE (x y : Nat) : Bool := FloatKind.f64.format.order (yW x) (yW y) == some .eq
/-- Two finite numbers, and that they are the same. -/
structure NumF (a b c d : Nat) : Prop where
  fa : fin .f32 a = true
  fb : fin .f32 b = true
  fc : fin .f32 c = true
  fd : fin .f32 d = true
structure NumE (a b c d : Nat) : Prop extends NumF a b c d where
  re : pE a c = true
  im : pE b d = true
theorem NumE.refl {a b : Nat} (ha : fin .f32 a = true) (hb : fin .f32 b = true) : NumE a b a b := by
  refine ⟨⟨ha, hb, ha, hb⟩, ?_, ?_⟩
  · unfold pE; rw [order_self _ (fin_not_nan (yW_spec ha).2.1)]; rfl
  · unfold pE; rw [order_self _ (fin_not_nan (yW_spec hb).2.1)]; rfl

set_option maxHeartbeats 400000 in
theorem samePart_fin (x y : Nat) (w : World) (hx : FloatKind.f64.format.order x x = some .eq) :
    Calls Tryz.prog 35 #[.float .f64 x, .float .f64 y] w fun e w' => e = .returned (.bool (FloatKind.f64.format.order x y == some .eq)) ∧ ∃ n, w' = w.drewN n := by
  cases hβ : (FloatKind.f64.format.order x y == some .eq)
  all_goals
    go_enter Tryz.func35, Tryz.ntmps35
    go_wp2
    go_ret
    exact ⟨rfl, 0, rfl⟩

set_option maxHeartbeats 400000 in
theorem sameBits_fin {a b c d : Nat} (F : NumF a b c d) (w : World) :
    Calls Tryz.prog 11 #[.complex .f32 a b, .complex .f32 c d] w fun e w' => e = .returned (.bool (pE a c && pE b d)) ∧ ∃ n, w' = w.drewN n := by
  obtain ⟨a1, a2, _⟩ := yW_spec F.fa
  obtain ⟨b1, b2, _⟩ := yW_spec F.fb
  obtain ⟨c1, _, _⟩ := yW_spec F.fc
  obtain ⟨d1, _, _⟩ := yW_spec F.fd
  have ea : ∀ w, fconv .f32 a .f64 w = yW a := fun w => fconv_some w a1
  have eb : ∀ w, fconv .f32 b .f64 w = yW b := fun w => fconv_some w b1
  have ec : ∀ w, fconv .f32 c .f64 w = yW c := fun w => fconv_some w c1
  have ed : ∀ w, fconv .f32 d .f64 w = yW d := fun w => fconv_some w d1
  have sa := Lib.hid (order_self _ (fin_not_nan a2))
  have sb := Lib.hid (order_self _ (fin_not_nan b2))
  obtain ⟨α, hα⟩ : ∃ α, pE a c = α := ⟨_, rfl⟩
  obtain ⟨β, hβ⟩ : ∃ β, pE b d = β := ⟨_, rfl⟩
  rw [hα, hβ]
  unfold pE at hα hβ
  have HA := Lib.hid hα
  have HB := Lib.hid hβ
  clear a1 a2 b1 b2 c1 d1 F hα hβ
  go_enter Tryz.func11, Tryz.ntmps11
  go_wp2_with fail
  refine (samePart_fin _ _ _ sa.out).mono ?_
  rw [HA.out]
  rintro z w1 ⟨rfl, n1, rfl⟩
  cases α
  · go_wp2_with fail
    go_ret
    exact ⟨rfl, _, rfl⟩
  · go_wp2_with fail
    refine (samePart_fin _ _ _ sb.out).mono ?_
    rw [HB.out]
    rintro z w2 ⟨rfl, n2, rfl⟩
    go_wp2_with fail
    go_ret
    exact ⟨rfl, _, rfl⟩

theorem sameBits_eq {a b c d : Nat} (H : NumE a b c d) (w : World) :
    Calls Tryz.prog 11 #[.complex .f32 a b, .complex .f32 c d] w fun e w' => e = .returned (.bool true) ∧ ∃ n, w' = w.drewN n := by
  have := sameBits_fin H.toNumF w
  rw [H.re, H.im] at this
  exact this

set_option maxHeartbeats 1000000 in
theorem sameTwo_eq {a b c d e f g h a' b' c' d' e' f' g' h' : Nat} (h1 : NumE a b a' b') (h2 : NumE c d c' d') (h3 : NumE e f e' f') (h4 : NumE g h g' h') (w : World) :
    Calls Tryz.prog 36 #[twoV a b c d e f g h, twoV a' b' c' d' e' f' g' h'] w fun x w' => x = .returned (.bool true) ∧ Calm w w' := by
  go_enter Tryz.func36, Tryz.ntmps36
  go_wp2_with fail
  refine (sameBits_eq h1 _).mono ?_
  rintro e w1 ⟨rfl, n1, rfl⟩
  go_wp2_with fail
  refine (sameBits_eq h2 _).mono ?_
  rintro e w2 ⟨rfl, n2, rfl⟩
  go_wp2_with fail
  refine (sameBits_eq h3 _).mono ?_
  rintro e w3 ⟨rfl, n3, rfl⟩
  go_wp2_with fail
  refine (sameBits_eq h4 _).mono ?_
  rintro e w4 ⟨rfl, n4, rfl⟩
  go_wp2_with fail
  go_ret
  exact ⟨rfl, grown_drewN (calm_allocR (calm_new w _) _) _⟩

/-- Two rows are the same. -/
structure RowE (r s : RowW) : Prop where
  f : r.f = s.f
  a : NumE r.m.a r.m.b s.m.a s.m.b
  b : NumE r.m.c r.m.d s.m.c s.m.d
  c : NumE r.m.e r.m.f s.m.e s.m.f
  d : NumE r.m.g r.m.h s.m.g s.m.h
/-- A list of rows, or none. -/
def TRow (w : World) (a : Option Addr) (rs : List RowW) : Prop := rs = [] ∨ ∃ g, a = some ⟨g, 0, none⟩ ∧ Row5 w g rs
theorem TRow.calm {w w' : World} {a : Option Addr} {rs : List RowW} (H : TRow w a rs) (C : Calm w w') : TRow w' a rs := by
  rcases H with h | ⟨g, h1, h2⟩
  · exact .inl h
  · exact .inr ⟨g, h1, h2.calm C⟩

/-! What a round reads. -/
theorem tabs_drew {w wx : World} {g h n : Nat} {f : Int} {m m' : Words} (H : wx.cell? ⟨g, n * 5, none⟩ = some (.int .i64 f) ∧ wx.cell? ⟨g, n * 5 + 1, none⟩ = some (.complex .f32 m.a m.b) ∧ wx.cell? ⟨g, n * 5 + 2, none⟩ = some (.complex .f32 m.c m.d) ∧ wx.cell? ⟨g, n * 5 + 3, none⟩ = some (.complex .f32 m.e m.f) ∧ wx.cell? ⟨g, n * 5 + 4, none⟩ = some (.complex .f32 m.g m.h) ∧ wx.cell? ⟨h, n * 5, none⟩ = some (.int .i64 f) ∧ wx.cell? ⟨h, n * 5 + 1, none⟩ = some (.complex .f32 m'.a m'.b) ∧ wx.cell? ⟨h, n * 5 + 2, none⟩ = some (.complex .f32 m'.c m'.d) ∧ wx.cell? ⟨h, n * 5 + 3, none⟩ = some (.complex .f32 m'.e m'.f) ∧ wx.cell? ⟨h, n * 5 + 4, none⟩ = some (.complex .f32 m'.g m'.h) ∧ Calm w wx) : wx.drew.cell? ⟨g, n * 5, none⟩ = some (.int .i64 f) ∧ wx.drew.cell? ⟨g, n * 5 + 1, none⟩ = some (.complex .f32 m.a m.b) ∧ wx.drew.cell? ⟨g, n * 5 + 2, none⟩ = some (.complex .f32 m.c m.d) ∧ wx.drew.cell? ⟨g, n * 5 + 3, none⟩ = some (.complex .f32 m.e m.f) ∧ wx.drew.cell? ⟨g, n * 5 + 4, none⟩ = some (.complex .f32 m.g m.h) ∧ wx.drew.cell? ⟨h, n * 5, none⟩ = some (.int .i64 f) ∧ wx.drew.cell? ⟨h, n * 5 + 1, none⟩ = some (.complex .f32 m'.a m'.b) ∧ wx.drew.cell? ⟨h, n * 5 + 2, none⟩ = some (.complex .f32 m'.c m'.d) ∧ wx.drew.cell? ⟨h, n * 5 + 3, none⟩ = some (.complex .f32 m'.e m'.f) ∧ wx.drew.cell? ⟨h, n * 5 + 4, none⟩ = some (.complex .f32 m'.g m'.h) ∧ Calm w wx.drew := by
  obtain ⟨a, b, c, d, e, a', b', c', d', e', C⟩ := H
  exact ⟨a, b, c, d, e, a', b', c', d', e', grown_drew C⟩
theorem tabs_calm {w wx wy : World} {g h n : Nat} {f : Int} {m m' : Words} (K : Calm wx wy) (H : wx.cell? ⟨g, n * 5, none⟩ = some (.int .i64 f) ∧ wx.cell? ⟨g, n * 5 + 1, none⟩ = some (.complex .f32 m.a m.b) ∧ wx.cell? ⟨g, n * 5 + 2, none⟩ = some (.complex .f32 m.c m.d) ∧ wx.cell? ⟨g, n * 5 + 3, none⟩ = some (.complex .f32 m.e m.f) ∧ wx.cell? ⟨g, n * 5 + 4, none⟩ = some (.complex .f32 m.g m.h) ∧ wx.cell? ⟨h, n * 5, none⟩ = some (.int .i64 f) ∧ wx.cell? ⟨h, n * 5 + 1, none⟩ = some (.complex .f32 m'.a m'.b) ∧ wx.cell? ⟨h, n * 5 + 2, none⟩ = some (.complex .f32 m'.c m'.d) ∧ wx.cell? ⟨h, n * 5 + 3, none⟩ = some (.complex .f32 m'.e m'.f) ∧ wx.cell? ⟨h, n * 5 + 4, none⟩ = some (.complex .f32 m'.g m'.h) ∧ Calm w wx) : wy.cell? ⟨g, n * 5, none⟩ = some (.int .i64 f) ∧ wy.cell? ⟨g, n * 5 + 1, none⟩ = some (.complex .f32 m.a m.b) ∧ wy.cell? ⟨g, n * 5 + 2, none⟩ = some (.complex .f32 m.c m.d) ∧ wy.cell? ⟨g, n * 5 + 3, none⟩ = some (.complex .f32 m.e m.f) ∧ wy.cell? ⟨g, n * 5 + 4, none⟩ = some (.complex .f32 m.g m.h) ∧ wy.cell? ⟨h, n * 5, none⟩ = some (.int .i64 f) ∧ wy.cell? ⟨h, n * 5 + 1, none⟩ = some (.complex .f32 m'.a m'.b) ∧ wy.cell? ⟨h, n * 5 + 2, none⟩ = some (.complex .f32 m'.c m'.d) ∧ wy.cell? ⟨h, n * 5 + 3, none⟩ = some (.complex .f32 m'.e m'.f) ∧ wy.cell? ⟨h, n * 5 + 4, none⟩ = some (.complex .f32 m'.g m'.h) ∧ Calm w wy := by
  obtain ⟨a, b, c, d, e, a', b', c', d', e', C⟩ := H
  have hb := K.block g (World.block_lt_of_cell? wx _ a) (fun e => by cases e)
  have hb' := K.block h (World.block_lt_of_cell? wx _ a') (fun e => by cases e)
  refine ⟨?_, ?_, ?_, ?_, ?_, ?_, ?_, ?_, ?_, ?_, calm_trans C K⟩
  all_goals first | (rw [World.cell?_of_block (w := wx) hb]; assumption) | (rw [World.cell?_of_block (w := wx) hb']; assumption)
theorem tabs_done {w wx : World} {g h n : Nat} {f : Int} {m m' : Words} (H : wx.cell? ⟨g, n * 5, none⟩ = some (.int .i64 f) ∧ wx.cell? ⟨g, n * 5 + 1, none⟩ = some (.complex .f32 m.a m.b) ∧ wx.cell? ⟨g, n * 5 + 2, none⟩ = some (.complex .f32 m.c m.d) ∧ wx.cell? ⟨g, n * 5 + 3, none⟩ = some (.complex .f32 m.e m.f) ∧ wx.cell? ⟨g, n * 5 + 4, none⟩ = some (.complex .f32 m.g m.h) ∧ wx.cell? ⟨h, n * 5, none⟩ = some (.int .i64 f) ∧ wx.cell? ⟨h, n * 5 + 1, none⟩ = some (.complex .f32 m'.a m'.b) ∧ wx.cell? ⟨h, n * 5 + 2, none⟩ = some (.complex .f32 m'.c m'.d) ∧ wx.cell? ⟨h, n * 5 + 3, none⟩ = some (.complex .f32 m'.e m'.f) ∧ wx.cell? ⟨h, n * 5 + 4, none⟩ = some (.complex .f32 m'.g m'.h) ∧ Calm w wx) : Calm w wx := H.2.2.2.2.2.2.2.2.2.2

set_option maxRecDepth 8000 in
set_option maxHeartbeats 2000000 in
theorem sameTable_eq {a b : Option Addr} {n c d : Nat} {rs ss : List RowW} {w : World} (ha : TRow w a rs) (hb : TRow w b ss) (hn : rs.length = n) (hm : ss.length = n) (hl : n ≤ 1048577) (he : ∀ i, (h : i < rs.length) → (h' : i < ss.length) → RowE rs[i] ss[i]) :
    Calls Tryz.prog 13 #[.slice a n c, .slice b n d] w fun z w' => z = .returned (.bool true) ∧ Calm w w' := by
  have HA := Lib.hid ha
  have HB := Lib.hid hb
  have HE := Lib.hid he
  clear ha hb he
  go_enter Tryz.func13, Tryz.ntmps13
  go_wp2_with fail
  go_loopw [5] (fun k wr => ∃ j : Nat, j ≤ n ∧ k = .int .i64 j ∧ Calm w wr)
    (fun k _ => n - (intOf k).toNat)
  case atStart => exact ⟨0, by omega, rfl, grown_refl _ _⟩
  case round =>
    obtain ⟨j, hj, rfl, C⟩ := hrel
    have HC := Lib.hid C
    clear C
    by_cases hlt : j < n
    · obtain ⟨g, rfl, hg⟩ := (HA.out.calm HC.out).resolve_left (by intro e; subst e; simp at hn; omega)
      obtain ⟨h, rfl, hh⟩ := (HB.out.calm HC.out).resolve_left (by intro e; subst e; simp at hm; omega)
      obtain ⟨a0, a1, a2, a3, a4⟩ := hg j (by omega)
      obtain ⟨b0, b1, b2, b3, b4⟩ := hh j (by omega)
      have E := HE.out j (by omega) (by omega)
      generalize rs[j] = r at *
      generalize ss[j] = s at *
      have al := World.block_lt_of_cell? wr _ a0
      have bl := World.block_lt_of_cell? wr _ b0
      obtain ⟨f, m⟩ := r
      obtain ⟨f', m'⟩ := s
      have ef : f = f' := E.f
      subst ef
      have HQ := Lib.hid (fun w => sameTwo_eq E.a E.b E.c E.d w)
      dsimp only at a0 a1 a2 a3 a4 b0 b1 b2 b3 b4 al bl HQ
      have HS0 : wr.cell? ⟨g, j * 5, none⟩ = some (.int .i64 f) ∧ wr.cell? ⟨g, j * 5 + 1, none⟩ = some (.complex .f32 m.a m.b) ∧ wr.cell? ⟨g, j * 5 + 2, none⟩ = some (.complex .f32 m.c m.d) ∧ wr.cell? ⟨g, j * 5 + 3, none⟩ = some (.complex .f32 m.e m.f) ∧ wr.cell? ⟨g, j * 5 + 4, none⟩ = some (.complex .f32 m.g m.h) ∧ wr.cell? ⟨h, j * 5, none⟩ = some (.int .i64 f) ∧ wr.cell? ⟨h, j * 5 + 1, none⟩ = some (.complex .f32 m'.a m'.b) ∧ wr.cell? ⟨h, j * 5 + 2, none⟩ = some (.complex .f32 m'.c m'.d) ∧ wr.cell? ⟨h, j * 5 + 3, none⟩ = some (.complex .f32 m'.e m'.f) ∧ wr.cell? ⟨h, j * 5 + 4, none⟩ = some (.complex .f32 m'.g m'.h) ∧ Calm w wr := ⟨a0, a1, a2, a3, a4, b0, b1, b2, b3, b4, HC.out⟩
      clear hg hh E a0 a1 a2 a3 a4 b0 b1 b2 b3 b4
      go_wp2_with fail
      go_region_held3 (fun w' => w'.cell? ⟨g, j * 5, none⟩ = some (.int .i64 f) ∧ w'.cell? ⟨g, j * 5 + 1, none⟩ = some (.complex .f32 m.a m.b) ∧ w'.cell? ⟨g, j * 5 + 2, none⟩ = some (.complex .f32 m.c m.d) ∧ w'.cell? ⟨g, j * 5 + 3, none⟩ = some (.complex .f32 m.e m.f) ∧ w'.cell? ⟨g, j * 5 + 4, none⟩ = some (.complex .f32 m.g m.h) ∧ w'.cell? ⟨h, j * 5, none⟩ = some (.int .i64 f) ∧ w'.cell? ⟨h, j * 5 + 1, none⟩ = some (.complex .f32 m'.a m'.b) ∧ w'.cell? ⟨h, j * 5 + 2, none⟩ = some (.complex .f32 m'.c m'.d) ∧ w'.cell? ⟨h, j * 5 + 3, none⟩ = some (.complex .f32 m'.e m'.f) ∧ w'.cell? ⟨h, j * 5 + 4, none⟩ = some (.complex .f32 m'.g m'.h) ∧ Calm w w') (first | with_reducible assumption | with_reducible exact tabs_drew ‹_› | with_reducible exact tabs_calm ‹_› ‹_› | with_reducible exact tabs_calm ‹_› (tabs_drew ‹_›))
          (first
          | (go_at_call 36; refine Calls.mono (HQ.out _) ?_; rintro e w' ⟨rfl, C⟩))
      have hL := tabs_done ‹_›
      go_wp2_with fail
      exact ⟨⟨j + 1, by omega, by go_num, hL⟩, by simp [intOf]; omega⟩
    · go_wp2_with fail
      go_ret
      exact ⟨rfl, HC.out⟩

theorem rowE_refl {r : RowW} (h : r.finB = true) : RowE r r := by
  unfold RowW.finB finTwo at h
  simp only [Bool.and_eq_true] at h
  obtain ⟨⟨⟨⟨a, b⟩, c, d⟩, e, f⟩, g, i⟩ := h
  exact ⟨rfl, .refl a b, .refl c d, .refl e f, .refl g i⟩
theorem rowsB_fin (rs : List RowW) : ∀ p, rowsB p rs = true → ∀ r ∈ rs, r.finB = true := by
  induction rs with
  | nil => intro p _ r hr; simp at hr
  | cons x xs ih =>
    intro p h r hr
    have h' : (freqB x.f && x.finB && afterB p x.f && rowsB (some x.f) xs) = true := h
    simp only [Bool.and_eq_true] at h'
    rcases List.mem_cons.1 hr with rfl | hr
    · exact h'.1.1.2
    · exact ih _ h'.2 r hr
theorem tabB_fin {rs : List RowW} (h : tabB rs = true) : ∀ r ∈ rs, r.finB = true := by
  unfold tabB at h
  simp only [Bool.and_eq_true] at h
  exact rowsB_fin rs none h.1
theorem tabE_refl {rs : List RowW} (h : tabB rs = true ∨ rs = []) : ∀ i, (h1 : i < rs.length) → (h2 : i < rs.length) → RowE rs[i] rs[i] := by
  intro i h1 _
  rcases h with h | rfl
  · exact rowE_refl (tabB_fin h _ (List.getElem_mem h1))
  · simp at h1

end Go.Proofs.YthbebgnjidaokaaGreatDoor
