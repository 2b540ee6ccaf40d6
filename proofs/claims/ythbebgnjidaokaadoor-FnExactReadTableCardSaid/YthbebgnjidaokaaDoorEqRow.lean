/-
  Tables compared bit by bit, marked, and found marked.
-/
import Derived.Test.YthbebgnjidaokaaDoorSameTab
import Derived.Test.YthbebgnjidaokaaDoorIRow
import Derived.Test.YthbebgnjidaokaaDoorTabW
namespace Go.Proofs.YthbebgnjidaokaaDoor
open Go.RowKit Fl

set_option maxHeartbeats 1000000 in
theorem eqTwo_sameR {a b c d e f g h : Nat} (H : finTwo a b c d e f g h = true) (w : World) :
    Calls Tryd.prog 25 #[twoV a b c d e f g h, twoV a b c d e f g h] w fun x w' => x = .returned (.bool true) ∧ Calm w w' := by
  unfold finTwo at H
  simp only [Bool.and_eq_true] at H
  obtain ⟨⟨⟨⟨ha, hb⟩, hc, hd⟩, he, hf⟩, hg, hh⟩ := H
  have c1 := widen_walk ha hb
  have c2 := widen_walk hc hd
  have c3 := widen_walk he hf
  have c4 := widen_walk hg hh
  clear ha hb hc hd he hf hg hh
  go_enter Tryd.func25, Tryd.ntmps25
  go_wp2_with (go_at_call 33; refine (sameComplex_same _ _ _).mono ?_; rintro e w' ⟨rfl, n, rfl⟩)
  go_ret
  exact ⟨rfl, grown_drewN (Lib.grownBy_allocR (World.grownBy_alloc w _ none) _) _⟩

abbrev rowV (r : RowW) : Value := .agg #[.int .i64 r.f, .complex .f32 r.m.a r.m.b, .complex .f32 r.m.c r.m.d, .complex .f32 r.m.e r.m.f, .complex .f32 r.m.g r.m.h]

set_option maxRecDepth 8000 in
set_option maxHeartbeats 1000000 in
theorem eqRow_same {r : RowW} (H : r.finB = true) (w : World) :
    Calls Tryd.prog 17 #[rowV r, rowV r] w fun x w' => x = .returned (.bool true) ∧ Calm w w' := by
  have HQ := Lib.hid (eqTwo_sameR (show finTwo r.m.a r.m.b r.m.c r.m.d r.m.e r.m.f r.m.g r.m.h = true from H))
  clear H
  have A0 := Lib.hid (At.new w (.cells #[.int .i64 r.f, .complex .f32 r.m.a r.m.b, .complex .f32 r.m.c r.m.d, .complex .f32 r.m.e r.m.f, .complex .f32 r.m.g r.m.h] 40))
  go_enter Tryd.func17, Tryd.ntmps17
  go_wp2_with fail
  refine (HQ.out _).mono ?_
  rintro z w1 ⟨rfl, C⟩
  go_wp2_with fail
  go_ret
  exact ⟨rfl, calm_trans (calm_allocR (calm_new w _) _) C⟩

set_option maxRecDepth 8000 in
set_option maxHeartbeats 2000000 in
theorem eqRowS_same {a b : Option Addr} {n c d : Nat} {rs : List RowW} {w : World} (ha : TRow w a rs) (hb : TRow w b rs) (hn : rs.length = n) (hl : n ≤ 1048577) (he : ∀ r ∈ rs, r.finB = true) :
    Calls Tryd.prog 6 #[.slice a n c, .slice b n d] w fun z w' => z = .returned (.bool true) ∧ Calm w w' := by
  have HA := Lib.hid ha
  have HB := Lib.hid hb
  have HE := Lib.hid he
  clear ha hb he
  go_enter Tryd.func6, Tryd.ntmps6
  go_wp2_with fail
  go_loopw [5] (fun k wr => ∃ j : Nat, j ≤ n ∧ k = .int .i64 j ∧ Calm w wr)
    (fun k _ => n - (intOf k).toNat)
  case atStart => exact ⟨0, by omega, rfl, grown_refl _ _⟩
  case round =>
    obtain ⟨j, hj, rfl, C⟩ := hrel
    have HC := Lib.hid C
    clear C
    by_cases hlt : j < n
    · obtain ⟨g, rfl, hg⟩ := (HA.out.calm HC.out).resolve_left (by intro e; subst e; simp at hn; omega)
      obtain ⟨h, rfl, hh⟩ := (HB.out.calm HC.out).resolve_left (by intro e; subst e; simp at hn; omega)
      obtain ⟨a0, a1, a2, a3, a4⟩ := hg j (by omega)
      obtain ⟨b0, b1, b2, b3, b4⟩ := hh j (by omega)
      have E := HE.out rs[j] (List.getElem_mem (by omega))
      have al := World.block_lt_of_cell? wr _ a0
      have bl := World.block_lt_of_cell? wr _ b0
      generalize rs[j] = r at *
      obtain ⟨f, m⟩ := r
      have HQ := Lib.hid (eqRow_same E)
      dsimp only at a0 a1 a2 a3 a4 b0 b1 b2 b3 b4 al bl HQ
      have HS0 : wr.cell? ⟨g, j * 5, none⟩ = some (.int .i64 f) ∧ wr.cell? ⟨g, j * 5 + 1, none⟩ = some (.complex .f32 m.a m.b) ∧ wr.cell? ⟨g, j * 5 + 2, none⟩ = some (.complex .f32 m.c m.d) ∧ wr.cell? ⟨g, j * 5 + 3, none⟩ = some (.complex .f32 m.e m.f) ∧ wr.cell? ⟨g, j * 5 + 4, none⟩ = some (.complex .f32 m.g m.h) ∧ wr.cell? ⟨h, j * 5, none⟩ = some (.int .i64 f) ∧ wr.cell? ⟨h, j * 5 + 1, none⟩ = some (.complex .f32 m.a m.b) ∧ wr.cell? ⟨h, j * 5 + 2, none⟩ = some (.complex .f32 m.c m.d) ∧ wr.cell? ⟨h, j * 5 + 3, none⟩ = some (.complex .f32 m.e m.f) ∧ wr.cell? ⟨h, j * 5 + 4, none⟩ = some (.complex .f32 m.g m.h) ∧ Calm w wr := ⟨a0, a1, a2, a3, a4, b0, b1, b2, b3, b4, HC.out⟩
      clear hg hh E a0 a1 a2 a3 a4 b0 b1 b2 b3 b4
      go_wp2_with fail
      go_region_held3 (fun w' => w'.cell? ⟨g, j * 5, none⟩ = some (.int .i64 f) ∧ w'.cell? ⟨g, j * 5 + 1, none⟩ = some (.complex .f32 m.a m.b) ∧ w'.cell? ⟨g, j * 5 + 2, none⟩ = some (.complex .f32 m.c m.d) ∧ w'.cell? ⟨g, j * 5 + 3, none⟩ = some (.complex .f32 m.e m.f) ∧ w'.cell? ⟨g, j * 5 + 4, none⟩ = some (.complex .f32 m.g m.h) ∧ w'.cell? ⟨h, j * 5, none⟩ = some (.int .i64 f) ∧ w'.cell? ⟨h, j * 5 + 1, none⟩ = some (.complex .f32 m.a m.b) ∧ w'.cell? ⟨h, j * 5 + 2, none⟩ = some (.complex .f32 m.c m.d) ∧ w'.cell? ⟨h, j * 5 + 3, none⟩ = some (.complex .f32 m.e m.f) ∧ w'.cell? ⟨h, j * 5 + 4, none⟩ = some (.complex .f32 m.g m.h) ∧ Calm w w') (first | with_reducible assumption | with_reducible exact tabs_drew ‹_› | with_reducible exact tabs_calm ‹_› ‹_› | with_reducible exact tabs_calm ‹_› (tabs_drew ‹_›))
          (first
          | (go_at_call 17; refine Calls.mono (HQ.out _) ?_; rintro e w' ⟨rfl, C⟩))
      have hL := tabs_done ‹_›
      go_wp2_with fail
      exact ⟨⟨j + 1, by omega, by go_num, hL⟩, by simp [intOf]; omega⟩
    · go_wp2_with fail
      go_ret
      exact ⟨rfl, HC.out⟩

end Go.Proofs.YthbebgnjidaokaaDoor
