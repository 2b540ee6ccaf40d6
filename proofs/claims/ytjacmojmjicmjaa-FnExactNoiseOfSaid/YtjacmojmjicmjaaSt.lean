/-
  A list of stages as an argument: it is copied, counted and compared.
-/
import Derived.Test.YtjacmojmjicmjaaDrawNz
import Derived.Test.YtjacmojmjicmjaaWExStage
import Derived.Test.YtjacmojmjicmjaaSame
namespace Go.Proofs.Ytjacmojmjicmjaa
open Go.RowKit Fl

/-- A list of stages as an argument: its words. -/
def SRow (w : World) (a : Option Addr) (len : Nat) (ws : List (Nat × Nat)) : Prop :=
  ws.length = len ∧ ((a = none ∧ len = 0) ∨ ∃ x, a = some x ∧ ∀ i, (h : i < ws.length) → w.cell? (x.add (i * 2)) = some (.float .f64 ws[i].1) ∧ w.cell? ((x.add (i * 2)).add 1) = some (.float .f64 ws[i].2))
theorem SRow.calm {w w' : World} {a : Option Addr} {len : Nat} {ws : List (Nat × Nat)} (H : SRow w a len ws) (C : Calm w w') : SRow w' a len ws := by
  refine ⟨H.1, ?_⟩
  rcases H.2 with h | ⟨x, ha, hx⟩
  · exact .inl h
  · refine .inr ⟨x, ha, fun i hi => ?_⟩
    obtain ⟨a, b⟩ := hx i hi
    have h1 := C.block _ (World.block_lt_of_cell? w _ a) (fun e => by cases e)
    have h2 := C.block _ (World.block_lt_of_cell? w _ b) (fun e => by cases e)
    exact ⟨by rw [World.cell?_of_block (w := w) h1]; exact a, by rw [World.cell?_of_block (w := w) h2]; exact b⟩

theorem At.setAt {w : World} {S : Nat} {cs : Array Value} {T : TypeId} (H : At w S (.cells cs T)) (i : Nat) (v : Value) : At (w.setCell ⟨S, i, none⟩ v) S (.cells (cs.setIfInBounds i v) T) := by
  unfold At at *
  simp [World.setCell, Array.getElem?_modify, H]

/-- A copy under way: so many stages are there. -/
structure SMid (w wr : World) (ws : List (Nat × Nat)) (n : Nat) : Prop where
  blk : ∃ cs : Array Value, At wr w.heap.size (.cells cs 43) ∧ cs.size = ws.length * 2 ∧ ∀ i, (h : i < ws.length) → i < n → cs[i * 2]? = some (.float .f64 ws[i].1) ∧ cs[i * 2 + 1]? = some (.float .f64 ws[i].2)
  c : Calm w wr
theorem SMid.calm {w wr wr' : World} {ws : List (Nat × Nat)} {n : Nat} (H : SMid w wr ws n) (C : Calm wr wr') : SMid w wr' ws n := by
  obtain ⟨cs, h1, h2, h3⟩ := H.blk
  exact ⟨⟨cs, h1.calm C, h2, h3⟩, calm_trans H.c C⟩
theorem SMid.step {w wr : World} {ws : List (Nat × Nat)} {n : Nat} (H : SMid w wr ws n) (hn : n < ws.length) :
    SMid w ((wr.setCell ⟨w.heap.size, n * 2, none⟩ (.float .f64 ws[n].1)).setCell ⟨w.heap.size, n * 2 + 1, none⟩ (.float .f64 ws[n].2)) ws (n + 1) := by
  obtain ⟨cs, h1, h2, h3⟩ := H.blk
  refine ⟨⟨_, (h1.setAt (n * 2) (.float .f64 ws[n].1)).setAt (n * 2 + 1) (.float .f64 ws[n].2), by simp [h2], fun i hi hin => ?_⟩, grown_above (grown_above H.c (Nat.le_refl _) _ _) (Nat.le_refl _) _ _⟩
  by_cases he : i = n
  · subst he
    constructor
    · rw [Array.getElem?_setIfInBounds_ne (by omega), Array.getElem?_setIfInBounds_self_of_lt (by omega)]
    · rw [Array.getElem?_setIfInBounds_self_of_lt (by simp; omega)]
  · obtain ⟨a, b⟩ := h3 i hi (by omega)
    constructor
    · rw [Array.getElem?_setIfInBounds_ne (by omega), Array.getElem?_setIfInBounds_ne (by omega)]; exact a
    · rw [Array.getElem?_setIfInBounds_ne (by omega), Array.getElem?_setIfInBounds_ne (by omega)]; exact b
theorem SMid.cells {w wr : World} {ws : List (Nat × Nat)} {n : Nat} (H : SMid w wr ws n) (hn : n < ws.length) :
    (∃ u, wr.cell? ⟨w.heap.size, n * 2, none⟩ = some u) ∧ (∃ u, wr.cell? ⟨w.heap.size, n * 2 + 1, none⟩ = some u) ∧ (∀ i, wr.frozen? ⟨w.heap.size, i, none⟩ = false) ∧ w.heap.size < wr.heap.size := by
  obtain ⟨cs, h1, h2, _⟩ := H.blk
  refine ⟨⟨_, h1.cell (Array.getElem?_eq_getElem (by omega))⟩, ⟨_, h1.cell (Array.getElem?_eq_getElem (by omega))⟩, h1.fr, h1.lt⟩
theorem SMid.row {w wr : World} {ws : List (Nat × Nat)} (H : SMid w wr ws ws.length) : Row2 wr w.heap.size ws := by
  obtain ⟨cs, h1, h2, h3⟩ := H.blk
  intro i hi
  obtain ⟨a, b⟩ := h3 i hi hi
  rw [Nat.mul_comm]
  exact ⟨h1.cell a, h1.cell b⟩

set_option maxRecDepth 8000 in
set_option maxHeartbeats 2000000 in
theorem toStageS_any {a : Option Addr} {len cap : Nat} {ws : List (Nat × Nat)} {w : World} (H : SRow w a len ws) (hl : len ≤ 1048576) :
    Calls Try.prog 41 #[.slice a len cap] w fun z w' => z = .returned (.slice (some ⟨w.heap.size, 0, none⟩) len len) ∧ Row2 w' w.heap.size ws ∧ Calm w w' := by
  obtain ⟨i0, hi, hz0, hz1, hz2⟩ := info_parts Try.infoStage
  have hws := H.1
  have HS := Lib.hid H
  clear H
  go_enter Try.func41, Try.ntmps41
  go_wp2_with (first | (at_make; refine wpList_make_full _ rfl _ _ 46 rfl w.heap.size 43 i0 (.agg #[.float .f64 0, .float .f64 0]) 2 Try.underlying46 hi hz0 hz1 _ _ len len len rfl rfl rfl rfl ?b2 ?b3 ?b4 ?_) | fail)
  case b2 => rw [hz2]; omega
  case b3 => unfold maxLen; omega
  case b4 => omega
  intro w0 O0 G0
  have K0 : Hid (SMid w w0 ws 0) := Lib.hid (by
    rcases O0.2 with ⟨h, _⟩ | ⟨g, c, cur, hv, _, hb, _, _, hs, _⟩
    · cases h
    · injection hv with hv _ hc
      injection hv with hv
      injection hv with hg _ _
      refine ⟨⟨cur, by unfold At; rw [hg]; exact hb, by omega, fun i _ h => absurd h (by omega)⟩, G0⟩)
  clear O0 G0
  go_wp2_with fail
  go_loopw [4] (fun k wr => ∃ n : Nat, n ≤ len ∧ k = .int .i64 n ∧ SMid w wr ws n)
    (fun k _ => len - (intOf k).toNat)
  case atStart => exact ⟨0, by omega, rfl, K0.out⟩
  case round =>
    obtain ⟨n, hn, rfl, M⟩ := hrel
    clear K0
    by_cases hlt : n < len
    · obtain ⟨x, hx1, hx2⟩ : ∃ x, a = some x ∧ ∀ i, (h : i < ws.length) → w.cell? (x.add (i * 2)) = some (.float .f64 ws[i].1) ∧ w.cell? ((x.add (i * 2)).add 1) = some (.float .f64 ws[i].2) := by
        rcases HS.out.2 with ⟨_, h⟩ | h
        · omega
        · exact h
      subst hx1
      have HM := Lib.hid M
      have hc := (HS.out.calm M.c).2
      obtain ⟨y, hy, hc⟩ := hc.resolve_left (by simp)
      injection hy with hy
      subst hy
      obtain ⟨a1, a2⟩ := hc n (by omega)
      have HN := Lib.hid (fun wr' (C : Calm wr wr') => ((HM.out.calm C).step (by omega : n < ws.length)))
      have HC := Lib.hid (fun wr' (C : Calm wr wr') => ((HM.out.calm C).cells (by omega : n < ws.length)))
      generalize ws[n] = p at *
      obtain ⟨p, q⟩ := p
      dsimp only at a1 a2 HN
      rw [show (x.add (n * 2)).add 1 = ⟨(x.add (n * 2)).block, (x.add (n * 2)).off + 1, none⟩ from rfl] at a2
      have al := World.block_lt_of_cell? wr _ a1
      clear hc hx2 M
      go_wp2_with fail
      refine (toStage_any _ _ _).mono ?_
      rintro z w1 ⟨rfl, C⟩
      have HN1 := Lib.hid (HN.out _ C)
      obtain ⟨⟨u0, c0⟩, ⟨u1, c1⟩, cf, cl⟩ := HC.out _ C
      clear a1 a2 al C HN HC HM
      go_wp2_with fail
      exact ⟨⟨n + 1, by omega, by go_num, HN1.out⟩, by simp [intOf]; omega⟩
    · have hn' : n = len := by omega
      subst hn'
      rw [← hws] at M
      have HM := Lib.hid M
      clear M
      go_wp2_with fail
      refine bodyPost_ret (results_tmp rfl _ _ _) rfl ?_
      exact ⟨by first | rfl | trivial, HM.out.row, HM.out.c⟩

end Go.Proofs.Ytjacmojmjicmjaa
