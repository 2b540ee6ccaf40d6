/-
  The library's functions as the walks want them, by the shelf's contracts; what they ask of the world.
-/
import Derived.Test.YthbebgnjidaokaaDoorShelf
import Derived.Test.YthbebgnjidaokaaDoorRd
import Derived.Lib.UnsafeStr
import Derived.Lib.SmallJoins
namespace Go.Proofs.YthbebgnjidaokaaDoor
open Go.RowKit Fl Go.Sort

theorem calm_below {w w' : World} (h : Below w.heap.size w w') : Calm w w' := ⟨h.os, h.tape, h.output, h.size, fun k hk _ => h.block k hk⟩
theorem below_calm' {w w' : World} (h : Calm w w') : Below w.heap.size w w' := ⟨h.os, h.tape, h.output, h.size, fun k hk => h.block k hk (fun e => by cases e)⟩
theorem byt_txt' (l : Tx.Bs) : byt (txt l) = l := by unfold byt txt; simp
theorem calm_grow {w w1 : World} (h : Calm w w1) (os : Array Obj) : Calm w (grow w1 os) := by
  refine ⟨h.os, h.tape, h.output, ?_, fun k hk hne => ?_⟩
  · have := h.size
    show w.heap.size ≤ (w1.heap ++ os).size
    rw [Array.size_append]
    omega
  · have hs := h.size
    show (w1.heap ++ os)[k]? = _
    rw [Array.getElem?_append_left (by omega)]
    exact h.block k hk hne
/-- What the library asks of the world: its table of powers of ten, a number, and two errors. -/
structure LibOk (w : World) : Prop where
  tab : Lib.TabIs Tryd.prog w "internal/strconv.uint64pow10" .u64 Lib.pow10Tab
  m : ∃ m, w.cell? ⟨0, 0, none⟩ = some (.int .i64 m)
  syn : ∃ ev, w.cell? ⟨1, 0, none⟩ = some ev ∧ (ev = .nilIface ∨ ∃ te pe, ev = .iface te pe)
  rng : ∃ ev, w.cell? ⟨2, 0, none⟩ = some ev ∧ (ev = .nilIface ∨ ∃ te pe, ev = .iface te pe)
theorem LibOk.below {w w' : World} (H : LibOk w) (h : Below w.heap.size w w') : LibOk w' := by
  obtain ⟨m, hm⟩ := H.m
  obtain ⟨ev, hv, he⟩ := H.syn
  obtain ⟨er, hr, hf⟩ := H.rng
  exact ⟨Joins.tab_stays (g := 3) (by kernel_rfl) H.tab h (Nat.le_refl _), ⟨m, by rw [World.cell?_of_block (w := w) (h.block _ (World.block_lt_of_cell? w _ hm))]; exact hm⟩, ⟨ev, by rw [World.cell?_of_block (w := w) (h.block _ (World.block_lt_of_cell? w _ hv))]; exact hv, he⟩, ⟨er, by rw [World.cell?_of_block (w := w) (h.block _ (World.block_lt_of_cell? w _ hr))]; exact hr, hf⟩⟩
theorem LibOk.calm {w w' : World} (H : LibOk w) (h : Calm w w') : LibOk w' := H.below (below_calm' h)

theorem itoa_any {n : Int} (h0 : -9223372036854775808 ≤ n) (h1 : n ≤ 9223372036854775807) {w : World} (L : LibOk w) :
    Calls Tryd.prog 29 #[.int .i64 n] w fun z w' => z = .returned (.string (txt (Lib.itoa n))) ∧ Calm w w' := by
  refine (Tryd.strconv_Itoa n h0 h1 w L.tab).mono ?_
  rintro z w' ⟨rfl, k, os, rfl⟩
  exact ⟨rfl, calm_grow (grown_drewN (grown_refl _ _) k) os⟩
theorem cut_any (s : ByteArray) (c : UInt8) (hs : s.size ≤ 2000000) {w : World} (L : LibOk w) :
    Calls Tryd.prog 14 #[.string s, .string ⟨#[c]⟩] w fun z w' => z = .returned (.tuple #[.string (txt (cut1 c (byt s)).1), .string (txt (cut1 c (byt s)).2.1), .bool (cut1 c (byt s)).2.2]) ∧ Calm w w' := by
  obtain ⟨m, hm⟩ := L.m
  refine (Tryd.strings_Cut s ⟨#[c]⟩ m w (by omega) hm).mono ?_
  rintro z w' ⟨rfl, n, rfl⟩
  have e : Lib.cut s.data.toList (⟨#[c]⟩ : ByteArray).data.toList = cut1 c (byt s) := cut_cut1 c (byt s)
  rw [e]
  exact ⟨rfl, grown_drewN (grown_refl _ _) n⟩
theorem cellsOf_at {ps : List ByteArray} {N i : Nat} (h : i < ps.length) : (Lib.cellsOf ps N)[i]? = some (.string ps[i]) := by
  unfold Lib.cellsOf
  rw [List.getElem?_toArray, List.getElem?_append_left (by simpa using h)]
  simp [h]
theorem splitN_any (s : ByteArray) (hs : s.size ≤ 2000000) {w : World} (L : LibOk w) :
    Calls Tryd.prog 30 #[.string s, .string ⟨#[32]⟩, .int .i64 5] w fun z w' => ∃ (c : Nat) (ps : List ByteArray), z = .returned (.slice (some ⟨w.heap.size, 0, none⟩) ps.length c) ∧ ps.map byt = splitC 32 (min 5 ((byt s).length + 1) - 1) (byt s) ∧ SList w' w.heap.size ps ∧ w.heap.size < w'.heap.size ∧ Calm w w' := by
  obtain ⟨m, hm⟩ := L.m
  refine (Tryd.strings_SplitN s ⟨#[32]⟩ 5 m w (by omega) hm (by decide) (by decide) (by decide)).mono ?_
  rintro z w' ⟨rfl, rfl⟩
  have hb : (byt s).length = s.size := byt_len s
  have hlen := Lib.splitB_length_le (⟨#[32]⟩ : ByteArray) 0 (min 5 (s.size + 1) - 1) s
  refine ⟨_, _, rfl, ?_, ?_, by simp, calm_new w _⟩
  · rw [hb, ← splitK_C]
    exact Lib.splitB_data ⟨#[32]⟩ 0 _ s
  · intro i hi
    refine (At.new w _).cell ?_
    exact cellsOf_at hi
theorem atoi_any (s : ByteArray) (hs : s.size ≤ 2000000) {w : World} (L : LibOk w) :
    Calls Tryd.prog 28 #[.string s] w fun z w' => ((∃ v, z = .returned (.tuple #[.int .i64 v, .nilIface]) ∧ Lib.atoiAll (byt s) = .ok v) ∨ (∃ v t p, z = .returned (.tuple #[.int .i64 v, .iface t p]) ∧ intV (byt s) = none)) ∧ Calm w w' := by
  have hb : ∀ (v : Int), Lib.atoiAll (byt s) = .ok v → Calls Tryd.prog 28 #[.string s] w fun z w' => ((∃ v, z = .returned (.tuple #[.int .i64 v, .nilIface]) ∧ Lib.atoiAll (byt s) = .ok v) ∨ (∃ v t p, z = .returned (.tuple #[.int .i64 v, .iface t p]) ∧ intV (byt s) = none)) ∧ Calm w w' := by
    intro v h
    refine (Tryd.strconv_Atoi_ok s (by omega) v h w).mono ?_
    rintro z w' ⟨rfl, hw⟩
    refine ⟨.inl ⟨v, rfl, h⟩, ?_⟩
    rcases hw with rfl | ⟨t, rfl⟩
    · exact grown_refl _ _
    · refine calm_below (Lib.below_freeze ?_ ?_ _)
      · exact below_calm' (calm_allocR (grown_drew (grown_refl w none)) _)
      · exact Nat.le_refl _
  cases h : Lib.atoiAll (byt s)
  case ok v => rw [← h]; exact hb v h
  all_goals first
    | (obtain ⟨ev, hv, he⟩ := L.syn
       refine (Any.strconv_Atoi_syntax Tryd.laysC172 s (by omega) h ev w hv he).mono ?_
       rintro z w' ⟨N, rfl, _, _, hB⟩
       exact ⟨.inr ⟨_, _, _, rfl, by unfold intV; rw [h]⟩, calm_below hB⟩)
    | (obtain ⟨er, hr, he⟩ := L.rng
       refine (Any.strconv_Atoi_range Tryd.laysC172 s (by omega) h er w hr he).mono ?_
       rintro z w' ⟨N, rfl, _, _, hB⟩
       exact ⟨.inr ⟨_, _, _, rfl, by unfold intV; rw [h]⟩, calm_below hB⟩)

end Go.Proofs.YthbebgnjidaokaaDoor
