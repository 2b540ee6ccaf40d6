/-
  Texts cut at a byte, in the model.
-/
import Derived.Test.YthbebgnjidaokaaDoorDigT
import Derived.Test.YthbebgnjidaokaaDoorAt
import Derived.Laws.OwnMore
namespace Go.Proofs.YthbebgnjidaokaaDoor
open Go.RowKit Fl

theorem Tryd.infoS : (Tryd.prog.info? 9).map (fun i => (i.zero, i.size, i.bytes)) = some (some (.string ⟨#[]⟩), 1, 16) := by kernel_rfl

theorem byt_cut (s : ByteArray) (a b : Nat) : byt (s.extract a b) = ((byt s).drop a).take (b - a) := by
  show (s.extract a b).data.toList = (s.data.toList.drop a).take (b - a)
  rw [ByteArray.data_extract, Array.toList_extract]

def strs (ps : List ByteArray) : List Value := ps.map Value.string
/-- What the loop of l1Cut holds. -/
structure CutHold (w wr : World) (v : Value) (ps : List ByteArray) : Prop where
  own : wr.ownsRow w.heap.size 9 1 v ps.length (strs ps)
  nn : v ≠ .slice none 0 0
  c : Calm w wr
theorem CutHold.calm {w wr wx : World} {v : Value} {ps : List ByteArray} (H : CutHold w wr v ps) (C : Calm wr wx) : CutHold w wx v ps :=
  ⟨H.own.kept C (by cases v.ownBlock <;> simp), H.nn, calm_trans H.c C⟩
theorem CutHold.app {w wr wx : World} {v v' : Value} {ps : List ByteArray} {p : ByteArray} (H : CutHold w wr v ps) (O : wx.ownsRow w.heap.size 9 1 v' (ps.length + 1) (strs ps ++ [.string p])) (G : wr.grownBy wx v.ownBlock) (hn : v' ≠ .slice none 0 0) : CutHold w wx v' (ps ++ [p]) := by
  refine ⟨by rw [List.length_append]; unfold strs at *; rw [List.map_append]; exact O, hn, ?_⟩
  refine ⟨G.os.trans H.c.os, G.tape.trans H.c.tape, G.output.trans H.c.output, Nat.le_trans H.c.size G.size, fun k hk hne => ?_⟩
  have hs := H.c.size
  rw [G.block k (by omega) (fun h => by have := (H.own.lt _ h.symm).1; omega)]
  exact H.c.block k hk hne
theorem own_formS {w : World} {base : Nat} {e : TypeId} {size : Nat} {v : Value} {n : Nat} {xs : List Value} (h : w.ownsRow base e size v n xs) (hv : v ≠ .slice none 0 0) : ∃ g cap, v = .slice (some ⟨g, 0, none⟩) n cap := by
  rcases h.2 with ⟨h, _⟩ | ⟨g, cap, cur, h, hb, _⟩
  · exact absurd h hv
  · exact ⟨g, cap, h⟩
theorem own_blk {w : World} {base g n cap : Nat} {e : TypeId} {size : Nat} {xs : List Value} (h : w.ownsRow base e size (.slice (some ⟨g, 0, none⟩) n cap) n xs) : ∃ cs, w.heap[g]? = some (.cells cs e (0, 0)) := by
  rcases h.2 with ⟨h, _⟩ | ⟨g', cap', cur, hv, _, hb, _⟩
  · cases h
  · injection hv with hv _ _
    injection hv with hv
    injection hv with hg _ _
    subst hg
    exact ⟨cur, hb⟩
/-- A list of strings, in a block. -/
def SList (w : World) (g : Nat) (ps : List ByteArray) : Prop := ∀ i, (h : i < ps.length) → w.cell? ⟨g, i, none⟩ = some (.string ps[i])
theorem SList.calm {w w' : World} {g : Nat} {ps : List ByteArray} (H : SList w g ps) (C : Calm w w') : SList w' g ps := by
  intro i hi
  have := H i hi
  rw [World.cell?_of_block (w := w) (C.block g (World.block_lt_of_cell? w _ this) (fun e => by cases e))]
  exact this
theorem slist_of {w : World} {base g n cap : Nat} {e : TypeId} {ps : List ByteArray} (h : w.ownsRow base e 1 (.slice (some ⟨g, 0, none⟩) n cap) n (strs ps)) (hn : ps.length = n) : SList w g ps := by
  intro i hi
  rw [h.cellAt _ (by omega)]
  unfold strs
  rw [List.getElem?_map, List.getElem?_eq_getElem hi]
  rfl

/-- A cut under way: what was cut off, the place behind it, the place of the loop. -/
structure CutI (c : UInt8) (s : ByteArray) (ps : List ByteArray) (f k : Nat) : Prop where
  le : f ≤ k
  lk : k ≤ s.size
  eq : Tx.cutL c (byt s) = ps.map byt ++ Tx.cutL c ((byt s).drop f)
  no : c ∉ ((byt s).drop f).take (k - f)
  len : ps.length ≤ k
theorem CutI.step {c : UInt8} {s : ByteArray} {ps : List ByteArray} {f k : Nat} (H : CutI c s ps f k) (h : k < s.size) (hc : s[k]'h ≠ c) : CutI c s ps f (k + 1) := by
  refine ⟨by have := H.le; omega, h, H.eq, ?_, by have := H.len; omega⟩
  have hle := H.le
  have hl := byt_len s
  have hk : k - f < ((byt s).drop f).length := by rw [List.length_drop]; omega
  rw [show k + 1 - f = (k - f) + 1 by omega, ← List.take_append_getElem hk]
  intro hm
  rcases List.mem_append.1 hm with hm | hm
  · exact H.no hm
  · simp only [List.mem_singleton] at hm
    have e : ((byt s).drop f)[k - f]? = some (s[k]'h) := by
      rw [List.getElem?_drop, show f + (k - f) = k by omega]
      exact byt_at s h
    rw [List.getElem?_eq_getElem hk] at e
    injection e with e
    exact hc (by rw [← e]; exact hm.symm)
theorem CutI.cut {c : UInt8} {s : ByteArray} {ps : List ByteArray} {f k : Nat} (H : CutI c s ps f k) (h : k < s.size) (hc : s[k]'h = c) : CutI c s (ps ++ [s.extract f k]) (k + 1) (k + 1) := by
  have hle := H.le
  have hl := byt_len s
  have hk : k - f < ((byt s).drop f).length := by rw [List.length_drop]; omega
  refine ⟨Nat.le_refl _, h, ?_, by simp, by have := H.len; simp; omega⟩
  have e : ((byt s).drop f)[k - f]? = some (s[k]'h) := by
    rw [List.getElem?_drop, show f + (k - f) = k by omega]
    exact byt_at s h
  rw [List.getElem?_eq_getElem hk] at e
  injection e with e
  have hsplit : (byt s).drop f = ((byt s).drop f).take (k - f) ++ c :: (byt s).drop (k + 1) := by
    conv => lhs; rw [← List.take_append_drop (k - f) ((byt s).drop f)]
    rw [List.drop_drop, show f + (k - f) = k by omega, List.drop_eq_getElem_cons (show k < (byt s).length by omega)]
    have e2 := byt_at s h
    rw [List.getElem?_eq_getElem (show k < (byt s).length by omega)] at e2
    injection e2 with e2
    rw [e2, hc]
  rw [H.eq, hsplit, Tx.cutL_app H.no, List.map_append, List.append_assoc]
  congr 1
  show _ = byt (s.extract f k) :: Tx.cutL c ((byt s).drop (k + 1))
  rw [byt_cut s f k]
theorem CutI.last {c : UInt8} {s : ByteArray} {ps : List ByteArray} {f : Nat} (H : CutI c s ps f s.size) : (ps ++ [s.extract f s.size]).map byt = Tx.cutL c (byt s) := by
  have hl := byt_len s
  have hno := H.no
  rw [List.take_of_length_le (by rw [List.length_drop]; omega)] at hno
  rw [H.eq, Tx.cutL_no hno, List.map_append]
  show _ ++ [byt (s.extract f s.size)] = _
  rw [byt_drop]

set_option maxRecDepth 8000 in
set_option maxHeartbeats 4000000 in
theorem l1Cut_any (s : ByteArray) (c : UInt8) (hs : s.size ≤ 1048576) (w : World) :
    Calls Tryd.prog 9 #[.string s, .int .u8 c.toNat] w fun z w' => ∃ (g n cap : Nat) (ps : List ByteArray), z = .returned (.slice (some ⟨g, 0, none⟩) n cap) ∧ ps.length = n ∧ ps.map byt = Tx.cutL c (byt s) ∧ SList w' g ps ∧ Calm w w' ∧ (∃ cs, w'.heap[g]? = some (.cells cs 9 (0, 0))) := by
  obtain ⟨i0, hi, hz0, hz1, hz2⟩ := info_parts Tryd.infoS
  have O0 := World.ownsRow_made (base := w.heap.size) (e := 9) (size := 1) w #[] 0 (Nat.le_refl _) (by decide) rfl
  have HN0 := Lib.hid (show CutHold w (w.alloc (.cells #[] 9)) (.slice (some ⟨w.heap.size, 0, none⟩) 0 0) [] from ⟨O0, by simp, calm_new w _⟩)
  clear O0
  go_enter Tryd.func9, Tryd.ntmps9
  go_wp2_with fail
  go_loopw [5, 6, 7] (fun v fv kv wr => ∃ (f k : Nat) (ps : List ByteArray), fv = .int .i64 f ∧ kv = .int .i64 k ∧ CutI c s ps f k ∧ CutHold w wr v ps)
    (fun _ _ kv _ => s.size - (intOf kv).toNat)
  case atStart => exact ⟨0, 0, [], rfl, rfl, ⟨by omega, by omega, rfl, by simp, by simp⟩, HN0.out⟩
  case round =>
    obtain ⟨f, k, ps, rfl, rfl, hI, N⟩ := hrel
    have hfk := hI.le
    have hks := hI.lk
    have hpl := hI.len
    have HN := Lib.hid N
    clear N HN0
    by_cases hlt : k < s.size
    · by_cases hc : (s[k]'hlt).toNat = c.toNat
      · have HI := Lib.hid (hI.cut hlt (UInt8.toNat_inj.1 hc))
        clear hI
        have H4 := Lib.hid (HN.out.calm (World.grownBy_alloc wr (.cells #[.string (s.extract f k)] 9) none))
        have hown := H4.out.own
        have hsz := HN.out.c.size
        go_wp2_with (first | (at_builtin; refine wpList_append_own _ rfl _ _ 28 rfl w.heap.size 9 i0 (.string ⟨#[]⟩) 1 16 Tryd.underlying28 hi hz0 hz1 hz2 rfl (by decide) _ _ _ rfl hown ⟨wr.heap.size, 0, none⟩ 1 1 [.string (s.extract f k)] rfl rfl ?c1a ?c2a ?c3a ?c4a ?c5a ?_) | fail)
        case c1a =>
          intro j u hu
          have A := At.new wr (.cells #[.string (s.extract f k)] 9)
          cases j with
          | zero =>
            simp at hu
            subst hu
            exact A.cell (i := 0) rfl
          | succ j => simp at hu
        case c2a => intro u hu; simp at hu; subst hu; rfl
        case c3a => unfold maxLen; omega
        case c4a => omega
        case c5a => simp; omega
        intro v' w5 O' G' hnil
        have hnn : v' ≠ .slice none 0 0 := by intro e; first | exact hnil e | exact H4.out.nn (hnil.1 e).1
        have H5 := Lib.hid (H4.out.app (p := s.extract f k) O' G' hnn)
        clear O' G' hnil hnn hown H4 HN
        go_wp2_with fail
        exact ⟨⟨k + 1, k + 1, _, by go_num, by go_num, HI.out, H5.out⟩, by simp [intOf]; omega⟩
      · have HI := Lib.hid (hI.step hlt (fun e => hc (by rw [e])))
        have hc' : ((s[k]'hlt).toNat : Int) ≠ (c.toNat : Int) := by omega
        clear hI
        go_wp2_with fail
        exact ⟨⟨f, k + 1, ps, rfl, by go_num, HI.out, HN.out⟩, by simp [intOf]; omega⟩
    · have hke : k = s.size := by omega
      subst hke
      have HL := Lib.hid hI.last
      clear hI
      have H4 := Lib.hid (HN.out.calm (World.grownBy_alloc wr (.cells #[.string (s.extract f s.size)] 9) none))
      have hown := H4.out.own
      have hsz := HN.out.c.size
      go_wp2_with (first | (at_builtin; refine wpList_append_own _ rfl _ _ 28 rfl w.heap.size 9 i0 (.string ⟨#[]⟩) 1 16 Tryd.underlying28 hi hz0 hz1 hz2 rfl (by decide) _ _ _ rfl hown ⟨wr.heap.size, 0, none⟩ 1 1 [.string (s.extract f s.size)] rfl rfl ?c1b ?c2b ?c3b ?c4b ?c5b ?_) | fail)
      case c1b =>
        intro j u hu
        have A := At.new wr (.cells #[.string (s.extract f s.size)] 9)
        cases j with
        | zero =>
          simp at hu
          subst hu
          exact A.cell (i := 0) rfl
        | succ j => simp at hu
      case c2b => intro u hu; simp at hu; subst hu; rfl
      case c3b => unfold maxLen; omega
      case c4b => omega
      case c5b => simp; omega
      intro v' w5 O' G' hnil
      have hnn : v' ≠ .slice none 0 0 := by intro e; first | exact hnil e | exact H4.out.nn (hnil.1 e).1
      have H5 := Lib.hid (H4.out.app (p := s.extract f s.size) O' G' hnn)
      clear O' G' hnil hnn hown H4 HN
      go_wp2_with fail
      obtain ⟨g, cp, hv⟩ := own_formS H5.out.own H5.out.nn
      subst hv
      refine bodyPost_ret (results_tmp rfl _ _ _) rfl ?_
      exact ⟨g, _, cp, _, rfl, rfl, HL.out, slist_of H5.out.own rfl, H5.out.c, own_blk H5.out.own⟩

end Go.Proofs.YthbebgnjidaokaaDoor
