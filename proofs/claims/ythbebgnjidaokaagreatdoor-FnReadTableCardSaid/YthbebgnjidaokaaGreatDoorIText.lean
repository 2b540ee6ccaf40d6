/-
  TableText in the program.
-/
import Derived.Test.YthbebgnjidaokaaGreatDoorLibO
import Derived.Test.YthbebgnjidaokaaGreatDoorImplTb
import Derived.Deep.WholeRow
namespace Go.Proofs.YthbebgnjidaokaaGreatDoor
open Go.RowKit Fl

/-- A text, if it is told. -/
def tellV (t : Tx.Bs) (β : Bool) : Value := if β then .tuple #[.string (txt t), .bool true] else .tuple #[.string ⟨#[]⟩, .bool false]
theorem tellV_yes (t : Tx.Bs) : tellV t true = .tuple #[.string (txt t), .bool true] := rfl
theorem tellV_no (t : Tx.Bs) : tellV t false = .tuple #[.string ⟨#[]⟩, .bool false] := rfl
theorem numT_len (a b : Nat) : (Tx.numT (mT a b)).length ≤ 25 := by
  obtain ⟨⟨p0, p1⟩, q0, q1⟩ := mT_ok a b
  have l1 := itoa_len (n := (mT a b).1) (by omega) (by omega)
  have l2 := itoa_len (n := (mT a b).2) (by omega) (by omega)
  unfold Tx.numT
  rw [List.length_append, List.length_cons]
  omega

set_option maxRecDepth 8000 in
set_option maxHeartbeats 2000000 in
theorem numberText_any (a b : Nat) {w : World} (L : LibOk w) :
    Calls Tryz.prog 48 #[.complex .f32 a b] w fun z w' => z = .returned (tellV (Tx.numT (mT a b)) (mB a b)) ∧ Calm w w' := by
  obtain ⟨⟨p0, p1⟩, q0, q1⟩ := mT_ok a b
  have HL := Lib.hid L
  have HM := Lib.hid (mOf_is a b)
  obtain ⟨z, hz⟩ : ∃ z, mT a b = z := ⟨_, rfl⟩
  obtain ⟨β, hβ⟩ : ∃ β, mB a b = β := ⟨_, rfl⟩
  rw [hz] at p0 p1 q0 q1 HM
  rw [hβ] at HM
  rw [hz, hβ]
  clear hz hβ L
  obtain ⟨p, q⟩ := z
  dsimp only at p0 p1 q0 q1
  have l1 := itoa_len (n := p) (by omega) (by omega)
  have l2 := itoa_len (n := q) (by omega) (by omega)
  have s1 := txt_size (Lib.itoa p)
  have s2 := txt_size (Lib.itoa q)
  have hz1 : ¬9223372036854775807 < (txt (Lib.itoa p)).size + 1 := by omega
  have hz2 : ¬9223372036854775807 < (txt (Lib.itoa p)).size + 1 + (txt (Lib.itoa q)).size := by omega
  clear l1 l2 s1 s2
  cases β
  · go_enter Tryz.func48, Tryz.ntmps48
    go_wp2_with fail
    refine (implMilliOf_any _ _ _).mono ?_
    rw [HM.out]
    rintro z w1 ⟨rfl, n1, hw1⟩
    have K1 : Calm w w1 := by rw [hw1]; exact grown_drewN (grown_refl _ _) n1
    clear hw1
    go_wp2_with fail
    go_ret2
    exact ⟨rfl, K1⟩
  · go_enter Tryz.func48, Tryz.ntmps48
    go_wp2_with fail
    refine (implMilliOf_any _ _ _).mono ?_
    rw [HM.out]
    rintro z w1 ⟨rfl, n1, hw1⟩
    have K1 : Calm w w1 := by rw [hw1]; exact grown_drewN (grown_refl _ _) n1
    have HK1 := Lib.hid K1
    clear hw1 K1
    go_wp2_with fail
    refine (itoa_any (n := p) (by omega) (by omega) (HL.out.calm HK1.out)).mono ?_
    rintro z w2 ⟨rfl, C⟩
    have HK2 := Lib.hid (calm_trans HK1.out C)
    clear C HK1
    go_wp2_with fail
    refine (itoa_any (n := q) (by omega) (by omega) (HL.out.calm HK2.out)).mono ?_
    rintro z w3 ⟨rfl, C⟩
    have HK3 := Lib.hid (calm_trans HK2.out C)
    clear C HK2
    go_wp2_with fail
    go_ret2
    refine ⟨?_, HK3.out⟩
    show Ending.returned (.tuple #[.string (txt (Lib.itoa p) ++ txt [44] ++ txt (Lib.itoa q)), .bool true]) = _
    rw [txt_app, txt_app, List.append_assoc]
    rfl

set_option maxHeartbeats 1000000 in
theorem numbers_anyI (a b c d e f g h : Nat) (w : World) :
    Calls Tryz.prog 47 #[.agg #[.complex .f32 a b, .complex .f32 c d, .complex .f32 e f, .complex .f32 g h]] w fun z w' => z = .returned (.agg #[.complex .f32 a b, .complex .f32 c d, .complex .f32 e f, .complex .f32 g h]) ∧ Calm w w' := by
  go_enter Tryz.func47, Tryz.ntmps47
  go_wp2_with fail
  refine bodyPost_ret (results_cell_row rfl _ _ (w.heap.size + 1) 89 #[.complex .f32 a b, .complex .f32 c d, .complex .f32 e f, .complex .f32 g h] (0, 0) _ rfl ?_ Tryz.underlying89 rfl (by kernel_rfl)) rfl ?_
  · have A := At.new (w.alloc (.cells #[.complex .f32 a b, .complex .f32 c d, .complex .f32 e f, .complex .f32 g h] 32)) (.cells #[.complex .f32 a b, .complex .f32 c d, .complex .f32 e f, .complex .f32 g h] 89)
    simpa [At] using A
  · exact ⟨rfl, calm_allocR (calm_new w _) _⟩

/-- Four texts, in a row of cells. -/
def rowS (T : Nat → Tx.Bs) : Array Value := ((List.range 4).map fun p => Value.string (txt (T p))).toArray
theorem rowS_size (T : Nat → Tx.Bs) : (rowS T).size = 4 := by simp [rowS]
theorem rowS_get (T : Nat → Tx.Bs) {p : Nat} (h : p < 4) : (rowS T)[p]? = some (.string (txt (T p))) := by
  simp [rowS, List.getElem?_range h]
theorem rowS_set (T : Nat → Tx.Bs) {q : Nat} {t : Tx.Bs} (h : q < 4) : (rowS T).setIfInBounds q (.string (txt t)) = rowS (fun p => if p = q then t else T p) := by
  apply Array.ext_getElem?
  intro i
  rw [Array.getElem?_setIfInBounds, rowS_size]
  by_cases hq : q = i
  · subst hq
    rw [if_pos rfl, if_pos h, rowS_get _ h]
    simp
  · rw [if_neg hq]
    by_cases hi : i < 4
    · rw [rowS_get _ hi, rowS_get _ hi, if_neg (by omega)]
    · rw [Array.getElem?_eq_none (by rw [rowS_size]; omega), Array.getElem?_eq_none (by rw [rowS_size]; omega)]
theorem at_setS {w : World} {S q : Nat} {t : Tx.Bs} {T : Nat → Tx.Bs} {K : TypeId} (H : At w S (.cells (rowS T) K)) (h : q < 4) : At (w.setCell ⟨S, q, none⟩ (.string (txt t))) S (.cells (rowS fun p => if p = q then t else T p) K) := by
  unfold At at *
  rw [setCell_eq_setRow w S q _ K (0, 0) _ H, rowS_set T h]
  exact setRow_heap w S _ _ K _ H
theorem calm_setT {w w1 : World} (h : Calm w w1) {B q : Nat} (hB : w.heap.size ≤ B) (v : Value) : Calm w (w1.setCell ⟨B, q, none⟩ v) := by
  refine ⟨h.os, h.tape, h.output, by simpa [World.setCell] using h.size, fun k hk hne => ?_⟩
  rw [Below.heap_setCell _ _ _ _ (by show k ≠ B; omega)]
  exact h.block k hk hne
/-- The numbers of a row, with a space between them. -/
def fourT (r : RowW) : Tx.Bs := Tx.numT (mT r.m.a r.m.b) ++ 32 :: (Tx.numT (mT r.m.c r.m.d) ++ 32 :: (Tx.numT (mT r.m.e r.m.f) ++ 32 :: Tx.numT (mT r.m.g r.m.h)))
theorem fourT_len (r : RowW) : (fourT r).length ≤ 110 := by
  have h1 := numT_len r.m.a r.m.b
  have h2 := numT_len r.m.c r.m.d
  have h3 := numT_len r.m.e r.m.f
  have h4 := numT_len r.m.g r.m.h
  unfold fourT
  simp only [List.length_append, List.length_cons]
  omega
def ptT (r : RowW) (j : Nat) : Nat × Nat := r.nums.getD j (0, 0)
theorem told_no {r : RowW} {j : Nat} (h : j < 4) (hn : mB (ptT r j).1 (ptT r j).2 = false) : r.told = false := by
  unfold RowW.told
  match j, h with
  | 0, _ => rw [show mB r.m.a r.m.b = false from hn]; rfl
  | 1, _ => rw [show mB r.m.c r.m.d = false from hn]; cases mB r.m.a r.m.b <;> rfl
  | 2, _ => rw [show mB r.m.e r.m.f = false from hn]; cases mB r.m.a r.m.b <;> cases mB r.m.c r.m.d <;> rfl
  | 3, _ => rw [show mB r.m.g r.m.h = false from hn]; cases mB r.m.a r.m.b <;> cases mB r.m.c r.m.d <;> cases mB r.m.e r.m.f <;> rfl
theorem told_yes {r : RowW} (h : ∀ j, j < 4 → mB (ptT r j).1 (ptT r j).2 = true) : r.told = true := by
  unfold RowW.told
  rw [show mB r.m.a r.m.b = true from h 0 (by omega), show mB r.m.c r.m.d = true from h 1 (by omega), show mB r.m.e r.m.f = true from h 2 (by omega), show mB r.m.g r.m.h = true from h 3 (by omega)]
  rfl

set_option maxRecDepth 8000 in
set_option maxHeartbeats 4000000 in
theorem twoText_any (r : RowW) {w : World} (L : LibOk w) :
    Calls Tryz.prog 19 #[.agg #[.complex .f32 r.m.a r.m.b, .complex .f32 r.m.c r.m.d, .complex .f32 r.m.e r.m.f, .complex .f32 r.m.g r.m.h]] w fun z w' => z = .returned (tellV (fourT r) r.told) ∧ Calm w w' := by
  have HL := Lib.hid L
  clear L
  have HX0 := Lib.hid (show At ((w.alloc (.cells #[.complex .f32 r.m.a r.m.b, .complex .f32 r.m.c r.m.d, .complex .f32 r.m.e r.m.f, .complex .f32 r.m.g r.m.h] 32)).alloc (.cells (rowS fun _ => []) 88)) (w.heap.size + 1) (.cells (rowS fun _ => []) 88) from by
    have A := At.new (w.alloc (.cells #[.complex .f32 r.m.a r.m.b, .complex .f32 r.m.c r.m.d, .complex .f32 r.m.e r.m.f, .complex .f32 r.m.g r.m.h] 32)) (.cells (rowS fun _ => []) 88)
    simpa [At] using A)
  have HC0 := Lib.hid (show Calm w ((w.alloc (.cells #[.complex .f32 r.m.a r.m.b, .complex .f32 r.m.c r.m.d, .complex .f32 r.m.e r.m.f, .complex .f32 r.m.g r.m.h] 32)).alloc (.cells (rowS fun _ => []) 88)) from calm_allocR (calm_new w _) _)
  go_enter Tryz.func19, Tryz.ntmps19
  go_wp2_with fail
  refine (numbers_anyI _ _ _ _ _ _ _ _ _).mono ?_
  rintro z w2 ⟨rfl, C⟩
  have HC2 := Lib.hid (calm_trans HC0.out C)
  have HX2 := Lib.hid (HX0.out.calm C)
  clear C HX0 HC0
  go_wp2_with fail
  go_loopw [11] (fun kv wr => ∃ (k : Nat) (T : Nat → Tx.Bs), k ≤ 4 ∧ kv = .int .i64 k ∧ (∀ i, i < k → T i = Tx.numT (mT (ptT r i).1 (ptT r i).2) ∧ mB (ptT r i).1 (ptT r i).2 = true) ∧ At wr (w.heap.size + 1) (.cells (rowS T) 88) ∧ Calm w wr)
    (fun kv _ => 4 - (intOf kv).toNat)
  case atStart => exact ⟨0, fun _ => [], by omega, rfl, fun i h => absurd h (by omega), HX2.out, HC2.out⟩
  case round =>
    obtain ⟨k, T, hk4, rfl, hT, hat, C⟩ := hrel
    have HT := Lib.hid hT
    have HAt := Lib.hid hat
    have HC := Lib.hid C
    clear hT hat C HX2 HC2
    by_cases hk : k < 4
    · have HNo := Lib.hid (fun h => told_no (r := r) hk h)
      have hidx : ∀ w, (Instr.index 89 (.agg #[.complex .f32 r.m.a r.m.b, .complex .f32 r.m.c r.m.d, .complex .f32 r.m.e r.m.f, .complex .f32 r.m.g r.m.h]) (.int .i64 k)).run Tryz.prog w = .ok (.complex .f32 (ptT r k).1 (ptT r k).2) w := by
        intro w
        rcases (show k = 0 ∨ k = 1 ∨ k = 2 ∨ k = 3 by omega) with rfl | rfl | rfl | rfl
        · rfl
        · rfl
        · rfl
        · rfl
      generalize hpt : ptT r k = pt at *
      have HPt := Lib.hid hpt
      obtain ⟨e, f⟩ := pt
      dsimp only at hidx HNo
      have HN := Lib.hid (numberText_any e f (HL.out.calm HC.out))
      obtain ⟨β, hβ⟩ : ∃ β, mB e f = β := ⟨_, rfl⟩
      rw [hβ] at HN HNo
      have HB := Lib.hid hβ
      clear hβ hpt
      cases β with
      | false =>
        have HV := Lib.hid (HNo.out rfl)
        rw [tellV_no] at HN
        go_wp2_with fail
        refine HN.out.mono ?_
        rintro z w4 ⟨rfl, C⟩
        go_wp2_with fail
        go_ret2
        rw [HV.out]
        exact ⟨rfl, calm_trans HC.out C⟩
      | true =>
        rw [tellV_yes] at HN
        go_wp2_with fail
        refine HN.out.mono ?_
        rintro z w4 ⟨rfl, C⟩
        have HC4 := Lib.hid (calm_trans HC.out C)
        have HAt4 := Lib.hid (HAt.out.calm C)
        clear C HN HAt HC
        have c0 : w4.cell? ⟨w.heap.size + 1, k, none⟩ = some (.string (txt (T k))) := HAt4.out.cell (rowS_get _ hk)
        have f0 : w4.frozen? ⟨w.heap.size + 1, k, none⟩ = false := HAt4.out.fr _
        have hxl := HAt4.out.lt
        go_wp2_with fail
        refine ⟨⟨k + 1, fun p => if p = k then Tx.numT (mT e f) else T p, by omega, by go_num, ?_, at_setS HAt4.out hk, calm_setT HC4.out (by omega) _⟩, by simp [intOf]; omega⟩
        intro i hi
        by_cases e2 : i = k
        · subst e2
          rw [HPt.out]
          exact ⟨by simp, HB.out⟩
        · obtain ⟨h1, h2⟩ := HT.out i (by omega)
          exact ⟨by dsimp only; rw [if_neg e2]; exact h1, h2⟩
    · have hk5 : k = 4 := by omega
      subst hk5
      have HV := Lib.hid (told_yes (r := r) fun j hj => (HT.out j hj).2)
      have HF : Hid (Lib.join [T 0, T 1, T 2, T 3] [32] = fourT r) := Lib.hid (by
        rw [(HT.out 0 (by omega)).1, (HT.out 1 (by omega)).1, (HT.out 2 (by omega)).1, (HT.out 3 (by omega)).1]
        unfold Lib.join fourT
        simp [List.intercalate, List.intersperse]
        rfl)
      have HJ := Lib.hid (Tryz.strings_Join (w.heap.size + 1) 0 4 [txt (T 0), txt (T 1), txt (T 2), txt (T 3)] ⟨#[32]⟩ wr (fun j x hx => by
          have hj : j < 4 := by
            have := (List.getElem?_eq_some_iff.1 hx).1
            simpa using this
          rw [Nat.zero_add]
          rcases (show j = 0 ∨ j = 1 ∨ j = 2 ∨ j = 3 by omega) with rfl | rfl | rfl | rfl
          · injection hx with hx; subst hx; exact HAt.out.cell (rowS_get T (by omega))
          · injection hx with hx; subst hx; exact HAt.out.cell (rowS_get T (by omega))
          · injection hx with hx; subst hx; exact HAt.out.cell (rowS_get T (by omega))
          · injection hx with hx; subst hx; exact HAt.out.cell (rowS_get T (by omega))) HAt.out.lt (by simp) (by simp) (by
          have := fourT_len r
          rw [show Lib.join ([txt (T 0), txt (T 1), txt (T 2), txt (T 3)].map (·.data.toList)) (⟨#[32]⟩ : ByteArray).data.toList = fourT r from by rw [← HF.out]; rfl]
          omega))
      rw [show Lib.join ([txt (T 0), txt (T 1), txt (T 2), txt (T 3)].map (·.data.toList)) (⟨#[32]⟩ : ByteArray).data.toList = fourT r from by rw [← HF.out]; rfl] at HJ
      have hxl := HAt.out.lt
      go_wp2_with fail
      refine (show Calls Tryz.prog 49 #[.slice (some ⟨w.heap.size + 1, 0, none⟩) 4 4, .string ⟨#[32]⟩] wr _ from HJ.out).mono ?_
      rintro z w4 ⟨rfl, hB⟩
      have HC4 := Lib.hid (calm_trans HC.out (calm_below hB))
      clear hB HJ
      go_wp2_with fail
      go_ret2
      rw [HV.out]
      exact ⟨rfl, HC4.out⟩

/-- A builder that is written, in a block. -/
def Bld (b : Nat) (l : Tx.Bs) (w : World) : Prop := Lib.IsBuilder 49 5 b b (Lib.byteCells l) w
theorem Bld.calm {b : Nat} {l : Tx.Bs} {w w' : World} (H : Bld b l w) (C : Calm w w') : Bld b l w' := by
  have key : ∀ {p : Value}, Lib.BuilderAt 49 5 b b p (Lib.byteCells l) w → Lib.BuilderAt 49 5 b b p (Lib.byteCells l) w' := by
    rintro p ⟨h1, v, hb, hown, hne⟩
    exact ⟨h1, v, At.calm hb C, hown.kept C (by cases v.ownBlock <;> simp), hne⟩
  rcases H with H | H
  · exact .inl (key H)
  · exact .inr (key H)
theorem calm_belowB {w w1 w2 : World} (h : Calm w w1) (hB : Below w.heap.size w1 w2) : Calm w w2 :=
  ⟨hB.os.trans h.os, hB.tape.trans h.tape, hB.output.trans h.output, Nat.le_trans h.size hB.size, fun k hk hne => by rw [hB.block k hk]; exact h.block k hk hne⟩
theorem write_any {b : Nat} {l t : Tx.Bs} {w : World} (H : Bld b l w) (hl : l.length + t.length ≤ 10000000) (hb : b ≤ w.heap.size) :
    Calls Tryz.prog 20 #[.pointer (some ⟨b, 0, none⟩), .string (txt t)] w fun z w' => z = .returned (.tuple #[.int .i64 (txt t).size, .nilIface]) ∧ Bld b (l ++ t) w' ∧ Below b w w' := by
  refine (Any.Builder_WriteString { Tryz.lays156 with } Tryz.Builder_Extra_156 b b (Lib.byteCells l) (txt t) w H (by rw [Lib.byteCells_length, txt_size]; omega) hb).mono ?_
  rintro z w' ⟨rfl, h1, h2⟩
  refine ⟨rfl, .inr ?_, h2⟩
  rw [Lib.byteCells_append]
  exact h1
theorem string_any {b : Nat} {l : Tx.Bs} {w : World} (H : Bld b l w) (hb : b ≤ w.heap.size) :
    Calls Tryz.prog 22 #[.pointer (some ⟨b, 0, none⟩)] w fun z w' => z = .returned (.string (txt l)) ∧ Below b w w' := Tryz.Builder_String_any b b l w H hb

set_option maxRecDepth 8000 in
set_option maxHeartbeats 4000000 in
theorem implTableText_any {g n cap : Nat} {rs : List RowW} {w : World} (hR : Row5 w g rs) (hn : rs.length = n) (hl : n ≤ 1000) (L : LibOk w) :
    Calls Tryz.prog 6 #[.slice (some ⟨g, 0, none⟩) n cap] w fun z w' => z = .returned (textV (tabT rs)) ∧ Calm w w' := by
  have HR := Lib.hid hR
  have HL := Lib.hid L
  clear hR L
  subst hn
  cases hT : tabB rs
  · have HX : Hid (tabT rs = none) := Lib.hid (by unfold tabT; rw [hT]; rfl)
    have HB := Lib.hid hT
    clear hT
    go_enter Tryz.func6, Tryz.ntmps6
    go_wp2_with fail
    refine (implTableOk_any HR.out rfl (by omega)).mono ?_
    rw [HB.out]
    rintro z w2 ⟨rfl, C⟩
    go_wp2_with fail
    go_ret2
    exact ⟨by rw [HX.out]; rfl, C⟩
  · have HF := Lib.hid (tabB_freq hT)
    have HX : Hid (tabT rs = if rs.all RowW.told then some (headT rs rs.length) else none) := Lib.hid (by
      unfold tabT headT
      rw [hT, List.take_length]
      rfl)
    have HB := Lib.hid hT
    clear hT
    go_enter Tryz.func6, Tryz.ntmps6
    go_wp2_with fail
    refine (implTableOk_any HR.out rfl (by omega)).mono ?_
    rw [HB.out]
    rintro z w2 ⟨rfl, C⟩
    have HC := Lib.hid C
    clear C
    have HBl0 := Lib.hid (show Bld w2.heap.size [] (w2.alloc (.cells #[.pointer none, .slice none 0 0] 49)) from Lib.fresh_isBuilder _ _ w2)
    have HC0 := Lib.hid (calm_new w2 (.cells #[.pointer none, .slice none 0 0] 49))
    go_wp2_with fail
    go_loopw [14] (fun kv wr => ∃ k : Nat, k ≤ rs.length ∧ kv = .int .i64 k ∧ Bld w2.heap.size (headT rs k) wr ∧ (rs.take k).all RowW.told = true ∧ Calm w2 wr)
      (fun kv _ => rs.length - (intOf kv).toNat)
    case atStart => exact ⟨0, by omega, rfl, HBl0.out, rfl, HC0.out⟩
    case round =>
      obtain ⟨k, hk, rfl, hbl, hall, C⟩ := hrel
      have HK := Lib.hid C
      have HBl := Lib.hid hbl
      clear C HC0 HBl0 hbl
      by_cases hlt : k < rs.length
      · have hcells : ∀ w', Calm w w' → FiveAt (fun j => w'.cell? ⟨g, j, none⟩) k rs[k] := fun w' C => HR.out.calm C k hlt
        have hfr := HF.out rs[k] (List.getElem_mem hlt)
        have hhead := headT_step hlt
        have hhl := headT_len HF.out k hk
        have hnt : rs[k].told = false → rs.all RowW.told = false := by
          intro h
          rw [Bool.eq_false_iff]
          intro h2
          rw [List.all_eq_true] at h2
          have := h2 rs[k] (List.getElem_mem hlt)
          rw [h] at this
          cases this
        have hat : rs[k].told = true → (rs.take (k + 1)).all RowW.told = true := by
          intro h
          rw [← List.take_append_getElem hlt, List.all_append, hall]
          simp [h]
        generalize rs[k] = r at *
        have HN := Lib.hid hnt
        have HA := Lib.hid hat
        have HH := Lib.hid hhead
        obtain ⟨a0, a1, a2, a3, a4⟩ := hcells _ (calm_trans HC.out HK.out)
        clear hcells hnt hat hhead
        obtain ⟨H, hH⟩ : ∃ H, headT rs k = H := ⟨_, rfl⟩
        rw [hH] at HH hhl HBl
        clear hH
        have hgl := World.block_lt_of_cell? wr _ a0
        dsimp only at a0 a1 a2 a3 a4 hgl
        have HAw := Lib.hid (At.new wr (.cells #[.int .i64 r.f, .complex .f32 r.m.a r.m.b, .complex .f32 r.m.c r.m.d, .complex .f32 r.m.e r.m.f, .complex .f32 r.m.g r.m.h] 34))
        have HCw := Lib.hid (calm_allocR HK.out (.cells #[.int .i64 r.f, .complex .f32 r.m.a r.m.b, .complex .f32 r.m.c r.m.d, .complex .f32 r.m.e r.m.f, .complex .f32 r.m.g r.m.h] 34))
        have HBw := Lib.hid (HBl.out.calm (calm_new wr (.cells #[.int .i64 r.f, .complex .f32 r.m.a r.m.b, .complex .f32 r.m.c r.m.d, .complex .f32 r.m.e r.m.f, .complex .f32 r.m.g r.m.h] 34)))
        have HT := Lib.hid (twoText_any r (HL.out.calm (calm_trans HC.out HCw.out)))
        obtain ⟨β, hβ⟩ : ∃ β, r.told = β := ⟨_, rfl⟩
        rw [hβ] at HT HN HA
        clear hβ
        cases β with
        | false =>
          have HNo := Lib.hid (HN.out rfl)
          rw [tellV_no] at HT
          go_wp2_with fail
          refine HT.out.mono ?_
          rintro z w4 ⟨rfl, C⟩
          go_wp2_with fail
          go_ret2
          exact ⟨by rw [HX.out, HNo.out]; rfl, calm_trans HC.out (calm_trans HCw.out C)⟩
        | true =>
          have HYes := Lib.hid (HA.out rfl)
          rw [tellV_yes] at HT
          go_wp2_with fail
          refine HT.out.mono ?_
          rintro z w4 ⟨rfl, C⟩
          have HC4 := Lib.hid (calm_trans HCw.out C)
          have HB4 := Lib.hid (HBw.out.calm C)
          have HA4 := Lib.hid (HAw.out.calm C)
          clear C HT HBw HCw HAw a0 a1 a2 a3 a4 hgl HBl HK
          have c0 : w4.cell? ⟨wr.heap.size, 0, none⟩ = some (.int .i64 r.f) := HA4.out.cell (i := 0) rfl
          have cl := HA4.out.lt
          have li := itoa_len (n := r.f) (by omega) (by omega)
          have lf := fourT_len r
          have s1 := txt_size (Lib.itoa r.f)
          have s2 := txt_size (fourT r)
          have hz1 : ¬9223372036854775807 < (txt (Lib.itoa r.f)).size + 1 := by omega
          have hz2 : ¬9223372036854775807 < (txt (Lib.itoa r.f)).size + 1 + (txt (fourT r)).size := by omega
          have hz3 : ¬9223372036854775807 < (txt (Lib.itoa r.f)).size + 1 + (txt (fourT r)).size + 1 := by omega
          clear s1 s2
          go_wp2_with fail
          refine (itoa_any (n := r.f) (by omega) (by omega) (HL.out.calm (calm_trans HC.out HC4.out))).mono ?_
          rintro z w5 ⟨rfl, C⟩
          have HC5 := Lib.hid (calm_trans HC4.out C)
          have HB5 := Lib.hid (HB4.out.calm C)
          clear C HB4 HC4 c0 cl HA4
          have HTx : Hid (txt (Lib.itoa r.f) ++ ⟨#[32]⟩ ++ txt (fourT r) ++ ⟨#[10]⟩ = txt (Tx.lineT r.int ++ [10])) := Lib.hid (by
            show txt (Lib.itoa r.f) ++ txt [32] ++ txt (fourT r) ++ txt [10] = _
            rw [txt_app, txt_app, txt_app]
            congr 1
            show (Lib.itoa r.f ++ [32] ++ fourT r) ++ [10] = _
            congr 1
            rw [List.append_assoc]
            rfl)
          have HWr := Lib.hid (write_any (t := Tx.lineT r.int ++ [10]) HB5.out (by
            have : (Tx.lineT r.int ++ [10]).length = (Lib.itoa r.f).length + 1 + (fourT r).length + 1 := by
              show ((Lib.itoa r.f ++ 32 :: fourT r) ++ [10]).length = _
              simp only [List.length_append, List.length_cons, List.length_nil]
              omega
            omega) HC5.out.size)
          go_wp2_with fail
          rw [HTx.out]
          refine HWr.out.mono ?_
          rintro z w6 ⟨rfl, hbl, hB⟩
          have HB6 := Lib.hid hbl
          have HC6 := Lib.hid (calm_belowB HC5.out hB)
          clear hbl hB HWr HB5 HC5
          go_wp2_with fail
          exact ⟨⟨k + 1, by omega, by go_num, by rw [HH.out]; exact HB6.out, HYes.out, HC6.out⟩, by simp [intOf]; omega⟩
      · have hn' : k = rs.length := by omega
        subst hn'
        rw [List.take_length] at hall
        have HV : Hid (tabT rs = some (headT rs rs.length)) := Lib.hid (by rw [HX.out, hall]; rfl)
        have HSt := Lib.hid (string_any HBl.out HK.out.size)
        go_wp2_with fail
        refine HSt.out.mono ?_
        rintro z w4 ⟨rfl, hB⟩
        have HC4 := Lib.hid (calm_belowB HK.out hB)
        clear hB
        go_wp2_with fail
        go_ret2
        exact ⟨by rw [HV.out]; rfl, calm_trans HC.out HC4.out⟩

end Go.Proofs.YthbebgnjidaokaaGreatDoor
