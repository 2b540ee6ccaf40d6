/-
  Numerals, numbers, matrices and rows of a text, in the program.
-/
import Derived.Test.YthbebgnjidaokaaDoorLibO
import Derived.Test.YthbebgnjidaokaaDoorRdL
namespace Go.Proofs.YthbebgnjidaokaaDoor
open Go.RowKit Fl

set_option maxHeartbeats 1000000 in
theorem readInt_any (s : ByteArray) (hs : s.size ≤ 2000000) {w : World} (L : LibOk w) :
    Calls Tryd.prog 22 #[.string s] w fun z w' => z = .returned (.tuple #[.int .i64 ((intV (byt s)).getD 0), .bool (intV (byt s)).isSome]) ∧ Calm w w' := by
  have HL := Lib.hid L
  have HA := Lib.hid (atoi_any s hs L)
  clear L
  go_enter Tryd.func22, Tryd.ntmps22
  go_wp2_with fail
  refine HA.out.mono ?_
  rintro z w2 ⟨h, C⟩
  have HC := Lib.hid C
  have HL2 := Lib.hid (HL.out.calm C)
  clear C HA
  rcases h with ⟨v, rfl, hv⟩ | ⟨v, t, p, rfl, hv⟩
  · have hb := Lib.atoiAll_bounds hv
    have HI := Lib.hid (itoa_any hb.1 hb.2 HL2.out)
    by_cases e : Lib.itoa v = byt s
    · have HV := Lib.hid (show intV (byt s) = some v by unfold intV; rw [hv]; dsimp only; rw [if_pos e])
      have es : txt (Lib.itoa v) = s := by rw [e]; rfl
      clear hv
      go_wp2_with fail
      refine HI.out.mono ?_
      rintro z w3 ⟨rfl, C⟩
      have HC3 := Lib.hid (calm_trans HC.out C)
      clear C
      rw [es]
      go_wp2_with fail
      go_ret2
      exact ⟨by rw [HV.out]; rfl, HC3.out⟩
    · have HV := Lib.hid (show intV (byt s) = none by unfold intV; rw [hv]; dsimp only; rw [if_neg e])
      have es : ¬ txt (Lib.itoa v) = s := by
        intro h
        apply e
        rw [← h, byt_txt']
      clear hv
      go_wp2_with fail
      refine HI.out.mono ?_
      rintro z w3 ⟨rfl, C⟩
      have HC3 := Lib.hid (calm_trans HC.out C)
      clear C
      generalize txt (Lib.itoa v) = x at *
      have es2 : (x.toList == s.toList) = false := by
        rw [beq_eq_false_iff_ne]
        intro h
        rw [Lib.toList_data, Lib.toList_data] at h
        exact es (by rw [← Lib.mk_data x, h, Lib.mk_data])
      go_wp2_with fail
      go_ret2
      exact ⟨by rw [HV.out]; rfl, HC3.out⟩
  · have HV := Lib.hid hv
    clear hv
    go_wp2_with fail
    go_ret2
    exact ⟨by rw [HV.out]; rfl, HC.out⟩

/-- What readNumber gives. -/
def numVal (o : Option Tx.Cn) : Value := match o with
  | some z => .tuple #[.complex .f32 (milliB z.1) (milliB z.2), .bool true]
  | none => .tuple #[.complex .f32 0 0, .bool false]
theorem numVal_none : numVal none = .tuple #[.complex .f32 0 0, .bool false] := rfl
theorem numVal_some (z : Tx.Cn) : numVal (some z) = .tuple #[.complex .f32 (milliB z.1) (milliB z.2), .bool true] := rfl
theorem cut1_len (c : UInt8) (l : Tx.Bs) : (cut1 c l).1.length ≤ l.length ∧ (cut1 c l).2.1.length ≤ l.length := by
  induction l with
  | nil => simp [cut1]
  | cons b r ih =>
    unfold cut1
    by_cases e : b = c
    · rw [if_pos e]; simp
    · rw [if_neg e]
      simp only [List.length_cons]
      omega

set_option maxRecDepth 8000 in
set_option maxHeartbeats 2000000 in
theorem readNumber_any (s : ByteArray) (hs : s.size ≤ 2000000) {w : World} (L : LibOk w) :
    Calls Tryd.prog 31 #[.string s] w fun z w' => z = .returned (numVal (Tx.numV (byt s))) ∧ Calm w w' := by
  have HL := Lib.hid L
  have HCt := Lib.hid (cut_any s 44 hs L)
  have hlen := cut1_len 44 (byt s)
  rw [byt_len] at hlen
  have HV : Hid (Tx.numV (byt s) = match intV (cut1 44 (byt s)).1, intV (cut1 44 (byt s)).2.1 with
    | some a, some b => if Tx.inM a ∧ Tx.inM b then some (a, b) else none
    | _, _ => none) := Lib.hid (by rw [← numP_eq]; rfl)
  generalize (cut1 44 (byt s)).1 = x at *
  generalize (cut1 44 (byt s)).2.1 = y at *
  generalize (cut1 44 (byt s)).2.2 = f at *
  clear L
  go_enter Tryd.func31, Tryd.ntmps31
  go_wp2_with fail
  refine HCt.out.mono ?_
  rintro z w2 ⟨rfl, C⟩
  have HC := Lib.hid C
  have HL2 := Lib.hid (HL.out.calm C)
  clear C HCt
  go_wp2_with fail
  refine (readInt_any (txt x) (by rw [txt_size]; omega) HL2.out).mono ?_
  rw [byt_txt']
  rintro z w3 ⟨rfl, C⟩
  have HC3 := Lib.hid (calm_trans HC.out C)
  have HL3 := Lib.hid (HL2.out.calm C)
  clear C HL2 HC
  go_wp2_with fail
  refine (readInt_any (txt y) (by rw [txt_size]; omega) HL3.out).mono ?_
  rw [byt_txt']
  rintro z w4 ⟨rfl, C⟩
  have HC4 := Lib.hid (calm_trans HC3.out C)
  clear C HL3 HC3
  cases hx : intV x with
  | none =>
    have HX : Hid (Tx.numV (byt s) = none) := Lib.hid (by rw [HV.out, hx])
    clear hx
    go_wp2_with fail
    go_ret2
    exact ⟨by rw [HX.out]; rfl, HC4.out⟩
  | some a =>
    have hba := intV_is hx
    cases hy : intV y with
    | none =>
      have HX : Hid (Tx.numV (byt s) = none) := Lib.hid (by rw [HV.out, hx, hy])
      clear hx hy
      go_wp2_with fail
      go_ret2
      exact ⟨by rw [HX.out]; rfl, HC4.out⟩
    | some b =>
      have hbb := intV_is hy
      have HX : Hid (Tx.numV (byt s) = if Tx.inM a ∧ Tx.inM b then some (a, b) else none) := Lib.hid (by rw [HV.out, hx, hy])
      clear hx hy
      have HMi := Lib.hid (implMilli_any a b)
      obtain ⟨α, hα⟩ : ∃ α, okM a = α := ⟨_, rfl⟩
      obtain ⟨β, hβ⟩ : ∃ β, okM b = β := ⟨_, rfl⟩
      have HMa := Lib.hid (isMilli_any a)
      have HMb := Lib.hid (isMilli_any b)
      have HMV := Lib.hid (show milliV a b = if α && β then .complex .f32 (milliB a) (milliB b) else .complex .f32 0 0 by unfold milliV; rw [hα, hβ])
      have HMn : Hid (Tx.numV (byt s) = if α && β then some (a, b) else none) := Lib.hid (by
        rw [HX.out]
        have e1 : (α && β) = true ↔ (Tx.inM a ∧ Tx.inM b) := by
          rw [← hα, ← hβ, Bool.and_eq_true, okM_iff, okM_iff]
          rfl
        by_cases h : Tx.inM a ∧ Tx.inM b
        · rw [if_pos h, if_pos (e1.2 h)]
        · rw [if_neg h, if_neg (fun g => h (e1.1 g))])
      rw [hα] at HMa
      rw [hβ] at HMb
      clear hα hβ
      cases α
      · go_wp2_with fail
        refine (HMa.out _).mono ?_
        rintro z w5 ⟨rfl, hw5⟩
        subst hw5
        go_wp2_with fail
        go_ret2
        exact ⟨by rw [HMn.out]; rfl, HC4.out⟩
      · cases β
        · go_wp2_with fail
          refine (HMa.out _).mono ?_
          rintro z w5 ⟨rfl, hw5⟩
          subst hw5
          go_wp2_with fail
          refine (HMb.out _).mono ?_
          rintro z w6 ⟨rfl, hw6⟩
          subst hw6
          go_wp2_with fail
          go_ret2
          exact ⟨by rw [HMn.out]; rfl, HC4.out⟩
        · go_wp2_with fail
          refine (HMa.out _).mono ?_
          rintro z w5 ⟨rfl, hw5⟩
          subst hw5
          go_wp2_with fail
          refine (HMb.out _).mono ?_
          rintro z w6 ⟨rfl, hw6⟩
          subst hw6
          go_wp2_with fail
          refine (HMi.out _).mono ?_
          rw [HMV.out]
          rintro z w7 ⟨rfl, hw7⟩
          subst hw7
          go_wp2_with fail
          go_ret2
          exact ⟨by rw [HMn.out]; rfl, HC4.out⟩

/-- Four numbers, in a row of cells. -/
def row4 (M : Nat → Nat × Nat) : Array Value := ((List.range 4).map fun p => Value.complex .f32 (M p).1 (M p).2).toArray
theorem row4_size (M : Nat → Nat × Nat) : (row4 M).size = 4 := by simp [row4]
theorem row4_get (M : Nat → Nat × Nat) {p : Nat} (h : p < 4) : (row4 M)[p]? = some (.complex .f32 (M p).1 (M p).2) := by
  simp [row4, List.getElem?_range h]
theorem row4_set (M : Nat → Nat × Nat) {q e f : Nat} (h : q < 4) : (row4 M).setIfInBounds q (.complex .f32 e f) = row4 (fun p => if p = q then (e, f) else M p) := by
  apply Array.ext_getElem?
  intro i
  rw [Array.getElem?_setIfInBounds, row4_size]
  by_cases hq : q = i
  · subst hq
    rw [if_pos rfl, if_pos h, row4_get _ h]
    simp
  · rw [if_neg hq]
    by_cases hi : i < 4
    · rw [row4_get _ hi, row4_get _ hi, if_neg (by omega)]
    · rw [Array.getElem?_eq_none (by rw [row4_size]; omega), Array.getElem?_eq_none (by rw [row4_size]; omega)]
theorem at_set4 {w : World} {S q e f : Nat} {M : Nat → Nat × Nat} {T : TypeId} (H : At w S (.cells (row4 M) T)) (h : q < 4) : At (w.setCell ⟨S, q, none⟩ (.complex .f32 e f)) S (.cells (row4 fun p => if p = q then (e, f) else M p) T) := by
  unfold At at *
  rw [setCell_eq_setRow w S q _ T (0, 0) _ H, row4_set M h]
  exact setRow_heap w S _ _ T _ H
theorem calm_setR {w w1 : World} (h : Calm w w1) {B q : Nat} (hB : w.heap.size ≤ B) (v : Value) : Calm w (w1.setCell ⟨B, q, none⟩ v) := by
  refine ⟨h.os, h.tape, h.output, by simpa [World.setCell] using h.size, fun k hk hne => ?_⟩
  rw [Below.heap_setCell _ _ _ _ (by show k ≠ B; omega)]
  exact h.block k hk hne
/-- What readTwo gives. -/
def fourVal (o : Option (Tx.Cn × Tx.Cn × Tx.Cn × Tx.Cn)) : Value := match o with
  | some (a, b, c, d) => .tuple #[twoV (milliB a.1) (milliB a.2) (milliB b.1) (milliB b.2) (milliB c.1) (milliB c.2) (milliB d.1) (milliB d.2), .bool true]
  | none => .tuple #[twoV 0 0 0 0 0 0 0 0, .bool false]
theorem fourV_of {l x y z t : Tx.Bs} (h : Tx.cutL 32 l = [x, y, z, t]) : fourV l = match Tx.numV x, Tx.numV y, Tx.numV z, Tx.numV t with
    | some a, some b, some c, some d => some (a, b, c, d)
    | _, _, _, _ => none := by
  unfold fourV
  rw [h]
  rfl
theorem four_none {l : Tx.Bs} {p0 p1 p2 p3 : ByteArray} (h : Tx.cutL 32 l = [byt p0, byt p1, byt p2, byt p3]) {k : Nat} (hk : k < 4) (hn : Tx.numV (byt ([p0, p1, p2, p3].getD k p0)) = none) : fourV l = none := by
  rw [fourV_of h]
  match k, hk with
  | 0, _ =>
    rw [show Tx.numV (byt p0) = none from hn]
  | 1, _ =>
    rw [show Tx.numV (byt p1) = none from hn]
    cases Tx.numV (byt p0) <;> rfl
  | 2, _ =>
    rw [show Tx.numV (byt p2) = none from hn]
    cases Tx.numV (byt p0) <;> cases Tx.numV (byt p1) <;> rfl
  | 3, _ =>
    rw [show Tx.numV (byt p3) = none from hn]
    cases Tx.numV (byt p0) <;> cases Tx.numV (byt p1) <;> cases Tx.numV (byt p2) <;> rfl

set_option maxRecDepth 8000 in
set_option maxHeartbeats 4000000 in
theorem readTwo_any (s : ByteArray) (hs : s.size ≤ 2000000) {w : World} (L : LibOk w) :
    Calls Tryd.prog 23 #[.string s] w fun z w' => z = .returned (fourVal (fourV (byt s))) ∧ Calm w w' := by
  have HL := Lib.hid L
  have HZ0 := Lib.hid (Blk.new w 0 0 0 0 0 0 0 0)
  have HC0 := Lib.hid (calm_new w (.cells #[.complex .f32 0 0, .complex .f32 0 0, .complex .f32 0 0, .complex .f32 0 0] 37))
  have HS := Lib.hid (splitN_any s hs (HL.out.calm HC0.out))
  clear L
  go_enter Tryd.func23, Tryd.ntmps23
  go_wp2_with fail
  refine HS.out.mono ?_
  rintro z w2 ⟨c, ps, rfl, hps, hL, hlt, C⟩
  have HC2 := Lib.hid (calm_trans HC0.out C)
  have HZ2 := Lib.hid (HZ0.out.calm C)
  have HPs := Lib.hid hps
  have HSl := Lib.hid hL
  have HL2 := Lib.hid (HL.out.calm HC2.out)
  have hsz : (w.alloc (.cells #[.complex .f32 0 0, .complex .f32 0 0, .complex .f32 0 0, .complex .f32 0 0] 37)).heap.size = w.heap.size + 1 := by simp
  rw [hsz] at hlt HSl
  clear C hps hL HS HZ0 HC0 HL
  have z0 := HZ2.out.c0
  have z1 := HZ2.out.c1
  have z2 := HZ2.out.c2
  have z3 := HZ2.out.c3
  have f0 := HZ2.out.fr 0
  have f1 := HZ2.out.fr 1
  have f2 := HZ2.out.fr 2
  have f3 := HZ2.out.fr 3
  have zl := HZ2.out.lt
  by_cases h4 : ps.length = 4
  · obtain ⟨p0, p1, p2, p3, rfl⟩ : ∃ a b c d, ps = [a, b, c, d] := by
      match ps, h4 with
      | [a, b, c, d], _ => exact ⟨a, b, c, d, rfl⟩
    have hcut : Tx.cutL 32 (byt s) = [byt p0, byt p1, byt p2, byt p3] := by
      have h := HPs.out
      have := split_four (byt s) (by rw [← h]; rfl)
      rw [← this, ← h]
      rfl
    have hshort : ∀ p ∈ [p0, p1, p2, p3], p.size ≤ 2000000 := fun p hp => Nat.le_trans (piece_short (show [p0, p1, p2, p3].map byt = Tx.cutL 32 (byt s) from hcut.symm) hp) hs
    have HCut := Lib.hid hcut
    have HSh := Lib.hid hshort
    have HX0 := Lib.hid (At.new w2 (.cells (row4 fun _ => (0, 0)) 64))
    clear hcut hshort h4 HPs z0 z1 z2 z3 f0 f1 f2 f3
    rw [hsz]
    go_wp2_with fail
    go_loopw [18] (fun kv wr => ∃ (k : Nat) (M : Nat → Nat × Nat), k ≤ 4 ∧ kv = .int .i64 k ∧ (∀ i, i < k → ∃ z : Tx.Cn, Tx.numV (byt ([p0, p1, p2, p3].getD i p0)) = some z ∧ M i = (milliB z.1, milliB z.2)) ∧ At wr w2.heap.size (.cells (row4 M) 64) ∧ Calm w2 wr)
      (fun kv _ => 4 - (intOf kv).toNat)
    case atStart => exact ⟨0, fun _ => (0, 0), by omega, rfl, fun i h => absurd h (by omega), HX0.out, calm_new w2 _⟩
    case round =>
      obtain ⟨k, M, hk4, rfl, hM, hat, C⟩ := hrel
      have HM := Lib.hid hM
      have HAt := Lib.hid hat
      have HC := Lib.hid C
      clear hM hat C HX0
      by_cases hk : k < 4
      · have hkl : k < [p0, p1, p2, p3].length := hk
        have b0 : wr.cell? ⟨w.heap.size + 1, k, none⟩ = some (.string [p0, p1, p2, p3][k]) := (HSl.out.calm HC.out) k hkl
        have gl := World.block_lt_of_cell? wr _ b0
        have hgd : [p0, p1, p2, p3].getD k p0 = [p0, p1, p2, p3][k] := by rw [List.getD_eq_getElem?_getD, List.getElem?_eq_getElem hkl]; rfl
        have hpz := HSh.out _ (List.getElem_mem hkl)
        generalize [p0, p1, p2, p3][k] = q at *
        have HGd := Lib.hid hgd
        have HRd := Lib.hid (readNumber_any q hpz (HL2.out.calm HC.out))
        obtain ⟨o, ho⟩ : ∃ o, Tx.numV (byt q) = o := ⟨_, rfl⟩
        rw [ho] at HRd
        have HO := Lib.hid ho
        dsimp only at gl
        clear ho hgd
        go_wp2_with fail
        refine HRd.out.mono ?_
        rintro z w4 ⟨rfl, C⟩
        have HC4 := Lib.hid (calm_trans HC.out C)
        have HAt4 := Lib.hid (HAt.out.calm C)
        clear C HRd b0 gl HAt HC
        cases o with
        | none =>
          have HV := Lib.hid (four_none HCut.out hk (by rw [HGd.out]; exact HO.out))
          have HZ4 := Lib.hid (HZ2.out.calm HC4.out)
          have HCw := Lib.hid (calm_trans HC2.out HC4.out)
          have z0 := HZ4.out.c0
          have z1 := HZ4.out.c1
          have z2 := HZ4.out.c2
          have z3 := HZ4.out.c3
          have f0 := HZ4.out.fr 0
          have f1 := HZ4.out.fr 1
          have f2 := HZ4.out.fr 2
          have f3 := HZ4.out.fr 3
          have zl4 := HZ4.out.lt
          rw [numVal_none]
          go_wp2_with fail
          refine bodyPost_ret (results_two_tmp rfl _ rfl ((((HZ4.out.s0 _ _).s1 _ _).s2 _ _).s3 _ _)) rfl ?_
          exact ⟨by rw [HV.out]; rfl, calm_set4 HCw.out (Nat.le_refl _) _ _ _ _⟩
        | some z =>
          have c0 : w4.cell? ⟨w2.heap.size, k, none⟩ = some (.complex .f32 (M k).1 (M k).2) := HAt4.out.cell (row4_get _ hk)
          have f0 : w4.frozen? ⟨w2.heap.size, k, none⟩ = false := HAt4.out.fr _
          have hxl := HAt4.out.lt
          rw [numVal_some]
          go_wp2_with fail
          refine ⟨⟨k + 1, fun p => if p = k then (milliB z.1, milliB z.2) else M p, by omega, by go_num, ?_, at_set4 HAt4.out hk, calm_setR HC4.out (Nat.le_refl _) _⟩, by simp [intOf]; omega⟩
          intro i hi
          by_cases e : i = k
          · subst e
            exact ⟨z, by rw [HGd.out]; exact HO.out, by simp⟩
          · obtain ⟨z', h1, h2⟩ := HM.out i (by omega)
            exact ⟨z', h1, by dsimp only; rw [if_neg e]; exact h2⟩
      · have hk5 : k = 4 := by omega
        subst hk5
        obtain ⟨u0, a0, m0⟩ := HM.out 0 (by omega)
        obtain ⟨u1, a1, m1⟩ := HM.out 1 (by omega)
        obtain ⟨u2, a2, m2⟩ := HM.out 2 (by omega)
        obtain ⟨u3, a3, m3⟩ := HM.out 3 (by omega)
        have HV : Hid (fourV (byt s) = some (u0, u1, u2, u3)) := Lib.hid (by
          rw [fourV_of HCut.out, show Tx.numV (byt p0) = some u0 from a0, show Tx.numV (byt p1) = some u1 from a1, show Tx.numV (byt p2) = some u2 from a2, show Tx.numV (byt p3) = some u3 from a3])
        have x0 : wr.cell? ⟨w2.heap.size, 0, none⟩ = some (.complex .f32 (milliB u0.1) (milliB u0.2)) := by have := HAt.out.cell (row4_get M (p := 0) (by omega)); rwa [m0] at this
        have x1 : wr.cell? ⟨w2.heap.size, 1, none⟩ = some (.complex .f32 (milliB u1.1) (milliB u1.2)) := by have := HAt.out.cell (row4_get M (p := 1) (by omega)); rwa [m1] at this
        have x2 : wr.cell? ⟨w2.heap.size, 2, none⟩ = some (.complex .f32 (milliB u2.1) (milliB u2.2)) := by have := HAt.out.cell (row4_get M (p := 2) (by omega)); rwa [m2] at this
        have x3 : wr.cell? ⟨w2.heap.size, 3, none⟩ = some (.complex .f32 (milliB u3.1) (milliB u3.2)) := by have := HAt.out.cell (row4_get M (p := 3) (by omega)); rwa [m3] at this
        have xl := HAt.out.lt
        have HZ4 := Lib.hid (HZ2.out.calm HC.out)
        have HCw := Lib.hid (calm_trans HC2.out HC.out)
        have z0 := HZ4.out.c0
        have z1 := HZ4.out.c1
        have z2 := HZ4.out.c2
        have z3 := HZ4.out.c3
        have f0 := HZ4.out.fr 0
        have f1 := HZ4.out.fr 1
        have f2 := HZ4.out.fr 2
        have f3 := HZ4.out.fr 3
        have zl4 := HZ4.out.lt
        clear a0 a1 a2 a3 m0 m1 m2 m3
        go_wp2_with fail
        refine bodyPost_ret (results_two_tmp rfl _ rfl ((((HZ4.out.s0 _ _).s1 _ _).s2 _ _).s3 _ _)) rfl ?_
        exact ⟨by rw [HV.out]; rfl, calm_set4 HCw.out (Nat.le_refl _) _ _ _ _⟩
  · have HV : Hid (fourV (byt s) = none) := Lib.hid (split_not _ (by rw [← HPs.out, List.length_map]; exact h4))
    have h4' : ¬ (ps.length : Int) = 4 := by omega
    go_wp2_with fail
    refine bodyPost_ret (results_two_tmp rfl _ rfl ((((HZ2.out.s0 _ _).s1 _ _).s2 _ _).s3 _ _)) rfl ?_
    exact ⟨by rw [HV.out]; rfl, calm_set4 HC2.out (Nat.le_refl _) _ _ _ _⟩

end Go.Proofs.YthbebgnjidaokaaDoor
