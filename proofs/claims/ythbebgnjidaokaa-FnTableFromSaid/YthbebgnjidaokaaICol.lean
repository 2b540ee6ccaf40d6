/-
  ColumnOf in the program.
-/
import Derived.Test.YthbebgnjidaokaaCol
import Derived.Test.YthbebgnjidaokaaImplTb
import Derived.Laws.CopyOwn
import Derived.Deep.OwnRows
import Derived.Deep.WholeRow
namespace Go.Proofs.Ythbebgnjidaokaa
open Go.RowKit Fl

set_option maxHeartbeats 1000000 in
theorem implNumbers_any (a b c d e f g h : Nat) (w : World) :
    Calls Try.prog 50 #[.agg #[.complex .f32 a b, .complex .f32 c d, .complex .f32 e f, .complex .f32 g h]] w fun z w' => z = .returned (.agg #[.complex .f32 a b, .complex .f32 c d, .complex .f32 e f, .complex .f32 g h]) ∧ Calm w w' := by
  go_enter Try.func50, Try.ntmps50
  go_wp2_with fail
  refine bodyPost_ret (results_cell_row rfl _ _ (w.heap.size + 1) 78 #[.complex .f32 a b, .complex .f32 c d, .complex .f32 e f, .complex .f32 g h] (0, 0) _ rfl ?_ Try.underlying78 rfl (by kernel_rfl)) rfl ?_
  · have A := At.new (w.alloc (.cells #[.complex .f32 a b, .complex .f32 c d, .complex .f32 e f, .complex .f32 g h] 41)) (.cells #[.complex .f32 a b, .complex .f32 c d, .complex .f32 e f, .complex .f32 g h] 78)
    simpa [At] using A
  · exact ⟨rfl, calm_allocR (calm_new w _) _⟩

/-- Four columns of eight numbers, in one row of cells. -/
def row32 (M : Nat → Nat × Nat) : Array Value := ((List.range 32).map fun p => Value.complex .f32 (M p).1 (M p).2).toArray
theorem row32_size (M : Nat → Nat × Nat) : (row32 M).size = 32 := by simp [row32]
theorem row32_get (M : Nat → Nat × Nat) {p : Nat} (h : p < 32) : (row32 M)[p]? = some (.complex .f32 (M p).1 (M p).2) := by
  simp [row32, List.getElem?_range h]
theorem row32_set (M : Nat → Nat × Nat) {q e f : Nat} (h : q < 32) : (row32 M).setIfInBounds q (.complex .f32 e f) = row32 (fun p => if p = q then (e, f) else M p) := by
  apply Array.ext_getElem?
  intro i
  rw [Array.getElem?_setIfInBounds, row32_size]
  by_cases hq : q = i
  · subst hq
    rw [if_pos rfl, if_pos h, row32_get _ h]
    simp
  · rw [if_neg hq]
    by_cases hi : i < 32
    · rw [row32_get _ hi, row32_get _ hi, if_neg (by omega)]
    · rw [Array.getElem?_eq_none (by rw [row32_size]; omega), Array.getElem?_eq_none (by rw [row32_size]; omega)]
theorem row32_one (M : Nat → Nat × Nat) : (row32 M).all (·.oneCell') = true := by
  rw [Array.all_eq_true_iff_forall_mem]
  intro v hv
  unfold row32 at hv
  simp at hv
  obtain ⟨p, _, rfl⟩ := hv
  rfl
theorem At.set32 {w : World} {S q e f : Nat} {M : Nat → Nat × Nat} {T : TypeId} (H : At w S (.cells (row32 M) T)) (h : q < 32) : At (w.setCell ⟨S, q, none⟩ (.complex .f32 e f)) S (.cells (row32 fun p => if p = q then (e, f) else M p) T) := by
  unfold At at *
  rw [setCell_eq_setRow w S q _ T (0, 0) _ H, row32_set M h]
  exact setRow_heap w S _ _ T _ H
theorem calm_set1 {w w1 : World} (h : Calm w w1) {B q : Nat} (hB : w.heap.size ≤ B) (v : Value) : Calm w (w1.setCell ⟨B, q, none⟩ v) := by
  refine ⟨h.os, h.tape, h.output, by simpa [World.setCell] using h.size, fun k hk hne => ?_⟩
  rw [Below.heap_setCell _ _ _ _ (by show k ≠ B; omega)]
  exact h.block k hk hne
theorem calm_setRow {w w1 : World} (h : Calm w w1) {B : Nat} (hB : w.heap.size ≤ B) (cs : Array Value) : Calm w (w1.setRow B cs) := by
  refine ⟨h.os, h.tape, h.output, by simpa [World.setRow] using h.size, fun k hk hne => ?_⟩
  rw [setRow_other _ _ _ _ (by omega)]
  exact h.block k hk hne
/-- The columns of the first rows. -/
def ColM (rs : List RowW) (M : Nat → Nat × Nat) (n : Nat) : Prop := ∀ k : Nat, k < 4 → ∀ i : Nat, (h : i < rs.length) → i < n → M (k * 8 + i) = rs[i].num k

set_option maxRecDepth 8000 in
set_option maxHeartbeats 4000000 in
theorem columnsOf_any {g n cap : Nat} {rs : List RowW} {w : World} (hR : Row5 w g rs) (hn : rs.length = n) (hl : n ≤ 8) :
    Calls Try.prog 33 #[.slice (some ⟨g, 0, none⟩) n cap] w fun z w' => ∃ M, z = .returned (.agg (row32 M)) ∧ ColM rs M rs.length ∧ Calm w w' := by
  have HR := Lib.hid hR
  clear hR
  subst hn
  have HZ := Lib.hid (show At ((w.alloc (.cells (row32 fun _ => (0, 0)) 56)).alloc (.cells (row32 fun _ => (0, 0)) 56)) w.heap.size (.cells (row32 fun _ => (0, 0)) 56) from (At.new w _).alloc _)
  have HX := Lib.hid (show At ((w.alloc (.cells (row32 fun _ => (0, 0)) 56)).alloc (.cells (row32 fun _ => (0, 0)) 56)) (w.heap.size + 1) (.cells (row32 fun _ => (0, 0)) 56) from by
    have A := At.new (w.alloc (.cells (row32 fun _ => (0, 0)) 56)) (.cells (row32 fun _ => (0, 0)) 56)
    simpa [At] using A)
  have HC0 := Lib.hid (show Calm w ((w.alloc (.cells (row32 fun _ => (0, 0)) 56)).alloc (.cells (row32 fun _ => (0, 0)) 56)) from calm_allocR (calm_new w _) _)
  go_enter Try.func33, Try.ntmps33
  go_wp2_with fail
  go_loopw [10] (fun kv wr => ∃ (n : Nat) (M : Nat → Nat × Nat), n ≤ rs.length ∧ kv = .int .i64 n ∧ ColM rs M n ∧ At wr (w.heap.size + 1) (.cells (row32 M) 56) ∧ At wr w.heap.size (.cells (row32 fun _ => (0, 0)) 56) ∧ Calm w wr)
    (fun kv _ => rs.length - (intOf kv).toNat)
  case atStart => exact ⟨0, fun _ => (0, 0), by omega, rfl, fun _ _ _ _ h => absurd h (by omega), HX.out, HZ.out, HC0.out⟩
  case round =>
    obtain ⟨n, M, hn, rfl, hM, hx, hz, C⟩ := hrel
    have HC := Lib.hid C
    have HM := Lib.hid hM
    have HXn := Lib.hid hx
    have HZn := Lib.hid hz
    clear C hM hx hz HX HZ HC0
    by_cases hlt : n < rs.length
    · obtain ⟨a0, a1, a2, a3, a4⟩ := HR.out.calm HC.out n hlt
      have HNx : Hid (∀ M' : Nat → Nat × Nat, ColM rs M' n → (∀ k : Nat, k < 4 → M' (k * 8 + n) = rs[n].num k) → ColM rs M' (n + 1)) := Lib.hid (by
        intro M' h1 h2 k hk i hi hin
        by_cases e : i = n
        · subst e; exact h2 k hk
        · exact h1 k hk i hi (by omega))
      generalize rs[n] = r at *
      have hgl := World.block_lt_of_cell? wr _ a0
      dsimp only at a0 a1 a2 a3 a4 hgl
      go_wp2_with fail
      refine (implNumbers_any _ _ _ _ _ _ _ _ _).mono ?_
      rintro z w2 ⟨rfl, C⟩
      have K := calm_trans (calm_allocR (grown_refl wr none) _) C
      have HC2 := Lib.hid (calm_trans HC.out K)
      have HX2 := Lib.hid (HXn.out.calm K)
      have HZ2 := Lib.hid (HZn.out.calm K)
      clear C K a0 a1 a2 a3 a4 hgl HXn HZn HC
      go_wp2_with fail
      go_loopw [18] (fun jv wq => ∃ (j : Nat) (M2 : Nat → Nat × Nat), j ≤ 4 ∧ jv = .int .i64 j ∧ ColM rs M2 n ∧ (∀ k : Nat, k < j → M2 (k * 8 + n) = r.num k) ∧ At wq (w.heap.size + 1) (.cells (row32 M2) 56) ∧ At wq w.heap.size (.cells (row32 fun _ => (0, 0)) 56) ∧ Calm w wq)
        (fun jv _ => 4 - (intOf jv).toNat)
      case atStart => exact ⟨0, M, by omega, rfl, HM.out, fun _ h => absurd h (by omega), HX2.out, HZ2.out, HC2.out⟩
      case round =>
        obtain ⟨j, M2, hj4, rfl, hM2, hK, hx, hz, C⟩ := hrel
        have HCq := Lib.hid C
        have HMq := Lib.hid hM2
        have HKq := Lib.hid hK
        have HXq := Lib.hid hx
        have HZq := Lib.hid hz
        clear C hM2 hK hx hz HX2 HZ2 HC2
        by_cases hj : j < 4
        · obtain ⟨e, f, hef⟩ : ∃ e f, r.num j = (e, f) := ⟨_, _, rfl⟩
          have hidx : ∀ w, (Instr.index 78 (.agg #[.complex .f32 r.m.a r.m.b, .complex .f32 r.m.c r.m.d, .complex .f32 r.m.e r.m.f, .complex .f32 r.m.g r.m.h]) (.int .i64 j)).run Try.prog w = .ok (.complex .f32 e f) w := by
            have h1 : (r.num j).1 = e := by rw [hef]
            have h2 : (r.num j).2 = f := by rw [hef]
            subst h1 h2
            intro w
            rcases (show j = 0 ∨ j = 1 ∨ j = 2 ∨ j = 3 by omega) with rfl | rfl | rfl | rfl
            · rfl
            · rfl
            · rfl
            · rfl
          have hq : j * 8 + n < 32 := by omega
          have c0 : wr.cell? ⟨w.heap.size + 1, j * 8 + n, none⟩ = some (.complex .f32 (M2 (j * 8 + n)).1 (M2 (j * 8 + n)).2) := HXq.out.cell (row32_get _ hq)
          have f0 : wr.frozen? ⟨w.heap.size + 1, j * 8 + n, none⟩ = false := HXq.out.fr _
          have hxl := HXq.out.lt
          have HE := Lib.hid hef
          clear hef
          go_wp2_with fail
          refine ⟨⟨j + 1, fun p => if p = j * 8 + n then (e, f) else M2 p, by omega, by go_num, ?_, ?_, HXq.out.set32 hq, HZq.out.other (by simp) _, calm_set1 HCq.out (by omega) _⟩, by simp [intOf]; omega⟩
          · intro k hk i hi hin
            show (if k * 8 + i = j * 8 + n then (e, f) else M2 (k * 8 + i)) = _
            rw [if_neg (by omega)]
            exact HMq.out k hk i hi hin
          · intro k hk
            show (if k * 8 + n = j * 8 + n then (e, f) else M2 (k * 8 + n)) = _
            by_cases e2 : k = j
            · subst e2
              rw [if_pos rfl, HE.out]
            · rw [if_neg (by omega)]
              exact HKq.out k (by omega)
        · have hj5 : j = 4 := by omega
          subst hj5
          have HMn := Lib.hid (HNx.out M2 HMq.out HKq.out)
          go_wp2_with fail
          exact ⟨⟨n + 1, M2, by omega, by go_num, HMn.out, HXq.out, HZq.out, HCq.out⟩, by simp [intOf]; omega⟩
    · have hn' : n = rs.length := by omega
      subst hn'
      go_wp2_with (first | (refine wpList_load_row rfl 56 _ rfl (w.heap.size + 1) rfl 56 _ (0, 0) _ HXn.out Try.underlying56 rfl (by rw [row32_size]; kernel_rfl) ?_) | (refine wpList_store_row rfl 56 _ _ rfl w.heap.size (row32 M) rfl rfl 56 _ HZn.out (by rw [row32_size]; kernel_rfl) (by rw [row32_size, row32_size]) (row32_one M) ?_) | fail)
      refine bodyPost_ret (results_cell_row rfl _ _ w.heap.size 56 (row32 M) (0, 0) _ rfl (setRow_heap wr w.heap.size _ _ _ _ HZn.out) Try.underlying56 rfl (by rw [row32_size]; kernel_rfl)) rfl ?_
      exact ⟨M, rfl, HM.out, calm_setRow HC.out (Nat.le_refl _) _⟩

set_option maxRecDepth 8000 in
set_option maxHeartbeats 4000000 in
theorem implColumn_any {g n cap : Nat} {rs : List RowW} {w : World} {which : Int} (hR : Row5 w g rs) (hn : rs.length = n) (hl : n ≤ 9) (h0 : -10 ≤ which) (h1 : which ≤ 10) :
    Calls Try.prog 12 #[.slice (some ⟨g, 0, none⟩) n cap, .int .i64 which] w fun z w' => ∃ a c, z = .returned (.slice a (colB rs which).length c) ∧ CRow w' a (colB rs which) ∧ Calm w w' := by
  obtain ⟨i0, hi, hz0, hz1, hz2⟩ := info_parts Try.infoC
  have HR := Lib.hid hR
  clear hR
  subst hn
  by_cases hw : which < 0 ∨ 4 ≤ which
  · have hcol : colB rs which = [] := by
      have : (decide (0 ≤ which) && decide (which ≤ 3)) = false := by simp; omega
      unfold colB; rw [this, Bool.and_false]; rfl
    rw [hcol]
    rcases hw with hw | hw
    all_goals
      go_enter Try.func12, Try.ntmps12
      go_wp2_with fail
      go_ret
      exact ⟨none, 0, rfl, .inl rfl, grown_refl _ _⟩
  · obtain ⟨k, rfl, hk⟩ : ∃ k : Nat, which = (k : Int) ∧ k < 4 := ⟨which.toNat, by omega, by omega⟩
    cases hT : tabB rs
    · have hcol : colB rs k = [] := by unfold colB; rw [hT]; rfl
      rw [hcol]
      have HB := Lib.hid hT
      clear hT
      have hk1 : ¬ (k : Int) < 0 := by omega
      have hk2 : ¬ (4 : Int) ≤ k := by omega
      go_enter Try.func12, Try.ntmps12
      go_wp2_with fail
      refine (implTableOk_any HR.out rfl (by omega)).mono ?_
      rw [HB.out]
      rintro z w2 ⟨rfl, C⟩
      go_wp2_with fail
      go_ret
      exact ⟨none, 0, rfl, .inl rfl, C⟩
    · have hcol : colB rs k = rs.map fun r => r.num k := by
        have : (decide (0 ≤ (k : Int)) && decide ((k : Int) ≤ 3)) = true := by simp; omega
        unfold colB
        rw [hT, this]
        rfl
      rw [hcol]
      have HL8 := Lib.hid (tabB_len hT)
      have HB := Lib.hid hT
      clear hT hcol
      have hk1 : ¬ (k : Int) < 0 := by omega
      have hk2 : ¬ (4 : Int) ≤ k := by omega
      go_enter Try.func12, Try.ntmps12
      go_wp2_with fail
      refine (implTableOk_any HR.out rfl (by omega)).mono ?_
      rw [HB.out]
      rintro z w2 ⟨rfl, C⟩
      have HC2 := Lib.hid C
      clear C
      go_wp2_with fail
      refine (columnsOf_any (HR.out.calm HC2.out) rfl HL8.out.2).mono ?_
      rintro z w3 ⟨M, rfl, hM, C⟩
      have HC3 := Lib.hid (calm_trans HC2.out C)
      have HM := Lib.hid hM
      clear C hM
      have hmk := run_make_row' (P := Try.prog) 30 39 (.complex .f32 0 0) 8 Try.underlying30 Try.infoC rfl .i64 .i64 rs.length (by omega) (by omega)
      have HS := Lib.hid (At.new w3 (.cells (row32 M) 56))
      have HSa := Lib.hid (HS.out.alloc (.cells (madeCells #[.complex .f32 0 0] rs.length) 39))
      have HG := Lib.hid (show At ((w3.alloc (.cells (row32 M) 56)).alloc (.cells (madeCells #[.complex .f32 0 0] rs.length) 39)) (w3.heap.size + 1) (.cells (madeCells #[.complex .f32 0 0] rs.length) 39) from by
        have A := At.new (w3.alloc (.cells (row32 M) 56)) (.cells (madeCells #[.complex .f32 0 0] rs.length) 39)
        simpa [At] using A)
      have hcl : (cellsC (rs.map fun r => r.num k)).length = rs.length := by simp [cellsC]
      have hms : (madeCells #[Value.complex .f32 0 0] rs.length).size = rs.length := size_madeCells _ _
      have hsrc : ∀ j v, (cellsC (rs.map fun r => r.num k))[j]? = some v → ((w3.alloc (.cells (row32 M) 56)).alloc (.cells (madeCells #[.complex .f32 0 0] rs.length) 39)).cell? ((⟨w3.heap.size, k * 8, none⟩ : Addr).add j) = some v := by
        intro j v hv
        have hj : j < rs.length := by
          have := (List.getElem?_eq_some_iff.1 hv).1
          omega
        have hv' : v = .complex .f32 (rs[j].num k).1 (rs[j].num k).2 := by
          unfold cellsC at hv
          simp [hj] at hv
          exact hv.symm
        have e : (⟨w3.heap.size, k * 8, none⟩ : Addr).add j = ⟨w3.heap.size, k * 8 + j, none⟩ := by
          unfold Addr.add
          split <;> simp_all
        have h8 := HL8.out.2
        rw [e, HSa.out.cell (row32_get M (by omega)), HM.out k hk j hj hj, hv']
      have hcp := run_copy_row (P := Try.prog) ((w3.alloc (.cells (row32 M) 56)).alloc (.cells (madeCells #[.complex .f32 0 0] rs.length) 39)) 30 30 3 39 (w3.heap.size + 1) 0 rs.length rs.length ⟨w3.heap.size, k * 8, none⟩ 8 8 (madeCells #[.complex .f32 0 0] rs.length) 39 (cellsC (rs.map fun r => r.num k)) Try.underlying30 (by kernel_rfl) HG.out (by rw [hcl]; have := HL8.out.2; simp [Nat.min_def]; omega) hsrc (by rw [hcl, hms]; omega) (by intro v hv; unfold cellsC at hv; simp at hv; obtain ⟨_, _, rfl⟩ := hv; rfl)
      have HFin := Lib.hid (setRow_heap _ _ _ ((madeCells #[Value.complex .f32 0 0] rs.length).toList.take 0 ++ cellsC (rs.map fun r => r.num k) ++ (madeCells #[Value.complex .f32 0 0] rs.length).toList.drop (0 + (cellsC (rs.map fun r => r.num k)).length)).toArray _ _ HG.out)
      have HCF := Lib.hid (calm_setRow (calm_allocR (calm_allocR HC3.out (.cells (row32 M) 56)) (.cells (madeCells #[.complex .f32 0 0] rs.length) 39)) (B := w3.heap.size + 1) (by have := HC3.out.size; omega) ((madeCells #[Value.complex .f32 0 0] rs.length).toList.take 0 ++ cellsC (rs.map fun r => r.num k) ++ (madeCells #[Value.complex .f32 0 0] rs.length).toList.drop (0 + (cellsC (rs.map fun r => r.num k)).length)).toArray)
      generalize hfe : ((madeCells #[Value.complex .f32 0 0] rs.length).toList.take 0 ++ cellsC (rs.map fun r => r.num k) ++ (madeCells #[Value.complex .f32 0 0] rs.length).toList.drop (0 + (cellsC (rs.map fun r => r.num k)).length)).toArray = fin at *
      have HFe := Lib.hid hfe
      clear hfe
      go_wp2_with (first | (refine wpList_store_row rfl 56 _ _ rfl w3.heap.size (row32 M) rfl rfl 56 (row32 fun _ => (0, 0)) (At.new w3 _) (by rw [row32_size]; kernel_rfl) (by rw [row32_size, row32_size]) (row32_one M) ?_; rw [World.setRow_alloc_new]) | fail)
      go_ret
      refine ⟨some ⟨w3.heap.size + 1, 0, none⟩, rs.length, by (rw [List.length_map]; rfl), .inr ⟨_, rfl, fun i hi => ?_⟩, HCF.out⟩
      have hi' : i < rs.length := by simpa using hi
      have hF : At (((w3.alloc (.cells (row32 M) 56)).alloc (.cells (madeCells #[.complex .f32 0 0] rs.length) 39)).setRow (w3.heap.size + 1) fin) (w3.heap.size + 1) (.cells fin 39) := HFin.out
      refine hF.cell ?_
      rw [← HFe.out]
      simp only [List.take_zero, List.nil_append, List.getElem?_toArray]
      rw [List.getElem?_append_left (by omega)]
      unfold cellsC
      rw [List.getElem?_map, List.getElem?_eq_getElem hi]
      rfl

end Go.Proofs.Ythbebgnjidaokaa
