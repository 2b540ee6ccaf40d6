/-
  ScatteringAt in the model.
-/
import Derived.Test.YthbebgnjidaokaaScatT
import Derived.BigQuiet
import Derived.Deep.RegionHeld3
import Derived.Test.YthbebgnjidaokaaTabT
import Derived.Test.YthbebgnjidaokaaReadTc
namespace Go.Proofs.Ythbebgnjidaokaa
open Go.RowKit Fl

/-- What ScatteringAt gives, as a value. -/
def scV (o : Option Words) : Value := match o with
  | some m => .tuple #[twoV m.a m.b m.c m.d m.e m.f m.g m.h, .bool true]
  | none => .tuple #[twoV 0 0 0 0 0 0 0 0, .bool false]
/-- The row ahead. -/
def prevR (rs : List RowW) : Nat → Option RowW
  | 0 => none
  | k + 1 => rs[k]?
theorem scatR_cons (f : Int) (p : Option RowW) (r : RowW) (rs : List RowW) : scatR f p (r :: rs) = if r.f = f then some r.m else match p with
    | none => scatR f (some r) rs
    | some q => if f < q.f ∨ r.f < f then scatR f (some r) rs else betRow q.m r.m (partB (f - q.f) (r.f - q.f)) := by
  cases p <;> rfl
theorem scatR_step {rs : List RowW} {k : Nat} {f : Int} (h : k < rs.length) {o : Option Words} (F : scatR f (prevR rs k) (rs.drop k) = o) :
    o = (if rs[k].f = f then some rs[k].m else match prevR rs k with
      | none => scatR f (prevR rs (k + 1)) (rs.drop (k + 1))
      | some q => if f < q.f ∨ rs[k].f < f then scatR f (prevR rs (k + 1)) (rs.drop (k + 1)) else betRow q.m rs[k].m (partB (f - q.f) (rs[k].f - q.f))) := by
  have e : prevR rs (k + 1) = some rs[k] := List.getElem?_eq_getElem h
  rw [e]
  rw [List.drop_eq_getElem_cons h] at F
  rw [← F, scatR_cons]

theorem tw_calm {w wx wy : World} {g h j x y x2 y2 : Nat} (H : wx.cell? ⟨g, j, none⟩ = some (.complex .f32 x y) ∧ wx.cell? ⟨h, j, none⟩ = some (.complex .f32 x2 y2) ∧ Calm w wx) (C : Calm wx wy) : wy.cell? ⟨g, j, none⟩ = some (.complex .f32 x y) ∧ wy.cell? ⟨h, j, none⟩ = some (.complex .f32 x2 y2) ∧ Calm w wy := by
  obtain ⟨a, b, c⟩ := H
  have hb := C.block g (World.block_lt_of_cell? wx _ a) (fun e => by cases e)
  have hb' := C.block h (World.block_lt_of_cell? wx _ b) (fun e => by cases e)
  exact ⟨by rw [World.cell?_of_block (w := wx) hb]; exact a, by rw [World.cell?_of_block (w := wx) hb']; exact b, calm_trans c C⟩
theorem tw_drew {w wx : World} {g h j x y x2 y2 : Nat} (H : wx.cell? ⟨g, j, none⟩ = some (.complex .f32 x y) ∧ wx.cell? ⟨h, j, none⟩ = some (.complex .f32 x2 y2) ∧ Calm w wx) : wx.drew.cell? ⟨g, j, none⟩ = some (.complex .f32 x y) ∧ wx.drew.cell? ⟨h, j, none⟩ = some (.complex .f32 x2 y2) ∧ Calm w wx.drew := by
  obtain ⟨a, b, C⟩ := H
  exact ⟨a, b, grown_drew C⟩
theorem tw_drewN {w wx : World} {g h j x y x2 y2 n : Nat} (H : wx.cell? ⟨g, j, none⟩ = some (.complex .f32 x y) ∧ wx.cell? ⟨h, j, none⟩ = some (.complex .f32 x2 y2) ∧ Calm w wx) : (wx.drewN n).cell? ⟨g, j, none⟩ = some (.complex .f32 x y) ∧ (wx.drewN n).cell? ⟨h, j, none⟩ = some (.complex .f32 x2 y2) ∧ Calm w (wx.drewN n) := by
  obtain ⟨a, b, C⟩ := H
  exact ⟨a, b, grown_drewN C n⟩
/-- The four numbers of a row. -/
def RowW.pts (r : RowW) : List (Nat × Nat) := [(r.m.a, r.m.b), (r.m.c, r.m.d), (r.m.e, r.m.f), (r.m.g, r.m.h)]
theorem RowW.pts_get (r : RowW) {j : Nat} (h : j < 4) : (#[Value.complex .f32 r.m.a r.m.b, .complex .f32 r.m.c r.m.d, .complex .f32 r.m.e r.m.f, .complex .f32 r.m.g r.m.h] : Array Value)[j]? = some (.complex .f32 (r.pts.getD j (0, 0)).1 (r.pts.getD j (0, 0)).2) := by
  match j, h with
  | 0, _ => rfl
  | 1, _ => rfl
  | 2, _ => rfl
  | 3, _ => rfl
theorem RowW.pts_fin (r : RowW) (H : r.finB = true) {j : Nat} (h : j < 4) : fin .f32 (r.pts.getD j (0, 0)).1 = true ∧ fin .f32 (r.pts.getD j (0, 0)).2 = true := by
  unfold RowW.finB finTwo at H
  simp only [Bool.and_eq_true] at H
  obtain ⟨⟨⟨a, b⟩, c⟩, d⟩ := H
  match j, h with
  | 0, _ => exact a
  | 1, _ => exact b
  | 2, _ => exact c
  | 3, _ => exact d
theorem betRow_no {q r : RowW} {t j : Nat} (h : j < 4) (e : betB (q.pts.getD j (0, 0)) (r.pts.getD j (0, 0)) t = none) : betRow q.m r.m t = none := by
  unfold betRow
  match j, h with
  | 0, _ => rw [show betB (q.m.a, q.m.b) (r.m.a, r.m.b) t = none from e]
  | 1, _ =>
    rw [show betB (q.m.c, q.m.d) (r.m.c, r.m.d) t = none from e]
    cases betB (q.m.a, q.m.b) (r.m.a, r.m.b) t <;> rfl
  | 2, _ =>
    rw [show betB (q.m.e, q.m.f) (r.m.e, r.m.f) t = none from e]
    cases betB (q.m.a, q.m.b) (r.m.a, r.m.b) t <;> cases betB (q.m.c, q.m.d) (r.m.c, r.m.d) t <;> rfl
  | 3, _ =>
    rw [show betB (q.m.g, q.m.h) (r.m.g, r.m.h) t = none from e]
    cases betB (q.m.a, q.m.b) (r.m.a, r.m.b) t <;> cases betB (q.m.c, q.m.d) (r.m.c, r.m.d) t <;> cases betB (q.m.e, q.m.f) (r.m.e, r.m.f) t <;> rfl
theorem betRow_yes {q r : RowW} {t : Nat} {z1 z2 z3 z4 : Nat × Nat} (h : ∀ i, (h : i < [z1, z2, z3, z4].length) → betB (q.pts.getD i (0, 0)) (r.pts.getD i (0, 0)) t = some [z1, z2, z3, z4][i]) : betRow q.m r.m t = some ⟨z1.1, z1.2, z2.1, z2.2, z3.1, z3.2, z4.1, z4.2⟩ := by
  unfold betRow
  rw [show betB (q.m.a, q.m.b) (r.m.a, r.m.b) t = some z1 from h 0 (by simp), show betB (q.m.c, q.m.d) (r.m.c, r.m.d) t = some z2 from h 1 (by simp), show betB (q.m.e, q.m.f) (r.m.e, r.m.f) t = some z3 from h 2 (by simp), show betB (q.m.g, q.m.h) (r.m.g, r.m.h) t = some z4 from h 3 (by simp)]
theorem rowsB_finS (rs : List RowW) : ∀ p, rowsB p rs = true → ∀ r ∈ rs, r.finB = true := by
  induction rs with
  | nil => intro p _ r hr; simp at hr
  | cons x xs ih =>
    intro p h r hr
    have h' : (freqB x.f && x.finB && afterB p x.f && rowsB (some x.f) xs) = true := h
    simp only [Bool.and_eq_true] at h'
    rcases List.mem_cons.1 hr with rfl | hr
    · exact h'.1.1.2
    · exact ih _ h'.2 r hr
theorem tabB_finS {rs : List RowW} (h : tabB rs = true) : ∀ r ∈ rs, r.finB = true := by
  unfold tabB at h
  simp only [Bool.and_eq_true] at h
  exact rowsB_finS rs none h.1

set_option maxRecDepth 8000 in
set_option maxHeartbeats 4000000 in
theorem specAt_any {g n cap : Nat} {rs : List RowW} {f : Int} {w : World} (hR : Row5 w g rs) (hn : rs.length = n) (hl : n ≤ 9) :
    Calls Try.prog 21 #[.slice (some ⟨g, 0, none⟩) n cap, .int .i64 f] w fun z w' => z = .returned (scV (scatB rs f)) ∧ Calm w w' := by
  have HR := Lib.hid hR
  clear hR
  subst hn
  cases hT : tabB rs
  · have HX : Hid (scatB rs f = none) := Lib.hid (by unfold scatB; rw [hT]; rfl)
    have HB := Lib.hid hT
    clear hT
    have HZ0 := Lib.hid (Blk.new w 0 0 0 0 0 0 0 0)
    go_enter Try.func21, Try.ntmps21
    go_wp2_with fail
    go_loopw [6] (fun kv wr => kv = .int .i64 0 ∧ Blk wr w.heap.size 0 0 0 0 0 0 0 0 ∧ Calm w wr)
      (fun _ _ => 0)
    case atStart => exact ⟨rfl, HZ0.out, calm_new w _⟩
    case round =>
      obtain ⟨rfl, Z, C⟩ := hrel
      have HZ := Lib.hid Z
      have HC := Lib.hid C
      clear Z C HZ0
      by_cases h0 : rs.length = 0
      · have z0 := HZ.out.c0
        have z1 := HZ.out.c1
        have z2 := HZ.out.c2
        have z3 := HZ.out.c3
        have f0 := HZ.out.fr 0
        have f1 := HZ.out.fr 1
        have f2 := HZ.out.fr 2
        have f3 := HZ.out.fr 3
        have zl := HZ.out.lt
        go_wp2_with fail
        refine bodyPost_ret (results_two_tmp rfl _ rfl ((((HZ.out.s0 _ _).s1 _ _).s2 _ _).s3 _ _)) rfl ?_
        exact ⟨by rw [HX.out]; rfl, calm_set4 HC.out (Nat.le_refl _) _ _ _ _⟩
      · have h0' : 0 < rs.length := by omega
        go_wp2_with fail
        refine (specTableOk_any (HR.out.calm HC.out) rfl (by omega)).mono ?_
        rw [HB.out]
        rintro z w2 ⟨rfl, C2⟩
        have HZ2 := Lib.hid (HZ.out.calm C2)
        have HC2 := Lib.hid (calm_trans HC.out C2)
        clear C2 HZ HC
        have z0 := HZ2.out.c0
        have z1 := HZ2.out.c1
        have z2 := HZ2.out.c2
        have z3 := HZ2.out.c3
        have f0 := HZ2.out.fr 0
        have f1 := HZ2.out.fr 1
        have f2 := HZ2.out.fr 2
        have f3 := HZ2.out.fr 3
        have zl := HZ2.out.lt
        go_wp2_with fail
        refine bodyPost_ret (results_two_tmp rfl _ rfl ((((HZ2.out.s0 _ _).s1 _ _).s2 _ _).s3 _ _)) rfl ?_
        exact ⟨by rw [HX.out]; rfl, calm_set4 HC2.out (Nat.le_refl _) _ _ _ _⟩
  · have HX : Hid (scatB rs f = scatR f none rs) := Lib.hid (by unfold scatB; rw [hT]; rfl)
    have HB := Lib.hid hT
    have HFq := Lib.hid (tabB_freq hT)
    clear hT
    have HZ0 := Lib.hid (Blk.new w 0 0 0 0 0 0 0 0)
    go_enter Try.func21, Try.ntmps21
    go_wp2_with fail
    go_loopw [6] (fun kv wr => ∃ k : Nat, k ≤ rs.length ∧ kv = .int .i64 k ∧ scatR f (prevR rs k) (rs.drop k) = scatR f none rs ∧ (∀ i, (h : i < rs.length) → i < k → rs[i].f ≠ f) ∧ Blk wr w.heap.size 0 0 0 0 0 0 0 0 ∧ Calm w wr)
      (fun kv _ => rs.length - (intOf kv).toNat)
    case atStart => exact ⟨0, by omega, rfl, rfl, fun i _ h => absurd h (by omega), HZ0.out, calm_new w _⟩
    case round =>
      obtain ⟨k, hk, rfl, hS, hne, Z, C⟩ := hrel
      have HZ := Lib.hid Z
      have HC := Lib.hid C
      clear Z C HZ0
      by_cases hlt : k < rs.length
      · have hst := scatR_step hlt hS
        have hcells : ∀ w', Calm w w' → FiveAt (fun j => w'.cell? ⟨g, j, none⟩) k rs[k] := fun w' C => HR.out.calm C k hlt
        have hfr := HFq.out rs[k] (List.getElem_mem hlt)
        have hrn := tabB_finS HB.out rs[k] (List.getElem_mem hlt)
        obtain ⟨q, hq, hqc, hqf, hqn⟩ : ∃ q : RowW, (k = 0 ∨ (prevR rs k = some q ∧ q.f ≠ f ∧ q.f < rs[k].f)) ∧ (∀ w', Calm w w' → FiveAt (fun j => w'.cell? ⟨g, j, none⟩) (k - 1) q) ∧ (0 ≤ q.f ∧ q.f ≤ 9999999) ∧ q.finB = true := by
          cases k with
          | zero => exact ⟨rs[0], .inl rfl, hcells, hfr, hrn⟩
          | succ j =>
            have hj : j < rs.length := by omega
            exact ⟨rs[j], .inr ⟨List.getElem?_eq_getElem hj, hne j hj (by omega), rows_mono (p := none) (by have := HB.out; unfold tabB at this; simp only [Bool.and_eq_true] at this; exact this.1) j (j + 1) (by omega) hlt⟩, fun w' C => HR.out.calm C j hj, HFq.out rs[j] (List.getElem_mem hj), tabB_finS HB.out rs[j] (List.getElem_mem hj)⟩
        have hnext : rs[k].f ≠ f → ∀ i, (h : i < rs.length) → i < k + 1 → rs[i].f ≠ f := by
          intro h i hi hik
          by_cases e : i = k
          · subst e; exact h
          · exact hne i hi (by omega)
        generalize rs[k] = r at *
        have HSt := Lib.hid hst
        have HL := Lib.hid hcells
        have HQ := Lib.hid hq
        have HQc := Lib.hid hqc
        have HRn := Lib.hid hrn
        have HQn := Lib.hid hqn
        have HNx := Lib.hid hnext
        clear hst hcells hq hqc hnext hS hne hrn hqn
        go_wp2_with fail
        refine (specTableOk_any (HR.out.calm HC.out) rfl (by omega)).mono ?_
        rw [HB.out]
        rintro z w2 ⟨rfl, C2⟩
        have HZ2 := Lib.hid (HZ.out.calm C2)
        have HC2 := Lib.hid (calm_trans HC.out C2)
        clear C2 HZ HC
        obtain ⟨a0, a1, a2, a3, a4⟩ := HL.out _ HC2.out
        have hgl := World.block_lt_of_cell? w2 _ a0
        dsimp only at a0 a1 a2 a3 a4 hgl
        by_cases hf : r.f = f
        · have HV := Lib.hid (show scatR f none rs = some r.m by rw [HSt.out, if_pos hf])
          have z0 := HZ2.out.c0
          have z1 := HZ2.out.c1
          have z2 := HZ2.out.c2
          have z3 := HZ2.out.c3
          have f0 := HZ2.out.fr 0
          have f1 := HZ2.out.fr 1
          have f2 := HZ2.out.fr 2
          have f3 := HZ2.out.fr 3
          have zl := HZ2.out.lt
          go_wp2_with fail
          refine bodyPost_ret (results_two_tmp rfl _ rfl ((((HZ2.out.s0 _ _).s1 _ _).s2 _ _).s3 _ _)) rfl ?_
          exact ⟨by rw [HX.out, HV.out]; rfl, calm_set4 HC2.out (Nat.le_refl _) _ _ _ _⟩
        · have HS2 := Lib.hid HSt.out
          rw [if_neg hf] at HS2
          by_cases hk0 : k = 0
          · subst hk0
            have HS3 := Lib.hid (show scatR f (prevR rs 1) (rs.drop 1) = scatR f none rs from HS2.out.symm)
            go_wp2_with fail
            exact ⟨⟨1, by omega, by go_num, HS3.out, HNx.out hf, HZ2.out, HC2.out⟩, by simp [intOf]; omega⟩
          · obtain ⟨hp, hqne, hqlt⟩ := HQ.out.resolve_left hk0
            rw [hp] at HS2
            dsimp only at HS2
            obtain ⟨b0, b1, b2, b3, b4⟩ := HQc.out _ HC2.out
            dsimp only at b0 b1 b2 b3 b4
            have ej : IntKind.i64.wrap ((k : Int) - 1) = ((k - 1 : Nat) : Int) := by rw [IntWalk.i64_in _ (by omega)]; omega
            have ei : ((k - 1 : Nat) : Int) < (rs.length : Int) := by omega
            have hk1 : ((k : Int) == 0) = false := by simpa using hk0
            by_cases g1 : f < q.f
            · have HS3 := Lib.hid (show scatR f (prevR rs (k + 1)) (rs.drop (k + 1)) = scatR f none rs by have := HS2.out; rw [if_pos (.inl g1)] at this; exact this.symm)
              have hp2 : decide (f < q.f) = true := by simpa using g1
              go_wp2_with fail
              exact ⟨⟨k + 1, by omega, by go_num, HS3.out, HNx.out hf, HZ2.out, HC2.out⟩, by simp [intOf]; omega⟩
            · have hp2 : decide (f < q.f) = false := by simpa using g1
              by_cases g2 : r.f < f
              · have HS3 := Lib.hid (show scatR f (prevR rs (k + 1)) (rs.drop (k + 1)) = scatR f none rs by have := HS2.out; rw [if_pos (.inr g2)] at this; exact this.symm)
                have hp3 : decide (r.f < f) = true := by simpa using g2
                go_wp2_with fail
                exact ⟨⟨k + 1, by omega, by go_num, HS3.out, HNx.out hf, HZ2.out, HC2.out⟩, by simp [intOf]; omega⟩
              · have hp3 : decide (r.f < f) = false := by simpa using g2
                have HS3 := Lib.hid (show scatR f none rs = betRow q.m r.m (partB (f - q.f) (r.f - q.f)) by have := HS2.out; rw [if_neg (by omega)] at this; exact this)
                have ew1 : IntKind.i64.wrap (f - q.f) = f - q.f := IntWalk.i64_in _ (by omega)
                have ew2 : IntKind.i64.wrap (r.f - q.f) = r.f - q.f := IntWalk.i64_in _ (by omega)
                obtain ⟨hpb, hPart⟩ := part_spec (n := f - q.f) (m := r.f - q.f) (by omega) (by omega) (by omega) (by omega)
                have HPart := Lib.hid hPart
                have u1 : ∀ w, fres .quo .f32 (floatOfInt .f32 (f - q.f)) (floatOfInt .f32 (r.f - q.f)) w = partB (f - q.f) (r.f - q.f) := fun w => fres_some w hpb
                have u2 : fask .quo .f32 (floatOfInt .f32 (f - q.f)) (floatOfInt .f32 (r.f - q.f)) = 0 := fask_some hpb
                clear hpb hPart
                go_wp2_with fail
                go_region
                go_wp2_with fail
                refine (numbers_any _ _ _ _ _ _ _ _ _).mono ?_
                rintro z w3 ⟨x, rfl, Ax, _, C3⟩
                have HK3 := Lib.hid (show Calm w2 w3 from calm_trans (grown_drewN (grown_refl _ _) _) C3)
                have HAx := Lib.hid Ax
                clear C3 Ax a0 a1 a2 a3 a4 hgl b0 b1 b2 b3 b4
                obtain ⟨_, a1, a2, a3, a4⟩ := HL.out _ (calm_trans HC2.out HK3.out)
                have hgl := World.block_lt_of_cell? w3 _ a1
                dsimp only at a1 a2 a3 a4 hgl
                go_wp2_with fail
                refine (numbers_any _ _ _ _ _ _ _ _ _).mono ?_
                rintro z w4 ⟨y, rfl, Ay, _, C4⟩
                have HK4 := Lib.hid (calm_trans HC2.out (calm_trans HK3.out C4))
                have HAx4 := Lib.hid (HAx.out.calm C4)
                have HAy4 := Lib.hid Ay
                have HZ4 := Lib.hid (HZ2.out.calm (calm_trans HK3.out C4))
                clear C4 Ay HAx HK3 a1 a2 a3 a4 hgl HZ2 HC2 u1 u2 ew1 ew2
                have HN0 := Lib.hid (show LHold w4 (w4.alloc (.cells #[] 39)) (.slice (some ⟨w4.heap.size, 0, none⟩) 0 0) [] from ⟨World.ownsRow_made (base := w4.heap.size) (e := 39) (size := 1) w4 #[] 0 (Nat.le_refl _) (by decide) rfl, by simp, calm_new w4 _⟩)
                generalize partB (f - q.f) (r.f - q.f) = pt at *
                go_wp2_with fail
                go_loopw [10, 11] (fun ov jv wr => ∃ (j : Nat) (zs : List (Nat × Nat)), j ≤ 4 ∧ jv = .int .i64 j ∧ zs.length = j ∧ (∀ i, (h : i < zs.length) → betB (q.pts.getD i (0, 0)) (r.pts.getD i (0, 0)) pt = some zs[i]) ∧ LHold w4 wr ov zs)
                  (fun _ jv _ => 4 - (intOf jv).toNat)
                case atStart => exact ⟨0, [], by omega, rfl, rfl, fun i h => absurd h (by simp), HN0.out⟩
                case round =>
                  obtain ⟨j, zs, hj4, rfl, hzl, hzs, NL⟩ := hrel
                  have HNL := Lib.hid NL
                  have HZs := Lib.hid hzs
                  clear NL hzs HN0
                  by_cases hj : j < 4
                  · have ca := (HAx4.out.calm HNL.out.c).cell (i := j) (q.pts_get hj)
                    have cb := (HAy4.out.calm HNL.out.c).cell (i := j) (r.pts_get hj)
                    have HP1 := Lib.hid (q.pts_fin HQn.out hj)
                    have HP2 := Lib.hid (r.pts_fin HRn.out hj)
                    have HZn : Hid (∀ z, betB (q.pts.getD j (0, 0)) (r.pts.getD j (0, 0)) pt = some z → ∀ i, (h : i < (zs ++ [z]).length) → betB (q.pts.getD i (0, 0)) (r.pts.getD i (0, 0)) pt = some (zs ++ [z])[i]) := Lib.hid (by
                      intro z hz i hi
                      by_cases e : i < zs.length
                      · rw [List.getElem_append_left e]
                        exact HZs.out i e
                      · have e2 : i = j := by simp at hi; omega
                        subst e2
                        rw [hz, List.getElem_append_right (by omega)]
                        simp)
                    have HNo : Hid (betB (q.pts.getD j (0, 0)) (r.pts.getD j (0, 0)) pt = none → betRow q.m r.m pt = none) := Lib.hid (betRow_no hj)
                    generalize q.pts.getD j (0, 0) = qz at *
                    generalize r.pts.getD j (0, 0) = rz at *
                    obtain ⟨qx, qy⟩ := qz
                    obtain ⟨rx, ry⟩ := rz
                    dsimp only at ca cb HP1 HP2
                    have la := World.block_lt_of_cell? wr _ ca
                    have lb := World.block_lt_of_cell? wr _ cb
                    dsimp only at la lb
                    obtain ⟨β, hβ⟩ : ∃ β, (betB (qx, qy) (rx, ry) pt).isSome = β := ⟨_, rfl⟩
                    have HBw : Hid (∀ w, Calls Try.prog 40 #[.complex .f32 qx qy, .complex .f32 rx ry, .complex .f32 pt 0] w fun z w' => (∃ u v, z = .returned (.tuple #[.complex .f32 u v, .bool β]) ∧ (betB (qx, qy) (rx, ry) pt = none ∨ betB (qx, qy) (rx, ry) pt = some (u, v))) ∧ Calm w w') := Lib.hid (by
                      intro w
                      have := between_any HP1.out.1 HP1.out.2 HP2.out.1 HP2.out.2 HPart.out w
                      rw [hβ] at this
                      exact this)
                    have Hβ := Lib.hid hβ
                    clear hβ
                    have HS0 : wr.cell? ⟨x, j, none⟩ = some (.complex .f32 qx qy) ∧ wr.cell? ⟨y, j, none⟩ = some (.complex .f32 rx ry) ∧ Calm wr wr := ⟨ca, cb, grown_refl _ _⟩
                    clear ca cb
                    go_wp2_with fail
                    go_region_held3 (fun w' => w'.cell? ⟨x, j, none⟩ = some (.complex .f32 qx qy) ∧ w'.cell? ⟨y, j, none⟩ = some (.complex .f32 rx ry) ∧ Calm wr w') (first | with_reducible assumption | with_reducible exact tw_drew ‹_› | with_reducible exact tw_drewN ‹_› | with_reducible exact tw_drewN (tw_drew ‹_›))
                        (first
                        | (go_at_call 40; refine Calls.mono (HBw.out _) ?_; rintro e w5 ⟨⟨u, v, rfl, hb⟩, C'⟩; have HSx := tw_calm ‹_› C'; have HBv := Lib.hid hb; clear hb C'))
                    have C5 := HSx.2.2
                    have HN5 := Lib.hid (HNL.out.calm C5)
                    have HZ5 := Lib.hid (HZ4.out.calm HN5.out.c)
                    have HC5 := Lib.hid (calm_trans HK4.out HN5.out.c)
                    clear HSx C5 la lb HBw HNL
                    cases β
                    · have HV := Lib.hid (show scatR f none rs = none by rw [HS3.out]; exact HNo.out (by cases hx : betB (qx, qy) (rx, ry) pt with | none => rfl | some _ => have := Hβ.out; rw [hx] at this; cases this))
                      have z0 := HZ5.out.c0
                      have z1 := HZ5.out.c1
                      have z2 := HZ5.out.c2
                      have z3 := HZ5.out.c3
                      have f0 := HZ5.out.fr 0
                      have f1 := HZ5.out.fr 1
                      have f2 := HZ5.out.fr 2
                      have f3 := HZ5.out.fr 3
                      have zl := HZ5.out.lt
                      go_wp2_with fail
                      refine bodyPost_ret (results_two_tmp rfl _ rfl ((((HZ5.out.s0 _ _).s1 _ _).s2 _ _).s3 _ _)) rfl ?_
                      exact ⟨by rw [HX.out, HV.out]; rfl, calm_set4 HC5.out (Nat.le_refl _) _ _ _ _⟩
                    · have HZz := Lib.hid (HZn.out (u, v) (HBv.out.resolve_left (by intro e; have := Hβ.out; rw [e] at this; cases this)))
                      obtain ⟨i1, hi1, hy0, hy1, hy2⟩ := info_parts Try.infoCR
                      have H4 := Lib.hid (HN5.out.calm (World.grownBy_alloc w5 (.cells #[.complex .f32 u v] 39) none))
                      have hown := H4.out.own
                      have hsz := HN5.out.c.size
                      go_wp2_with (first | (at_builtin; refine wpList_append_own _ rfl _ _ 30 rfl w4.heap.size 39 i1 (.complex .f32 0 0) 1 8 Try.underlying30 hi1 hy0 hy1 hy2 rfl (by decide) _ _ _ rfl hown ⟨w5.heap.size, 0, none⟩ 1 1 [.complex .f32 u v] rfl rfl ?c1 ?c2 ?c3 ?c4 ?c5 ?_) | fail)
                      case c1 =>
                        intro jj t ht
                        have A := At.new w5 (.cells #[.complex .f32 u v] 39)
                        cases jj with
                        | zero =>
                          simp at ht
                          subst ht
                          exact A.cell (i := 0) rfl
                        | succ jj => simp at ht
                      case c2 => intro t ht; simp at ht; subst ht; rfl
                      case c3 => unfold maxLen; omega
                      case c4 => omega
                      case c5 => simp; omega
                      intro v' w6 O' G' hnil
                      have hnn : v' ≠ .slice none 0 0 := by intro e; first | exact hnil e | exact H4.out.nn (hnil.1 e).1
                      have H5 := Lib.hid (H4.out.app (z := (u, v)) (by first | exact O' | (rw [hzl]; exact O')) G' hnn)
                      clear O' G' hnil hnn hown H4 HN5
                      go_wp2_with fail
                      exact ⟨⟨j + 1, zs ++ [(u, v)], by omega, by go_num, by simp [hzl], HZz.out, H5.out⟩, by simp [intOf]; omega⟩
                  · have hj5 : j = 4 := by omega
                    subst hj5
                    obtain ⟨z1, z2, z3, z4, rfl⟩ : ∃ a b c d, zs = [a, b, c, d] := by
                      match zs, hzl with
                      | [a, b, c, d], _ => exact ⟨a, b, c, d, rfl⟩
                    have HV := Lib.hid (show scatR f none rs = some ⟨z1.1, z1.2, z2.1, z2.2, z3.1, z3.2, z4.1, z4.2⟩ by rw [HS3.out]; exact betRow_yes HZs.out)
                    obtain ⟨xx, cx, hv⟩ := own_formS HNL.out.own HNL.out.nn
                    subst hv
                    have hcell : ∀ i, i < 4 → wr.cell? ⟨xx, i, none⟩ = (cellsZ [z1, z2, z3, z4])[i]? := fun i hi => HNL.out.own.cellAt _ (by simpa using hi)
                    have m0 : wr.cell? ⟨xx, 0, none⟩ = some (.complex .f32 z1.1 z1.2) := hcell 0 (by omega)
                    have m1 : wr.cell? ⟨xx, 1, none⟩ = some (.complex .f32 z2.1 z2.2) := hcell 1 (by omega)
                    have m2 : wr.cell? ⟨xx, 2, none⟩ = some (.complex .f32 z3.1 z3.2) := hcell 2 (by omega)
                    have m3 : wr.cell? ⟨xx, 3, none⟩ = some (.complex .f32 z4.1 z4.2) := hcell 3 (by omega)
                    have HMx := Lib.hid (matrix_any (cap := cx) m0 m1 m2 m3)
                    clear m0 m1 m2 m3 hcell
                    go_wp2_with fail
                    refine (HMx.out).mono ?_
                    rintro o w5 ⟨rfl, C5⟩
                    have HN5 := Lib.hid (HNL.out.calm C5)
                    have HZ5 := Lib.hid (HZ4.out.calm HN5.out.c)
                    have HC5 := Lib.hid (calm_trans HK4.out HN5.out.c)
                    clear C5 HMx
                    have z0 := HZ5.out.c0
                    have z1 := HZ5.out.c1
                    have z2 := HZ5.out.c2
                    have z3 := HZ5.out.c3
                    have f0 := HZ5.out.fr 0
                    have f1 := HZ5.out.fr 1
                    have f2 := HZ5.out.fr 2
                    have f3 := HZ5.out.fr 3
                    have zl := HZ5.out.lt
                    go_wp2_with fail
                    refine bodyPost_ret (results_two_tmp rfl _ rfl ((((HZ5.out.s0 _ _).s1 _ _).s2 _ _).s3 _ _)) rfl ?_
                    exact ⟨by rw [HX.out, HV.out]; rfl, calm_set4 HC5.out (Nat.le_refl _) _ _ _ _⟩
      · have hn' : k = rs.length := by omega
        subst hn'
        rw [List.drop_length] at hS
        have HV := Lib.hid (show scatR f none rs = none from hS.symm)
        clear hS hne
        have z0 := HZ.out.c0
        have z1 := HZ.out.c1
        have z2 := HZ.out.c2
        have z3 := HZ.out.c3
        have f0 := HZ.out.fr 0
        have f1 := HZ.out.fr 1
        have f2 := HZ.out.fr 2
        have f3 := HZ.out.fr 3
        have zl := HZ.out.lt
        go_wp2_with fail
        refine bodyPost_ret (results_two_tmp rfl _ rfl ((((HZ.out.s0 _ _).s1 _ _).s2 _ _).s3 _ _)) rfl ?_
        exact ⟨by rw [HX.out, HV.out]; rfl, calm_set4 HC.out (Nat.le_refl _) _ _ _ _⟩

end Go.Proofs.Ythbebgnjidaokaa
