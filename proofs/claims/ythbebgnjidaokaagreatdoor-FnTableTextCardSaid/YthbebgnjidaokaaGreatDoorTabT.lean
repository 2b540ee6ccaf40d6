/-
  Texts of numbers and of tables, in the model.
-/
import Derived.Test.YthbebgnjidaokaaGreatDoorNumT
import Derived.Test.YthbebgnjidaokaaGreatDoorTbl
import Derived.Test.YthbebgnjidaokaaGreatDoorWhole
namespace Go.Proofs.YthbebgnjidaokaaGreatDoor
open Go.RowKit Fl

/-- A number's thousandths (0 if it is not told), and whether it is told. -/
def mT (a b : Nat) : Tx.Cn := (mI a b).getD (0, 0)
def mB (a b : Nat) : Bool := (mI a b).isSome
theorem mOf_is (a b : Nat) : mOf a b = .tuple #[.int .i64 (mT a b).1, .int .i64 (mT a b).2, .bool (mB a b)] := by
  unfold mOf mT mB mI
  split <;> rfl
theorem mT_ok (a b : Nat) : Tx.numOk (mT a b) := by
  unfold mT mI
  split
  · rename_i h
    simp only [Bool.and_eq_true] at h
    have h1 := in_ok a
    have h2 := in_ok b
    rw [h.1.2] at h1
    rw [h.2] at h2
    simp at h1 h2
    exact ⟨h1, h2⟩
  · exact ⟨⟨by decide, by decide⟩, by decide, by decide⟩
theorem itoa_len {n : Int} (h0 : -1000000000 ≤ n) (h1 : n ≤ 1000000000) : (Lib.itoa n).length ≤ 12 := by
  unfold Lib.itoa
  split
  · rw [List.length_cons, Lib.decDigits_length]
    have := nDig_le (u := n.natAbs) (by omega)
    omega
  · rw [Lib.decDigits_length]
    have := nDig_le (u := n.toNat) (by omega)
    omega

theorem txt_keep {w wx wy : World} (C : Calm wx wy) (H : Calm w wx ∧ True) : Calm w wy ∧ True := ⟨calm_trans H.1 C, trivial⟩
theorem txt_drew {w wx : World} (H : Calm w wx ∧ True) : Calm w wx.drew ∧ True := ⟨grown_drew H.1, trivial⟩

set_option maxRecDepth 8000 in
set_option maxHeartbeats 2000000 in
theorem specText_any (a b : Nat) (w : World) :
    Calls Tryz.prog 26 #[.complex .f32 a b] w fun z w' => z = .returned (.tuple #[.string (txt (Tx.numT (mT a b))), .bool (mB a b)]) ∧ Calm w w' := by
  obtain ⟨⟨p0, p1⟩, q0, q1⟩ := mT_ok a b
  have HM := Lib.hid (mOf_is a b)
  obtain ⟨z, hz⟩ : ∃ z, mT a b = z := ⟨_, rfl⟩
  obtain ⟨β, hβ⟩ : ∃ β, mB a b = β := ⟨_, rfl⟩
  rw [hz] at p0 p1 q0 q1 HM
  rw [hβ] at HM
  rw [hz, hβ]
  clear hz hβ
  obtain ⟨p, q⟩ := z
  dsimp only at p0 p1 q0 q1
  have l1 := itoa_len (n := p) (by omega) (by omega)
  have l2 := itoa_len (n := q) (by omega) (by omega)
  have s1 := txt_size (Lib.itoa p)
  have s2 := txt_size (Lib.itoa q)
  have HP := Lib.hid (l1Number_any p (by omega) (by omega))
  have HQ := Lib.hid (l1Number_any q (by omega) (by omega))
  have hz1 : ¬9223372036854775807 < (txt (Lib.itoa p)).size + 1 := by omega
  have hz2 : ¬9223372036854775807 < (txt (Lib.itoa p)).size + 1 + (txt (Lib.itoa q)).size := by omega
  clear l1 l2 s1 s2
  go_enter Tryz.func26, Tryz.ntmps26
  go_wp2_with fail
  refine (specMilliOf_any _ _ _).mono ?_
  rw [HM.out]
  rintro z w1 ⟨rfl, n1, hw1⟩
  have K1 : Calm w w1 := by rw [hw1]; exact grown_drewN (grown_refl _ _) n1
  clear hw1
  go_wp2_with fail
  refine (HP.out _).mono ?_
  rintro z w2 ⟨rfl, C⟩
  have K2 := calm_trans K1 C
  clear C K1
  go_wp2_with fail
  refine (HQ.out _).mono ?_
  rintro z w3 ⟨rfl, C⟩
  have K3 := calm_trans K2 C
  clear C K2
  go_wp2_with fail
  go_ret2
  refine ⟨?_, K3⟩
  show Ending.returned (.tuple #[.string (txt (Lib.itoa p) ++ txt [44] ++ txt (Lib.itoa q)), .bool β]) = _
  rw [txt_app, txt_app, List.append_assoc]
  rfl

/-- A row in thousandths; whether all its numbers are told. -/
def RowW.int (r : RowW) : Tx.RowI := ⟨r.f, mT r.m.a r.m.b, mT r.m.c r.m.d, mT r.m.e r.m.f, mT r.m.g r.m.h⟩
def RowW.told (r : RowW) : Bool := mB r.m.a r.m.b && (mB r.m.c r.m.d && (mB r.m.e r.m.f && mB r.m.g r.m.h))
/-- What TableText gives. -/
def tabT (rs : List RowW) : Option Tx.Bs := if tabB rs && rs.all RowW.told then some (Tx.textT (rs.map RowW.int)) else none
def textV (o : Option Tx.Bs) : Value := match o with
  | some l => .tuple #[.string (txt l), .bool true]
  | none => .tuple #[.string (txt []), .bool false]

def RowW.nums (r : RowW) : List (Nat × Nat) := [(r.m.a, r.m.b), (r.m.c, r.m.d), (r.m.e, r.m.f), (r.m.g, r.m.h)]
/-- A row's text up to a number. -/
def rowP (r : RowW) (j : Nat) : Tx.Bs := Lib.itoa r.f ++ (r.nums.take j).flatMap fun z => 32 :: Tx.numT (mT z.1 z.2)
theorem rowP_zero (r : RowW) : rowP r 0 = Lib.itoa r.f := by unfold rowP; simp
theorem rowP_step (r : RowW) {j : Nat} (h : j < r.nums.length) : rowP r (j + 1) = rowP r j ++ 32 :: Tx.numT (mT r.nums[j].1 r.nums[j].2) := by
  unfold rowP
  rw [← List.take_append_getElem h, List.flatMap_append, List.append_assoc]
  simp
theorem rowP_end (r : RowW) : rowP r 4 = Tx.lineT r.int := by
  unfold rowP RowW.nums Tx.lineT RowW.int
  simp
theorem rowP_len (r : RowW) (hf : 0 ≤ r.f ∧ r.f ≤ 9999999) (j : Nat) (hj : j ≤ 4) : (rowP r j).length ≤ 12 + 26 * j := by
  induction j with
  | zero =>
    rw [rowP_zero]
    have := itoa_len (n := r.f) (by omega) (by omega)
    omega
  | succ j ih =>
    rw [rowP_step r (show j < r.nums.length by show j < 4; omega), List.length_append]
    have := ih (by omega)
    obtain ⟨⟨p0, p1⟩, q0, q1⟩ := mT_ok r.nums[j].1 r.nums[j].2
    have l1 := itoa_len (n := (mT r.nums[j].1 r.nums[j].2).1) (by omega) (by omega)
    have l2 := itoa_len (n := (mT r.nums[j].1 r.nums[j].2).2) (by omega) (by omega)
    unfold Tx.numT
    simp only [List.length_cons, List.length_append]
    omega
theorem textT_app (xs : List Tx.RowI) (r : Tx.RowI) : Tx.textT (xs ++ [r]) = Tx.textT xs ++ (Tx.lineT r ++ [10]) := by
  induction xs with
  | nil => simp [Tx.textT]
  | cons x xs ih => simp [Tx.textT, ih]
theorem rowsB_freq (rs : List RowW) : ∀ p, rowsB p rs = true → ∀ r ∈ rs, 0 ≤ r.f ∧ r.f ≤ 9999999 := by
  induction rs with
  | nil => intro p _ r hr; simp at hr
  | cons x xs ih =>
    intro p h r hr
    have h' : (freqB x.f && x.finB && afterB p x.f && rowsB (some x.f) xs) = true := h
    simp only [Bool.and_eq_true] at h'
    rcases List.mem_cons.1 hr with rfl | hr
    · have := h'.1.1.1
      unfold freqB at this
      simpa using this
    · exact ih _ h'.2 r hr
theorem tabB_freq {rs : List RowW} (h : tabB rs = true) : ∀ r ∈ rs, 0 ≤ r.f ∧ r.f ≤ 9999999 := by
  unfold tabB at h
  simp only [Bool.and_eq_true] at h
  exact rowsB_freq rs none h.1
/-- The text of the first rows. -/
def headT (rs : List RowW) (k : Nat) : Tx.Bs := Tx.textT ((rs.take k).map RowW.int)
theorem headT_step {rs : List RowW} {k : Nat} (h : k < rs.length) : headT rs (k + 1) = headT rs k ++ (Tx.lineT rs[k].int ++ [10]) := by
  unfold headT
  rw [← List.take_append_getElem h, List.map_append]
  exact textT_app _ _
theorem headT_len {rs : List RowW} (hf : ∀ r ∈ rs, 0 ≤ r.f ∧ r.f ≤ 9999999) (k : Nat) (hk : k ≤ rs.length) : (headT rs k).length ≤ 120 * k := by
  induction k with
  | zero => simp [headT, Tx.textT]
  | succ k ih =>
    rw [headT_step (by omega), List.length_append, List.length_append, ← rowP_end]
    have := ih (by omega)
    have := rowP_len rs[k] (hf _ (List.getElem_mem (by omega))) 4 (by omega)
    simp
    omega

set_option maxHeartbeats 1000000 in
theorem numbers_anyT (a b c d e f g h : Nat) (w : World) :
    Calls Tryz.prog 25 #[.agg #[.complex .f32 a b, .complex .f32 c d, .complex .f32 e f, .complex .f32 g h]] w fun z w' => ∃ x, z = .returned (.slice (some ⟨x, 0, none⟩) 4 4) ∧ At w' x (.cells #[.complex .f32 a b, .complex .f32 c d, .complex .f32 e f, .complex .f32 g h] 30) ∧ Calm w w' := by
  have hs : (w.alloc (.cells #[.complex .f32 a b, .complex .f32 c d, .complex .f32 e f, .complex .f32 g h] 32)).heap.size = w.heap.size + 1 := by simp
  go_enter Tryz.func25, Tryz.ntmps25
  go_wp2_with fail
  refine bodyPost_ret (results_tmp rfl _ _ _) rfl ?_
  have A := At.new (w.alloc (.cells #[.complex .f32 a b, .complex .f32 c d, .complex .f32 e f, .complex .f32 g h] 32)) (.cells #[.complex .f32 a b, .complex .f32 c d, .complex .f32 e f, .complex .f32 g h] 30)
  rw [hs] at A
  exact ⟨w.heap.size + 1, rfl, A, calm_allocR (calm_new w _) _⟩

set_option maxRecDepth 8000 in
set_option maxHeartbeats 4000000 in
theorem specTableText_any {g n cap : Nat} {rs : List RowW} {w : World} (hR : Row5 w g rs) (hn : rs.length = n) (hl : n ≤ 1000) :
    Calls Tryz.prog 7 #[.slice (some ⟨g, 0, none⟩) n cap] w fun z w' => z = .returned (textV (tabT rs)) ∧ Calm w w' := by
  have HR := Lib.hid hR
  clear hR
  subst hn
  cases hT : tabB rs
  · have HX : Hid (tabT rs = none) := Lib.hid (by unfold tabT; rw [hT]; rfl)
    have HB := Lib.hid hT
    clear hT
    go_enter Tryz.func7, Tryz.ntmps7
    go_wp2_with fail
    refine (specTableOk_any HR.out rfl (by omega)).mono ?_
    rw [HB.out]
    rintro z w2 ⟨rfl, C⟩
    go_wp2_with fail
    go_ret2
    exact ⟨by rw [HX.out]; rfl, C⟩
  · have HF := Lib.hid (tabB_freq hT)
    have HX : Hid (tabT rs = if rs.all RowW.told then some (headT rs rs.length) else none) := Lib.hid (by
      unfold tabT headT
      rw [hT, List.take_length]
      rfl)
    have HB := Lib.hid hT
    clear hT
    go_enter Tryz.func7, Tryz.ntmps7
    go_wp2_with fail
    refine (specTableOk_any HR.out rfl (by omega)).mono ?_
    rw [HB.out]
    rintro z w2 ⟨rfl, C⟩
    have HC := Lib.hid C
    clear C
    go_wp2_with fail
    go_loopw [4, 5] (fun ov kv wr => ∃ k : Nat, k ≤ rs.length ∧ kv = .int .i64 k ∧ ov = .string (txt (headT rs k)) ∧ (rs.take k).all RowW.told = true ∧ Calm w wr)
      (fun _ kv _ => rs.length - (intOf kv).toNat)
    case atStart => exact ⟨0, by omega, rfl, rfl, rfl, HC.out⟩
    case round =>
      obtain ⟨k, hk, rfl, rfl, hall, C⟩ := hrel
      have HK := Lib.hid C
      clear C HC
      by_cases hlt : k < rs.length
      · have hcells : ∀ w', Calm w w' → FiveAt (fun j => w'.cell? ⟨g, j, none⟩) k rs[k] := fun w' C => HR.out.calm C k hlt
        have hfr := HF.out rs[k] (List.getElem_mem hlt)
        have hhead := headT_step hlt
        have hhl := headT_len HF.out k hk
        have hnt : rs[k].told = false → rs.all RowW.told = false := by
          intro h
          rw [Bool.eq_false_iff]
          intro h2
          rw [List.all_eq_true] at h2
          have := h2 rs[k] (List.getElem_mem hlt)
          rw [h] at this
          cases this
        have hat : rs[k].told = true → (rs.take (k + 1)).all RowW.told = true := by
          intro h
          rw [← List.take_append_getElem hlt, List.all_append, hall]
          simp [h]
        generalize rs[k] = r at *
        have HL := Lib.hid hcells
        have HN := Lib.hid hnt
        have HA := Lib.hid hat
        have HH := Lib.hid hhead
        clear hcells hnt hat hhead
        obtain ⟨H, hH⟩ : ∃ H, headT rs k = H := ⟨_, rfl⟩
        rw [hH] at HH hhl ⊢
        clear hH
        obtain ⟨a0, _⟩ := HL.out _ HK.out
        have hgl := World.block_lt_of_cell? wr _ a0
        dsimp only at a0 hgl
        have li := itoa_len (n := r.f) (by omega) (by omega)
        have s1 := txt_size H
        have s2 := txt_size (Lib.itoa r.f)
        have hz1 : ¬9223372036854775807 < (txt H).size + (txt (Lib.itoa r.f)).size := by omega
        have HP := Lib.hid (l1Number_any r.f (by omega) (by omega))
        go_wp2_with fail
        refine (HP.out _).mono ?_
        rintro z w3 ⟨rfl, C⟩
        have HK3 := Lib.hid (calm_trans HK.out C)
        clear C a0 hgl HP s1 s2
        obtain ⟨_, a1, a2, a3, a4⟩ := HL.out _ HK3.out
        have hgl := World.block_lt_of_cell? w3 _ a1
        dsimp only at a1 a2 a3 a4 hgl
        go_wp2_with fail
        refine (numbers_anyT _ _ _ _ _ _ _ _ _).mono ?_
        rintro z w4 ⟨x, rfl, A4, C⟩
        have HK4 := Lib.hid (calm_trans HK3.out C)
        have HA4 := Lib.hid A4
        clear C A4 a1 a2 a3 a4 hgl
        rw [txt_app, ← rowP_zero r]
        clear hz1
        have hls : ∀ j, j ≤ 4 → (rowP r j).length ≤ 12 + 26 * j := rowP_len r hfr
        go_wp2_with fail
        go_loopw [4, 7] (fun ov jv wv => ∃ j : Nat, j ≤ 4 ∧ jv = .int .i64 j ∧ ov = .string (txt (H ++ rowP r j)) ∧ (∀ i, (h : i < r.nums.length) → i < j → mB r.nums[i].1 r.nums[i].2 = true) ∧ Calm w4 wv)
          (fun _ jv _ => 4 - (intOf jv).toNat)
        case atStart => exact ⟨0, by omega, rfl, rfl, fun i _ h => absurd h (by omega), grown_refl _ _⟩
        case round =>
          obtain ⟨j, hj, rfl, rfl, hm, C⟩ := hrel
          have HKv := Lib.hid (calm_trans HK4.out C)
          have HAv := Lib.hid (HA4.out.calm C)
          have hrl := hls j hj
          have s1 := txt_size (H ++ rowP r j)
          rw [List.length_append] at s1
          by_cases hj4 : j < 4
          · have hjn : j < r.nums.length := hj4
            have hstep := rowP_step r hjn
            have hv : wr.cell? ⟨x, j, none⟩ = some (.complex .f32 r.nums[j].1 r.nums[j].2) := by
              rcases (show j = 0 ∨ j = 1 ∨ j = 2 ∨ j = 3 by omega) with rfl | rfl | rfl | rfl
              · exact HAv.out.cell (i := 0) rfl
              · exact HAv.out.cell (i := 1) rfl
              · exact HAv.out.cell (i := 2) rfl
              · exact HAv.out.cell (i := 3) rfl
            have hno : mB r.nums[j].1 r.nums[j].2 = false → r.told = false := by
              intro h
              unfold RowW.told
              rcases (show j = 0 ∨ j = 1 ∨ j = 2 ∨ j = 3 by omega) with rfl | rfl | rfl | rfl
              · rw [show mB r.m.a r.m.b = false from h]; rfl
              · rw [show mB r.m.c r.m.d = false from h]; simp
              · rw [show mB r.m.e r.m.f = false from h]; simp
              · rw [show mB r.m.g r.m.h = false from h]; simp
            have hyes : mB r.nums[j].1 r.nums[j].2 = true → ∀ i, (h : i < r.nums.length) → i < j + 1 → mB r.nums[i].1 r.nums[i].2 = true := by
              intro h i hi hij
              by_cases e : i = j
              · subst e; exact h
              · exact hm i hi (by omega)
            have HY := Lib.hid hyes
            have HNo := Lib.hid hno
            have HSt := Lib.hid hstep
            clear hyes hno hstep hm
            obtain ⟨z, hz⟩ : ∃ z, r.nums[j] = z := ⟨_, rfl⟩
            rw [hz] at hv HNo HSt
            have HY' := Lib.hid (hz ▸ HY.out : mB z.1 z.2 = true → ∀ i, (h : i < r.nums.length) → i < j + 1 → mB r.nums[i].1 r.nums[i].2 = true)
            clear HY
            obtain ⟨β, hβ⟩ : ∃ β, mB z.1 z.2 = β := ⟨_, rfl⟩
            have al := HAv.out.lt
            have HT := Lib.hid (specText_any z.1 z.2)
            rw [hβ] at HT HNo HY'
            obtain ⟨⟨p0, p1⟩, q0, q1⟩ := mT_ok z.1 z.2
            have l1 := itoa_len (n := (mT z.1 z.2).1) (by omega) (by omega)
            have l2 := itoa_len (n := (mT z.1 z.2).2) (by omega) (by omega)
            have s2 := txt_size (Tx.numT (mT z.1 z.2))
            have s3 : (Tx.numT (mT z.1 z.2)).length ≤ 25 := by unfold Tx.numT; simp; omega
            have hz1 : ¬9223372036854775807 < (txt (H ++ rowP r j)).size + 1 := by omega
            have hz2 : ¬9223372036854775807 < (txt (H ++ rowP r j)).size + 1 + (txt (Tx.numT (mT z.1 z.2))).size := by omega
            clear l1 l2 s1 s2 s3 p0 p1 q0 q1 hz
            go_wp2_with fail
            refine (HT.out _).mono ?_
            rintro y w5 ⟨rfl, C5⟩
            have HK5 := Lib.hid (calm_trans HKv.out C5)
            have HC5 := Lib.hid (calm_trans C C5)
            clear C5 HT hv al
            cases β
            · have HF0 := Lib.hid (HN.out (HNo.out rfl))
              go_wp2_with fail
              go_ret2
              exact ⟨by rw [HX.out, HF0.out]; rfl, HK5.out⟩
            · go_wp2_with fail
              refine ⟨⟨j + 1, by omega, by go_num, ?_, HY'.out (by first | rfl | trivial), HC5.out⟩, by simp [intOf]; omega⟩
              show Value.string (txt (H ++ rowP r j) ++ txt [32] ++ txt (Tx.numT (mT z.1 z.2))) = _
              rw [txt_app, txt_app, HSt.out]
              simp
          · have hj4 : j = 4 := by omega
            subst hj4
            have htold : r.told = true := by
              unfold RowW.told
              rw [show mB r.m.a r.m.b = true from hm 0 (by show 0 < 4; omega) (by omega), show mB r.m.c r.m.d = true from hm 1 (by show 1 < 4; omega) (by omega), show mB r.m.e r.m.f = true from hm 2 (by show 2 < 4; omega) (by omega), show mB r.m.g r.m.h = true from hm 3 (by show 3 < 4; omega) (by omega)]
              rfl
            have hz1 : ¬9223372036854775807 < (txt (H ++ rowP r 4)).size + 1 := by omega
            clear s1
            go_wp2_with fail
            refine ⟨⟨k + 1, by omega, by go_num, ?_, HA.out htold, HKv.out⟩, by simp [intOf]; omega⟩
            show Value.string (txt (H ++ rowP r 4) ++ txt [10]) = _
            rw [txt_app, HH.out, rowP_end, List.append_assoc]
      · have hke : k = rs.length := by omega
        subst hke
        rw [List.take_length] at hall
        have HA := Lib.hid hall
        clear hall
        go_wp2_with fail
        go_ret2
        exact ⟨by rw [HX.out, HA.out]; rfl, HK.out⟩

end Go.Proofs.YthbebgnjidaokaaGreatDoor
