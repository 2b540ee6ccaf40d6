/-
  The text of a number, in the model.
-/
import Derived.Test.YthbebgnjidaokaaGreatDoorTxt2
import Derived.Test.YthbebgnjidaokaaGreatDoorC3
import Derived.Deep.RegionHeld3
import Derived.Test.YthbebgnjidaokaaGreatDoorMo
namespace Go.Proofs.YthbebgnjidaokaaGreatDoor
open Go.RowKit Fl

/-- A text of these bytes. -/
def txt (l : Tx.Bs) : ByteArray := ⟨l.toArray⟩
theorem txt_app (a b : Tx.Bs) : txt a ++ txt b = txt (a ++ b) := ByteArray.mk_append_mk a b
theorem txt_size (l : Tx.Bs) : (txt l).size = l.length := by
  show l.toArray.size = l.length
  simp

theorem nDig_le {u : Nat} (h : u ≤ 1000000000) : Lib.nDigits u ≤ 11 := by
  by_cases h10 : u < 10
  · rw [Lib.nDigits_small h10]; decide
  · have hp := Tx.pow_le_n u (by omega)
    rcases Nat.lt_or_ge 11 (Lib.nDigits u) with h1 | h1
    · exfalso
      have : 10 ^ 11 ≤ 10 ^ (Lib.nDigits u - 1) := Nat.pow_le_pow_right (by decide) (by omega)
      omega
    · exact h1

theorem conv_one (n : Int) (h0 : 0 ≤ n) (h1 : n < 10) (w : World) (T : TypeId) : (convert 22 9 (.slice (some ⟨w.heap.size, 0, none⟩) 1 1)).run Tryz.prog (w.alloc (.cells #[.int .u8 (48 + n)] T)) =
    .ok (.string (txt [UInt8.ofNat (48 + n).toNat])) (w.alloc (.cells #[.int .u8 (48 + n)] T)) := by
  refine run_convert_bytes_back (w.alloc (.cells #[.int .u8 (48 + n)] T)) 22 9 5 ⟨w.heap.size, 0, none⟩ 1 [UInt8.ofNat (48 + n).toNat] Tryz.underlying22 Tryz.underlying5 Tryz.underlying9 ?_
  intro j hj
  have hj0 : j = 0 := by simpa using hj
  subst hj0
  have e : ((UInt8.ofNat (48 + n).toNat).toNat : Int) = 48 + n := by
    rw [UInt8.toNat_ofNat']
    omega
  simp only [List.getElem_cons_zero, e]
  have hh := heap_alloc_new w (.cells #[.int .u8 (48 + n)] T)
  simp [World.cell?, Addr.add] at hh ⊢
  rw [hh]
  rfl

theorem conv_at {n : Int} (h0 : 0 ≤ n) (h1 : n < 10) {v : World} {g : Nat} {T : TypeId} (_hg : g < v.heap.size) (H : v.heap[g]? = some (.cells #[.int .u8 (48 + n)] T)) : (convert 22 9 (.slice (some ⟨g, 0, none⟩) 1 1)).run Tryz.prog v = .ok (.string (txt [UInt8.ofNat (48 + n).toNat])) v := by
  refine run_convert_bytes_back v 22 9 5 ⟨g, 0, none⟩ 1 [UInt8.ofNat (48 + n).toNat] Tryz.underlying22 Tryz.underlying5 Tryz.underlying9 ?_
  intro j hj
  have hj0 : j = 0 := by simpa using hj
  subst hj0
  have e : ((UInt8.ofNat (48 + n).toNat).toNat : Int) = 48 + n := by
    rw [UInt8.toNat_ofNat']
    omega
  simp only [List.getElem_cons_zero, e]
  simp [World.cell?, Addr.add]
  rw [H]
  rfl

set_option maxRecDepth 8000 in
set_option maxHeartbeats 2000000 in
theorem l1Number_nat : ∀ (u : Nat), u ≤ 1000000000 → ∀ (w : World),
    Calls Tryz.prog 24 #[.int .i64 (u : Int)] w fun z w' => z = .returned (.string (txt (Lib.decDigits u))) ∧ Calm w w' := by
  intro u
  induction u using Nat.strongRecOn with
  | ind u ih =>
    intro hu w
    by_cases h : u < 10
    · rw [Lib.decDigits_one h]
      have C := conv_one u (by omega) (by omega) w
      go_enter Tryz.func24, Tryz.ntmps24
      go_wp2_with fail
      go_ret
      exact ⟨by first | rfl | (congr 3), World.grownBy_alloc w _ none⟩
    · obtain ⟨d, hd⟩ : ∃ d, u / 10 = d := ⟨_, rfl⟩
      obtain ⟨r, hr⟩ : ∃ r, u % 10 = r := ⟨_, rfl⟩
      have IH := Lib.hid (ih d (by omega) (by omega))
      have HD := Lib.hid (show Lib.decDigits d ++ [UInt8.ofNat (48 + (r : Int)).toNat] = Lib.decDigits u by
        conv => rhs; rw [Lib.decDigits, dif_neg h, hd, hr]
        rfl)
      have e1 : IntKind.i64.wrap ((u : Int) / 10) = (d : Int) := by rw [IntWalk.i64_in _ (by omega)]; omega
      have e2 : Int.tmod (u : Int) 10 = (r : Int) := by rw [Int.tmod_eq_emod_of_nonneg (by omega)]; omega
      have e3 : IntKind.i64.wrap (48 + (r : Int)) = 48 + (r : Int) := IntWalk.i64_in _ (by omega)
      have e4 : IntKind.u8.wrap (48 + (r : Int)) = 48 + (r : Int) := by
        have hr10 : r < 10 := by omega
        simp [IntKind.wrap, IntKind.signed, IntKind.bits]
        omega
      have hz : ¬9223372036854775807 < (txt (Lib.decDigits d)).size + (txt [UInt8.ofNat (48 + (r : Int)).toNat]).size := by
        rw [txt_size, txt_size, Lib.decDigits_length]
        have := nDig_le (u := d) (by omega)
        simp
        omega
      have C2 : (convert 22 9 (.slice (some ⟨w.heap.size, 0, none⟩) 1 1)).run Tryz.prog (w.alloc (.cells #[.int .u8 (48 + (r : Int))] 5)).drew = .ok (.string (txt [UInt8.ofNat (48 + (r : Int)).toNat])) (w.alloc (.cells #[.int .u8 (48 + (r : Int))] 5)).drew := conv_at (n := (r : Int)) (T := 5) (by omega) (by omega) (by simp) (heap_alloc_new w _)
      have C := fun v => conv_one (r : Int) (by omega) (by omega) v 5
      clear ih
      go_enter Tryz.func24, Tryz.ntmps24
      go_wp2_with fail
      refine wp_region_noPanic ?_
      refine wp_region_held_drew (S := fun w' => Calm w w') (by kernel_rfl) ?_ (fun hHeld => ?_)
      · exact grown_drew (grown_refl _ _)
      refine wpAnyH_take (i := 0) (v := ?_) (by (try simp only [List.getElem?_toArray, List.getElem?_cons_zero]); first | done | rfl) (by kernel_rfl) (by kernel_rfl) (by kernel_rfl) (fun _ _ _ h => h) (Or.inl ⟨by rfl, ?_⟩) (by assumption) ?_
      rotate_left 1
      · (intro wz hSw; (try dsimp only at hSw); go_simp; try with_reducible rfl)
      try simp only [Act.put, List.setIfInBounds_toArray, List.set_cons_zero, List.set_cons_succ]
      refine wpAnyH_take (i := 1) (v := ?_) (by (try simp only [List.getElem?_toArray, List.getElem?_cons_zero, List.getElem?_cons_succ]); first | done | rfl) (by kernel_rfl) (by kernel_rfl) (by kernel_rfl) (fun _ _ _ h => h) (Or.inl ⟨by rfl, ?_⟩) (by assumption) ?_
      rotate_left 1
      · (intro wz hSw; (try dsimp only at hSw); go_simp; try with_reducible rfl)
      try simp only [Act.put, List.setIfInBounds_toArray, List.set_cons_zero, List.set_cons_succ]
      refine wpAnyH_take (i := 3) (v := ?_) (by (try simp only [List.getElem?_toArray, List.getElem?_cons_zero, List.getElem?_cons_succ]); first | done | rfl) (by kernel_rfl) (by kernel_rfl) (by kernel_rfl) (fun _ _ _ h => h) (Or.inl ⟨by rfl, ?_⟩) (by assumption) ?_
      rotate_left 1
      · (intro wz hSw; (try dsimp only at hSw); go_simp; try with_reducible rfl)
      try simp only [Act.put, List.setIfInBounds_toArray, List.set_cons_zero, List.set_cons_succ]
      refine wpAnyH_take (i := 4) (v := ?_) (by (try simp only [List.getElem?_toArray, List.getElem?_cons_zero, List.getElem?_cons_succ]); first | done | rfl) (by kernel_rfl) (by kernel_rfl) (by kernel_rfl) (fun _ _ _ h => h) (Or.inl ⟨by rfl, ?_⟩) (by assumption) ?_
      rotate_left 1
      · (intro wz hSw; (try dsimp only at hSw); go_simp; try with_reducible rfl)
      try simp only [Act.put, List.setIfInBounds_toArray, List.set_cons_zero, List.set_cons_succ]
      refine wpAnyH_take (i := 5) (v := ?_) (by (try simp only [List.getElem?_toArray, List.getElem?_cons_zero, List.getElem?_cons_succ]); first | done | rfl) (by kernel_rfl) (by kernel_rfl) (by kernel_rfl) (fun _ _ _ h => h) (Or.inl ⟨by rfl, ?_⟩) (by assumption) ?_
      rotate_left 1
      · (intro wz hSw; (try dsimp only at hSw); go_simp; try with_reducible rfl)
      try simp only [Act.put, List.setIfInBounds_toArray, List.set_cons_zero, List.set_cons_succ]
      refine wpAnyH_take (i := 6) (v := ?_) (by (try simp only [List.getElem?_toArray, List.getElem?_cons_zero, List.getElem?_cons_succ]); first | done | rfl) (by kernel_rfl) (by kernel_rfl) (by kernel_rfl) (fun _ _ _ h => h) (Or.inl ⟨by rfl, ?_⟩) (by assumption) ?_
      rotate_left 1
      · (intro wz hSw; (try dsimp only at hSw); go_simp; try with_reducible rfl)
      try simp only [Act.put, List.setIfInBounds_toArray, List.set_cons_zero, List.set_cons_succ]
      refine wpAnyH_ready (rs := [2, 7]) (by kernel_rfl) (by simp) ?_
      refine AllReadyH.cons (by (try simp only [List.getElem?_toArray, List.getElem?_cons_zero, List.getElem?_cons_succ]); first | done | rfl) (fun K hK => ?_) (AllReadyH.cons (by (try simp only [List.getElem?_toArray, List.getElem?_cons_zero, List.getElem?_cons_succ]); first | done | rfl) (fun K hK => ?_) AllReadyH.nil)
      · go_simp
        refine Calls.mono (IH.out _) ?_
        rintro e v1 ⟨rfl, C1⟩
        refine hK.out _ _ ?_ (fun hHeld2 => ?_)
        · exact calm_trans hHeld C1
        clear hK K
        try simp only [Act.put, List.setIfInBounds_toArray, List.set_cons_zero, List.set_cons_succ]
        refine wpAnyH_ready (rs := [7]) (by kernel_rfl) (by simp) ?_
        refine AllReadyH.cons (by (try simp only [List.getElem?_toArray, List.getElem?_cons_zero, List.getElem?_cons_succ]); first | done | rfl) (fun K hK => ?_) AllReadyH.nil
        go_simp
        refine hK.out _ _ ?_ (fun hHeld => ?_)
        · exact calm_allocR hHeld2 _
        clear hK K
        try simp only [Act.put, List.setIfInBounds_toArray, List.set_cons_zero, List.set_cons_succ]
        refine wpAnyH_ready (rs := [8]) (by kernel_rfl) (by simp) ?_
        refine AllReadyH.cons (by (try simp only [List.getElem?_toArray, List.getElem?_cons_zero, List.getElem?_cons_succ]); first | done | rfl) (fun K hK => ?_) AllReadyH.nil
        go_simp
        refine hK.out _ _ ?_ (fun hHeld => ?_)
        · exact calm_allocR hHeld2 _
        clear hK K
        try simp only [Act.put, List.setIfInBounds_toArray, List.set_cons_zero, List.set_cons_succ]
        refine wpAnyH_take (i := 9) (v := ?_) (by (try simp only [List.getElem?_toArray, List.getElem?_cons_zero, List.getElem?_cons_succ]); first | done | rfl) (by kernel_rfl) (by kernel_rfl) (by kernel_rfl) (fun _ _ _ h => h) (Or.inl ⟨by rfl, ?_⟩) (by assumption) ?_
        rotate_left 1
        · (intro wz hSw; (try dsimp only at hSw); go_simp; try with_reducible rfl)
        try simp only [Act.put, List.setIfInBounds_toArray, List.set_cons_zero, List.set_cons_succ]
        refine wpAnyH_take (i := 10) (v := ?_) (by (try simp only [List.getElem?_toArray, List.getElem?_cons_zero, List.getElem?_cons_succ]); first | done | rfl) (by kernel_rfl) (by kernel_rfl) (by kernel_rfl) (fun _ _ _ h => h) (Or.inl ⟨by rfl, ?_⟩) (by assumption) ?_
        rotate_left 1
        · (intro wz hSw; (try dsimp only at hSw); go_simp; try with_reducible rfl)
        try simp only [Act.put, List.setIfInBounds_toArray, List.set_cons_zero, List.set_cons_succ]
        refine wpAnyH_done (by kernel_rfl) ?_ _
        refine NoPanic.normal ?_
        go_wp2_with fail
        go_ret
        exact ⟨by rw [txt_app, HD.out]; rfl, calm_allocR hHeld2 _⟩
      · go_simp
        refine hK.out _ _ ?_ (fun hHeld2 => ?_)
        · exact calm_allocR hHeld _
        clear hK K
        try simp only [Act.put, List.setIfInBounds_toArray, List.set_cons_zero, List.set_cons_succ]
        refine wpAnyH_ready (rs := [2, 8]) (by kernel_rfl) (by simp) ?_
        refine AllReadyH.cons (by (try simp only [List.getElem?_toArray, List.getElem?_cons_zero, List.getElem?_cons_succ]); first | done | rfl) (fun K hK => ?_) (AllReadyH.cons (by (try simp only [List.getElem?_toArray, List.getElem?_cons_zero, List.getElem?_cons_succ]); first | done | rfl) (fun K hK => ?_) AllReadyH.nil)
        · go_simp
          refine Calls.mono (IH.out _) ?_
          rintro e v1 ⟨rfl, C1⟩
          refine hK.out _ _ ?_ (fun hHeld3 => ?_)
          · exact calm_trans hHeld2 C1
          clear hK K
          have c8 : (convert 22 9 (.slice (some ⟨w.heap.size, 0, none⟩) 1 1)).run Tryz.prog v1 = .ok (.string (txt [UInt8.ofNat (48 + (r : Int)).toNat])) v1 := conv_at (n := (r : Int)) (T := 5) (by omega) (by omega) (show w.heap.size < v1.heap.size by have := C1.size; simp at this ⊢; omega) (by
            have := C1.block w.heap.size (by simp) (fun e => by cases e)
            rw [this]
            exact heap_alloc_new w _)
          try simp only [Act.put, List.setIfInBounds_toArray, List.set_cons_zero, List.set_cons_succ]
          refine wpAnyH_ready (rs := [8]) (by kernel_rfl) (by simp) ?_
          refine AllReadyH.cons (by (try simp only [List.getElem?_toArray, List.getElem?_cons_zero, List.getElem?_cons_succ]); first | done | rfl) (fun K hK => ?_) AllReadyH.nil
          go_simp
          refine hK.out _ _ ?_ (fun hHeld => ?_)
          · exact hHeld3
          clear hK K
          try simp only [Act.put, List.setIfInBounds_toArray, List.set_cons_zero, List.set_cons_succ]
          refine wpAnyH_take (i := 9) (v := ?_) (by (try simp only [List.getElem?_toArray, List.getElem?_cons_zero, List.getElem?_cons_succ]); first | done | rfl) (by kernel_rfl) (by kernel_rfl) (by kernel_rfl) (fun _ _ _ h => h) (Or.inl ⟨by rfl, ?_⟩) (by assumption) ?_
          rotate_left 1
          · (intro wz hSw; (try dsimp only at hSw); go_simp; try with_reducible rfl)
          try simp only [Act.put, List.setIfInBounds_toArray, List.set_cons_zero, List.set_cons_succ]
          refine wpAnyH_take (i := 10) (v := ?_) (by (try simp only [List.getElem?_toArray, List.getElem?_cons_zero, List.getElem?_cons_succ]); first | done | rfl) (by kernel_rfl) (by kernel_rfl) (by kernel_rfl) (fun _ _ _ h => h) (Or.inl ⟨by rfl, ?_⟩) (by assumption) ?_
          rotate_left 1
          · (intro wz hSw; (try dsimp only at hSw); go_simp; try with_reducible rfl)
          try simp only [Act.put, List.setIfInBounds_toArray, List.set_cons_zero, List.set_cons_succ]
          refine wpAnyH_done (by kernel_rfl) ?_ _
          refine NoPanic.normal ?_
          go_wp2_with fail
          go_ret
          exact ⟨by rw [txt_app, HD.out]; rfl, hHeld3⟩
        · go_simp
          refine hK.out _ _ ?_ (fun hHeld3 => ?_)
          · exact hHeld2
          clear hK K
          try simp only [Act.put, List.setIfInBounds_toArray, List.set_cons_zero, List.set_cons_succ]
          refine wpAnyH_ready (rs := [2]) (by kernel_rfl) (by simp) ?_
          refine AllReadyH.cons (by (try simp only [List.getElem?_toArray, List.getElem?_cons_zero, List.getElem?_cons_succ]); first | done | rfl) (fun K hK => ?_) AllReadyH.nil
          go_simp
          refine Calls.mono (IH.out _) ?_
          rintro e v1 ⟨rfl, C1⟩
          refine hK.out _ _ ?_ (fun hHeld => ?_)
          · exact calm_trans hHeld3 C1
          clear hK K
          try simp only [Act.put, List.setIfInBounds_toArray, List.set_cons_zero, List.set_cons_succ]
          refine wpAnyH_take (i := 9) (v := ?_) (by (try simp only [List.getElem?_toArray, List.getElem?_cons_zero, List.getElem?_cons_succ]); first | done | rfl) (by kernel_rfl) (by kernel_rfl) (by kernel_rfl) (fun _ _ _ h => h) (Or.inl ⟨by rfl, ?_⟩) (by assumption) ?_
          rotate_left 1
          · (intro wz hSw; (try dsimp only at hSw); go_simp; try with_reducible rfl)
          try simp only [Act.put, List.setIfInBounds_toArray, List.set_cons_zero, List.set_cons_succ]
          refine wpAnyH_take (i := 10) (v := ?_) (by (try simp only [List.getElem?_toArray, List.getElem?_cons_zero, List.getElem?_cons_succ]); first | done | rfl) (by kernel_rfl) (by kernel_rfl) (by kernel_rfl) (fun _ _ _ h => h) (Or.inl ⟨by rfl, ?_⟩) (by assumption) ?_
          rotate_left 1
          · (intro wz hSw; (try dsimp only at hSw); go_simp; try with_reducible rfl)
          try simp only [Act.put, List.setIfInBounds_toArray, List.set_cons_zero, List.set_cons_succ]
          refine wpAnyH_done (by kernel_rfl) ?_ _
          refine NoPanic.normal ?_
          go_wp2_with fail
          go_ret
          exact ⟨by rw [txt_app, HD.out]; rfl, calm_trans hHeld3 C1⟩

set_option maxRecDepth 8000 in
set_option maxHeartbeats 2000000 in
theorem l1Number_any (n : Int) (h0 : -1000000000 ≤ n) (h1 : n ≤ 1000000000) (w : World) :
    Calls Tryz.prog 24 #[.int .i64 n] w fun z w' => z = .returned (.string (txt (Lib.itoa n))) ∧ Calm w w' := by
  by_cases hn : n < 0
  · obtain ⟨u, hu⟩ : ∃ u : Nat, n.natAbs = u := ⟨_, rfl⟩
    have hnu : n = -(u : Int) := by omega
    have e1 : IntKind.i64.wrap (0 - n) = (u : Int) := by rw [IntWalk.i64_in _ (by omega)]; omega
    have e2 : IntKind.i64.wrap (-n) = (u : Int) := by rw [IntWalk.i64_in _ (by omega)]; omega
    have e3 : (n == (u : Int)) = false := by simp; omega
    have e4 : ¬n = (u : Int) := by omega
    have hi : Lib.itoa n = 45 :: Lib.decDigits u := by unfold Lib.itoa; rw [if_pos hn, hu]
    rw [hi]
    have IH := Lib.hid (l1Number_nat u (by omega))
    have hz : ¬9223372036854775807 < (txt [45]).size + (txt (Lib.decDigits u)).size := by
      rw [txt_size, txt_size, Lib.decDigits_length]
      have := nDig_le (u := u) (by omega)
      simp
      omega
    go_enter Tryz.func24, Tryz.ntmps24
    go_wp2_with fail
    refine (IH.out _).mono ?_
    rintro z w1 ⟨rfl, C⟩
    go_wp2_with fail
    go_ret
    exact ⟨by rw [show (45 :: Lib.decDigits u) = [45] ++ Lib.decDigits u from rfl, ← txt_app]; rfl, C⟩
  · have := l1Number_nat n.toNat (by omega) w
    rw [show ((n.toNat : Nat) : Int) = n by omega] at this
    unfold Lib.itoa
    rw [if_neg hn]
    exact this

/-- The text of a number in thousandths, in the model. -/
def mI (a b : Nat) : Option Tx.Cn := if fin .f32 a && fin .f32 b && okK a && okK b then some (sK a, sK b) else none

end Go.Proofs.YthbebgnjidaokaaGreatDoor
