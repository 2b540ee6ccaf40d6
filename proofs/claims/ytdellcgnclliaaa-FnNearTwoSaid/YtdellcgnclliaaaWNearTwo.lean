/-
  The walk of FnNearTwo: it answers true.
-/
import Derived.Test.YtdellcgnclliaaaDrawN
import Derived.Deep.RegionHeld3
namespace Go.Proofs.Ytdellcgnclliaaa
open Go.RowKit Fl

theorem below_calm' {w w1 w2 : World} (h1 : Below w.heap.size w w1) (h2 : Calm w1 w2) : Below w.heap.size w w2 := below_calm h1 h1.size h2

theorem nearTwo_swap (a b c d e f g h a' b' c' d' e' f' g' h' bound : Nat) : nearTwoB a' b' c' d' e' f' g' h' a b c d e f g h bound = nearTwoB a b c d e f g h a' b' c' d' e' f' g' h' bound := by
  unfold nearTwoB
  rw [nearB_swap a b, nearB_swap c d, nearB_swap e f, nearB_swap g h]

theorem near_self (x y : Nat) : nearB x y x y 0 = (fin .f32 x && fin .f32 y) := by
  have hp : ∀ a, fin .f32 a = true → nearP a a 0 = true := by
    intro a ha
    obtain ⟨_, _, _, d4⟩ := dW_spec ha ha
    have h0 : V FloatKind.f64.format (dW a a) = 0 := by
      have := rndV_exact d4 (by rw [Rat.sub_self]; exact has_zero _)
      rw [this, Rat.sub_self]
    unfold nearP
    rw [h0, zero64.2]
    decide +kernel
  unfold nearB
  cases hx : fin .f32 x
  · rfl
  · cases hy : fin .f32 y
    · rfl
    · rw [hp x hx, hp y hy]; rfl

theorem nearTwo_self (a b c d e f g h : Nat) : nearTwoB a b c d e f g h a b c d e f g h 0 = finTwo a b c d e f g h := by
  unfold nearTwoB finTwo
  rw [near_self, near_self, near_self, near_self]

theorem nearTwo_C {a b c d e f g h a' b' c' d' e' f' g' h' bound : Nat} (H : nearTwoB a b c d e f g h a' b' c' d' e' f' g' h' bound = true) : nearB e f e' f' bound = true := by
  unfold nearTwoB at H
  simp only [Bool.and_eq_true] at H
  exact H.1.2

theorem held_of {w wx : World} {A B x1 y1 x2 y2 x3 y3 x4 y4 z1 t1 z2 t2 z3 t3 z4 t4 : Nat} (MA : Blk wx A x1 y1 x2 y2 x3 y3 x4 y4) (MB : Blk wx B z1 t1 z2 t2 z3 t3 z4 t4) (L : Below w.heap.size w wx) : wx.cell? ⟨A, 0, none⟩ = some (.complex .f32 x1 y1) ∧ wx.cell? ⟨A, 1, none⟩ = some (.complex .f32 x2 y2) ∧ wx.cell? ⟨A, 2, none⟩ = some (.complex .f32 x3 y3) ∧ wx.cell? ⟨A, 3, none⟩ = some (.complex .f32 x4 y4) ∧ wx.cell? ⟨B, 0, none⟩ = some (.complex .f32 z1 t1) ∧ wx.cell? ⟨B, 1, none⟩ = some (.complex .f32 z2 t2) ∧ wx.cell? ⟨B, 2, none⟩ = some (.complex .f32 z3 t3) ∧ wx.cell? ⟨B, 3, none⟩ = some (.complex .f32 z4 t4) ∧ Blk wx A x1 y1 x2 y2 x3 y3 x4 y4 ∧ Blk wx B z1 t1 z2 t2 z3 t3 z4 t4 ∧ Below w.heap.size w wx :=
  ⟨MA.c0, MA.c1, MA.c2, MA.c3, MB.c0, MB.c1, MB.c2, MB.c3, MA, MB, L⟩
theorem held_drew {w wx : World} {A B x1 y1 x2 y2 x3 y3 x4 y4 z1 t1 z2 t2 z3 t3 z4 t4 : Nat} (H : wx.cell? ⟨A, 0, none⟩ = some (.complex .f32 x1 y1) ∧ wx.cell? ⟨A, 1, none⟩ = some (.complex .f32 x2 y2) ∧ wx.cell? ⟨A, 2, none⟩ = some (.complex .f32 x3 y3) ∧ wx.cell? ⟨A, 3, none⟩ = some (.complex .f32 x4 y4) ∧ wx.cell? ⟨B, 0, none⟩ = some (.complex .f32 z1 t1) ∧ wx.cell? ⟨B, 1, none⟩ = some (.complex .f32 z2 t2) ∧ wx.cell? ⟨B, 2, none⟩ = some (.complex .f32 z3 t3) ∧ wx.cell? ⟨B, 3, none⟩ = some (.complex .f32 z4 t4) ∧ Blk wx A x1 y1 x2 y2 x3 y3 x4 y4 ∧ Blk wx B z1 t1 z2 t2 z3 t3 z4 t4 ∧ Below w.heap.size w wx) : wx.drew.cell? ⟨A, 0, none⟩ = some (.complex .f32 x1 y1) ∧ wx.drew.cell? ⟨A, 1, none⟩ = some (.complex .f32 x2 y2) ∧ wx.drew.cell? ⟨A, 2, none⟩ = some (.complex .f32 x3 y3) ∧ wx.drew.cell? ⟨A, 3, none⟩ = some (.complex .f32 x4 y4) ∧ wx.drew.cell? ⟨B, 0, none⟩ = some (.complex .f32 z1 t1) ∧ wx.drew.cell? ⟨B, 1, none⟩ = some (.complex .f32 z2 t2) ∧ wx.drew.cell? ⟨B, 2, none⟩ = some (.complex .f32 z3 t3) ∧ wx.drew.cell? ⟨B, 3, none⟩ = some (.complex .f32 z4 t4) ∧ Blk wx.drew A x1 y1 x2 y2 x3 y3 x4 y4 ∧ Blk wx.drew B z1 t1 z2 t2 z3 t3 z4 t4 ∧ Below w.heap.size w wx.drew := by
  obtain ⟨_, _, _, _, _, _, _, _, MA, MB, L⟩ := H
  exact held_of MA MB (below_drew L)
theorem held_drewN {w wx : World} {A B x1 y1 x2 y2 x3 y3 x4 y4 z1 t1 z2 t2 z3 t3 z4 t4 n : Nat} (H : wx.cell? ⟨A, 0, none⟩ = some (.complex .f32 x1 y1) ∧ wx.cell? ⟨A, 1, none⟩ = some (.complex .f32 x2 y2) ∧ wx.cell? ⟨A, 2, none⟩ = some (.complex .f32 x3 y3) ∧ wx.cell? ⟨A, 3, none⟩ = some (.complex .f32 x4 y4) ∧ wx.cell? ⟨B, 0, none⟩ = some (.complex .f32 z1 t1) ∧ wx.cell? ⟨B, 1, none⟩ = some (.complex .f32 z2 t2) ∧ wx.cell? ⟨B, 2, none⟩ = some (.complex .f32 z3 t3) ∧ wx.cell? ⟨B, 3, none⟩ = some (.complex .f32 z4 t4) ∧ Blk wx A x1 y1 x2 y2 x3 y3 x4 y4 ∧ Blk wx B z1 t1 z2 t2 z3 t3 z4 t4 ∧ Below w.heap.size w wx) : (wx.drewN n).cell? ⟨A, 0, none⟩ = some (.complex .f32 x1 y1) ∧ (wx.drewN n).cell? ⟨A, 1, none⟩ = some (.complex .f32 x2 y2) ∧ (wx.drewN n).cell? ⟨A, 2, none⟩ = some (.complex .f32 x3 y3) ∧ (wx.drewN n).cell? ⟨A, 3, none⟩ = some (.complex .f32 x4 y4) ∧ (wx.drewN n).cell? ⟨B, 0, none⟩ = some (.complex .f32 z1 t1) ∧ (wx.drewN n).cell? ⟨B, 1, none⟩ = some (.complex .f32 z2 t2) ∧ (wx.drewN n).cell? ⟨B, 2, none⟩ = some (.complex .f32 z3 t3) ∧ (wx.drewN n).cell? ⟨B, 3, none⟩ = some (.complex .f32 z4 t4) ∧ Blk (wx.drewN n) A x1 y1 x2 y2 x3 y3 x4 y4 ∧ Blk (wx.drewN n) B z1 t1 z2 t2 z3 t3 z4 t4 ∧ Below w.heap.size w (wx.drewN n) := by
  obtain ⟨_, _, _, _, _, _, _, _, MA, MB, L⟩ := H
  exact held_of MA MB (below_drewN L n)
theorem held_calm {w wx wy : World} {A B x1 y1 x2 y2 x3 y3 x4 y4 z1 t1 z2 t2 z3 t3 z4 t4 : Nat} (C : Calm wx wy) (H : wx.cell? ⟨A, 0, none⟩ = some (.complex .f32 x1 y1) ∧ wx.cell? ⟨A, 1, none⟩ = some (.complex .f32 x2 y2) ∧ wx.cell? ⟨A, 2, none⟩ = some (.complex .f32 x3 y3) ∧ wx.cell? ⟨A, 3, none⟩ = some (.complex .f32 x4 y4) ∧ wx.cell? ⟨B, 0, none⟩ = some (.complex .f32 z1 t1) ∧ wx.cell? ⟨B, 1, none⟩ = some (.complex .f32 z2 t2) ∧ wx.cell? ⟨B, 2, none⟩ = some (.complex .f32 z3 t3) ∧ wx.cell? ⟨B, 3, none⟩ = some (.complex .f32 z4 t4) ∧ Blk wx A x1 y1 x2 y2 x3 y3 x4 y4 ∧ Blk wx B z1 t1 z2 t2 z3 t3 z4 t4 ∧ Below w.heap.size w wx) : wy.cell? ⟨A, 0, none⟩ = some (.complex .f32 x1 y1) ∧ wy.cell? ⟨A, 1, none⟩ = some (.complex .f32 x2 y2) ∧ wy.cell? ⟨A, 2, none⟩ = some (.complex .f32 x3 y3) ∧ wy.cell? ⟨A, 3, none⟩ = some (.complex .f32 x4 y4) ∧ wy.cell? ⟨B, 0, none⟩ = some (.complex .f32 z1 t1) ∧ wy.cell? ⟨B, 1, none⟩ = some (.complex .f32 z2 t2) ∧ wy.cell? ⟨B, 2, none⟩ = some (.complex .f32 z3 t3) ∧ wy.cell? ⟨B, 3, none⟩ = some (.complex .f32 z4 t4) ∧ Blk wy A x1 y1 x2 y2 x3 y3 x4 y4 ∧ Blk wy B z1 t1 z2 t2 z3 t3 z4 t4 ∧ Below w.heap.size w wy := by
  obtain ⟨_, _, _, _, _, _, _, _, MA, MB, L⟩ := H
  exact held_of (MA.calm C) (MB.calm C) (below_calm' L C)
theorem held_below {w wx : World} {A B x1 y1 x2 y2 x3 y3 x4 y4 z1 t1 z2 t2 z3 t3 z4 t4 : Nat} (H : wx.cell? ⟨A, 0, none⟩ = some (.complex .f32 x1 y1) ∧ wx.cell? ⟨A, 1, none⟩ = some (.complex .f32 x2 y2) ∧ wx.cell? ⟨A, 2, none⟩ = some (.complex .f32 x3 y3) ∧ wx.cell? ⟨A, 3, none⟩ = some (.complex .f32 x4 y4) ∧ wx.cell? ⟨B, 0, none⟩ = some (.complex .f32 z1 t1) ∧ wx.cell? ⟨B, 1, none⟩ = some (.complex .f32 z2 t2) ∧ wx.cell? ⟨B, 2, none⟩ = some (.complex .f32 z3 t3) ∧ wx.cell? ⟨B, 3, none⟩ = some (.complex .f32 z4 t4) ∧ Blk wx A x1 y1 x2 y2 x3 y3 x4 y4 ∧ Blk wx B z1 t1 z2 t2 z3 t3 z4 t4 ∧ Below w.heap.size w wx) : Below w.heap.size w wx := H.2.2.2.2.2.2.2.2.2.2

set_option maxRecDepth 8000 in
set_option maxHeartbeats 40000000 in
theorem FnNearTwo_walk (a : Option Addr) (len cap : Nat) (zs : List Int) (w : World) (h : IsRow .u8 w a len cap zs) :
    Calls Try.prog 9 #[.slice a len cap] w fun e w' => e = .returned (.bool true) ∧ Below w.heap.size w w' := by
  by_cases hl : (1048576 : Int) < (len : Int)
  · go_enter Try.func9, Try.ntmps9
    go_wp2_with fail
    go_ret
    exact ⟨rfl, Below.refl _ _⟩
  · go_enter Try.func9, Try.ntmps9
    go_wp2_with fail
    refine (drawNearTwo_any h).mono ?_
    rintro e w1 ⟨v, ⟨x1, y1, x2, y2, x3, y3, x4, y4, z1, t1, z2, t2, z3, t3, z4, t4, d, rfl, hd⟩, rfl, L1⟩
    clear h
    obtain ⟨β, hβ⟩ : ∃ β, nearTwoB x1 y1 x2 y2 x3 y3 x4 y4 z1 t1 z2 t2 z3 t3 z4 t4 d = β := ⟨_, rfl⟩
    obtain ⟨γ, hγ⟩ : ∃ γ, finTwo x1 y1 x2 y2 x3 y3 x4 y4 = γ := ⟨_, rfl⟩
    have HS := Lib.hid ((nearTwo_swap x1 y1 x2 y2 x3 y3 x4 y4 z1 t1 z2 t2 z3 t3 z4 t4 d).trans hβ)
    have HN := Lib.hid ((nearTwo_self x1 y1 x2 y2 x3 y3 x4 y4).trans hγ)
    have HB := Lib.hid hβ
    have HG := Lib.hid hγ
    have HD := Lib.hid hd
    clear hβ hγ hd
    have MA := (Blk.new w1 x1 y1 x2 y2 x3 y3 x4 y4).alloc (.cells #[.complex .f32 z1 t1, .complex .f32 z2 t2, .complex .f32 z3 t3, .complex .f32 z4 t4] 25)
    have MB : Blk ((w1.alloc (.cells #[.complex .f32 x1 y1, .complex .f32 x2 y2, .complex .f32 x3 y3, .complex .f32 x4 y4] 25)).alloc (.cells #[.complex .f32 z1 t1, .complex .f32 z2 t2, .complex .f32 z3 t3, .complex .f32 z4 t4] 25)) (w1.heap.size + 1) z1 t1 z2 t2 z3 t3 z4 t4 := by
      have := Blk.new (w1.alloc (.cells #[.complex .f32 x1 y1, .complex .f32 x2 y2, .complex .f32 x3 y3, .complex .f32 x4 y4] 25)) z1 t1 z2 t2 z3 t3 z4 t4
      rwa [show (w1.alloc (.cells #[.complex .f32 x1 y1, .complex .f32 x2 y2, .complex .f32 x3 y3, .complex .f32 x4 y4] 25)).heap.size = w1.heap.size + 1 by simp] at this
    have L2 := below_allocS (o := (.cells #[.complex .f32 z1 t1, .complex .f32 z2 t2, .complex .f32 z3 t3, .complex .f32 z4 t4] 25)) (below_allocS (o := (.cells #[.complex .f32 x1 y1, .complex .f32 x2 y2, .complex .f32 x3 y3, .complex .f32 x4 y4] 25)) L1)
    clear L1
    cases β
    · cases γ
      all_goals
        go_wp2_with fail
        refine (implNearTwo_any _ _ _ _ _ _ _ _ _ _ _ _ _ _ _ _ _ _ HD.out).mono ?_
        rw [HB.out]
        rintro e w2 ⟨rfl, C⟩
        have MA2 := MA.calm C
        have MB2 := MB.calm C
        have L3 := below_calm' L2 C
        clear MA MB L2 C
        generalize w1.heap.size + 1 = B at MB2 ⊢
        generalize w1.heap.size = A at MA2 ⊢
        have c0 := MA2.c0
        have c1 := MA2.c1
        have c2 := MA2.c2
        have c3 := MA2.c3
        have s0 := MB2.c0
        have s1 := MB2.c1
        have s2 := MB2.c2
        have s3 := MB2.c3
        go_wp2_with fail
        refine (specNearTwo_any _ _ _ _ _ _ _ _ _ _ _ _ _ _ _ _ _ _ HD.out).mono ?_
        rw [HB.out]
        rintro e w3 ⟨rfl, C⟩
        have MA3 := MA2.calm C
        have MB3 := MB2.calm C
        have L4 := below_calm' L3 C
        clear MA2 MB2 L3 C c0 c1 c2 c3 s0 s1 s2 s3
        have c0 := MA3.c0
        have c1 := MA3.c1
        have c2 := MA3.c2
        have c3 := MA3.c3
        have s0 := MB3.c0
        have s1 := MB3.c1
        have s2 := MB3.c2
        have s3 := MB3.c3
  
        have HS0 := held_of MA3 MB3 L4
        clear MA3 MB3 L4 c0 c1 c2 c3 s0 s1 s2 s3
        go_wp2_with fail
        refine wp_region_noPanic ?_
        refine wp_region_held_drew (S := fun w' => w'.cell? ⟨A, 0, none⟩ = some (.complex .f32 x1 y1) ∧ w'.cell? ⟨A, 1, none⟩ = some (.complex .f32 x2 y2) ∧ w'.cell? ⟨A, 2, none⟩ = some (.complex .f32 x3 y3) ∧ w'.cell? ⟨A, 3, none⟩ = some (.complex .f32 x4 y4) ∧ w'.cell? ⟨B, 0, none⟩ = some (.complex .f32 z1 t1) ∧ w'.cell? ⟨B, 1, none⟩ = some (.complex .f32 z2 t2) ∧ w'.cell? ⟨B, 2, none⟩ = some (.complex .f32 z3 t3) ∧ w'.cell? ⟨B, 3, none⟩ = some (.complex .f32 z4 t4) ∧ Blk w' A x1 y1 x2 y2 x3 y3 x4 y4 ∧ Blk w' B z1 t1 z2 t2 z3 t3 z4 t4 ∧ Below w.heap.size w w') (by kernel_rfl) ?_ (fun hHeld => ?_)
        · (try dsimp only)
          first | with_reducible assumption | with_reducible exact held_drew ‹_› | with_reducible exact held_calm ‹_› ‹_› | with_reducible exact held_calm ‹_› (held_drew ‹_›) | with_reducible exact held_drewN ‹_›
        refine wpAnyH_take (i := 0) (v := ?_) (by (try simp only [List.getElem?_toArray, List.getElem?_cons_zero]); first | done | rfl) (by kernel_rfl) (by kernel_rfl) (by kernel_rfl) (fun _ _ _ h => h) (Or.inl ⟨by rfl, ?_⟩) (by assumption) ?_
        rotate_left 1
        · (intro wz hSw; (try dsimp only at hSw); go_simp; try with_reducible rfl)
        try simp only [Act.put, List.setIfInBounds_toArray, List.set_cons_zero, List.set_cons_succ]
        refine wpAnyH_take (i := 1) (v := ?_) (by (try simp only [List.getElem?_toArray, List.getElem?_cons_zero, List.getElem?_cons_succ]); first | done | rfl) (by kernel_rfl) (by kernel_rfl) (by kernel_rfl) (fun _ _ _ h => h) (Or.inl ⟨by rfl, ?_⟩) (by assumption) ?_
        rotate_left 1
        · (intro wz hSw; (try dsimp only at hSw); go_simp; try with_reducible rfl)
        try simp only [Act.put, List.setIfInBounds_toArray, List.set_cons_zero, List.set_cons_succ]
        refine wpAnyH_take (i := 2) (v := ?_) (by (try simp only [List.getElem?_toArray, List.getElem?_cons_zero, List.getElem?_cons_succ]); first | done | rfl) (by kernel_rfl) (by kernel_rfl) (by kernel_rfl) (fun _ _ _ h => h) (Or.inl ⟨by rfl, ?_⟩) (by assumption) ?_
        rotate_left 1
        · (intro wz hSw; (try dsimp only at hSw); go_simp; try with_reducible rfl)
        try simp only [Act.put, List.setIfInBounds_toArray, List.set_cons_zero, List.set_cons_succ]
        refine wpAnyH_take (i := 4) (v := ?_) (by (try simp only [List.getElem?_toArray, List.getElem?_cons_zero, List.getElem?_cons_succ]); first | done | rfl) (by kernel_rfl) (by kernel_rfl) (by kernel_rfl) (fun _ _ _ h => h) (Or.inl ⟨by rfl, ?_⟩) (by assumption) ?_
        rotate_left 1
        · (intro wz hSw; (try dsimp only at hSw); go_simp; try with_reducible rfl)
        try simp only [Act.put, List.setIfInBounds_toArray, List.set_cons_zero, List.set_cons_succ]
        refine wpAnyH_ready (rs := [3]) (by kernel_rfl) (by simp) ?_
        refine AllReadyH.cons (by (try simp only [List.getElem?_toArray, List.getElem?_cons_zero, List.getElem?_cons_succ]); first | done | rfl) (fun K hK => ?_) AllReadyH.nil
        go_simp
        refine Calls.mono (implNearTwo_any _ _ _ _ _ _ _ _ _ _ _ _ _ _ _ _ _ _ HD.out) ?_; rw [HS.out]; rintro e w' ⟨rfl, C⟩
        refine hK.out _ _ ?_ (fun hHeld => ?_)
        · (try dsimp only)
          first | with_reducible assumption | with_reducible exact held_drew ‹_› | with_reducible exact held_calm ‹_› ‹_› | with_reducible exact held_calm ‹_› (held_drew ‹_›) | with_reducible exact held_drewN ‹_›
        clear hK K
        try simp only [Act.put, List.setIfInBounds_toArray, List.set_cons_zero, List.set_cons_succ]
        refine wpAnyH_take (i := 5) (v := ?_) (by (try simp only [List.getElem?_toArray, List.getElem?_cons_zero, List.getElem?_cons_succ]); first | done | rfl) (by kernel_rfl) (by kernel_rfl) (by kernel_rfl) (fun _ _ _ h => h) (Or.inl ⟨by rfl, ?_⟩) (by assumption) ?_
        rotate_left 1
        · (intro wz hSw; (try dsimp only at hSw); go_simp; try with_reducible rfl)
        try simp only [Act.put, List.setIfInBounds_toArray, List.set_cons_zero, List.set_cons_succ]
        refine wpAnyH_take (i := 6) (v := ?_) (by (try simp only [List.getElem?_toArray, List.getElem?_cons_zero, List.getElem?_cons_succ]); first | done | rfl) (by kernel_rfl) (by kernel_rfl) (by kernel_rfl) (fun _ _ _ h => h) (Or.inl ⟨by rfl, ?_⟩) (by assumption) ?_
        rotate_left 1
        · (intro wz hSw; (try dsimp only at hSw); go_simp; try with_reducible rfl)
        try simp only [Act.put, List.setIfInBounds_toArray, List.set_cons_zero, List.set_cons_succ]
        refine wpAnyH_take (i := 7) (v := ?_) (by (try simp only [List.getElem?_toArray, List.getElem?_cons_zero, List.getElem?_cons_succ]); first | done | rfl) (by kernel_rfl) (by kernel_rfl) (by kernel_rfl) (fun _ _ _ h => h) (Or.inl ⟨by rfl, ?_⟩) (by assumption) ?_
        rotate_left 1
        · (intro wz hSw; (try dsimp only at hSw); go_simp; try with_reducible rfl)
        try simp only [Act.put, List.setIfInBounds_toArray, List.set_cons_zero, List.set_cons_succ]
        refine wpAnyH_take (i := 8) (v := ?_) (by (try simp only [List.getElem?_toArray, List.getElem?_cons_zero, List.getElem?_cons_succ]); first | done | rfl) (by kernel_rfl) (by kernel_rfl) (by kernel_rfl) (fun _ _ _ h => h) (Or.inl ⟨by rfl, ?_⟩) (by assumption) ?_
        rotate_left 1
        · (intro wz hSw; (try dsimp only at hSw); go_simp; try with_reducible rfl)
        try simp only [Act.put, List.setIfInBounds_toArray, List.set_cons_zero, List.set_cons_succ]
        refine wpAnyH_take (i := 9) (v := ?_) (by (try simp only [List.getElem?_toArray, List.getElem?_cons_zero, List.getElem?_cons_succ]); first | done | rfl) (by kernel_rfl) (by kernel_rfl) (by kernel_rfl) (fun _ _ _ h => h) (Or.inl ⟨by rfl, ?_⟩) (by assumption) ?_
        rotate_left 1
        · (intro wz hSw; (try dsimp only at hSw); go_simp; try with_reducible rfl)
        try simp only [Act.put, List.setIfInBounds_toArray, List.set_cons_zero, List.set_cons_succ]
        refine wpAnyH_take (i := 10) (v := undef) (by (try simp only [List.getElem?_toArray, List.getElem?_cons_zero, List.getElem?_cons_succ]); first | done | rfl) (by kernel_rfl) (by kernel_rfl) (by kernel_rfl) (fun _ _ _ h => h) (Or.inr ⟨by rfl, rfl⟩) (by assumption) ?_
        try simp only [Act.put, List.setIfInBounds_toArray, List.set_cons_zero, List.set_cons_succ]
        refine wpAnyH_take (i := 11) (v := undef) (by (try simp only [List.getElem?_toArray, List.getElem?_cons_zero, List.getElem?_cons_succ]); first | done | rfl) (by kernel_rfl) (by kernel_rfl) (by kernel_rfl) (fun _ _ _ h => h) (Or.inr ⟨by rfl, rfl⟩) (by assumption) ?_
        try simp only [Act.put, List.setIfInBounds_toArray, List.set_cons_zero, List.set_cons_succ]
        refine wpAnyH_take (i := 12) (v := undef) (by (try simp only [List.getElem?_toArray, List.getElem?_cons_zero, List.getElem?_cons_succ]); first | done | rfl) (by kernel_rfl) (by kernel_rfl) (by kernel_rfl) (fun _ _ _ h => h) (Or.inr ⟨by rfl, rfl⟩) (by assumption) ?_
        try simp only [Act.put, List.setIfInBounds_toArray, List.set_cons_zero, List.set_cons_succ]
        refine wpAnyH_take (i := 13) (v := undef) (by (try simp only [List.getElem?_toArray, List.getElem?_cons_zero, List.getElem?_cons_succ]); first | done | rfl) (by kernel_rfl) (by kernel_rfl) (by kernel_rfl) (fun _ _ _ h => h) (Or.inr ⟨by rfl, rfl⟩) (by assumption) ?_
        try simp only [Act.put, List.setIfInBounds_toArray, List.set_cons_zero, List.set_cons_succ]
        refine wpAnyH_take (i := 14) (v := undef) (by (try simp only [List.getElem?_toArray, List.getElem?_cons_zero, List.getElem?_cons_succ]); first | done | rfl) (by kernel_rfl) (by kernel_rfl) (by kernel_rfl) (fun _ _ _ h => h) (Or.inr ⟨by rfl, rfl⟩) (by assumption) ?_
        try simp only [Act.put, List.setIfInBounds_toArray, List.set_cons_zero, List.set_cons_succ]
        refine wpAnyH_take (i := 15) (v := undef) (by (try simp only [List.getElem?_toArray, List.getElem?_cons_zero, List.getElem?_cons_succ]); first | done | rfl) (by kernel_rfl) (by kernel_rfl) (by kernel_rfl) (fun _ _ _ h => h) (Or.inr ⟨by rfl, rfl⟩) (by assumption) ?_
        try simp only [Act.put, List.setIfInBounds_toArray, List.set_cons_zero, List.set_cons_succ]
        refine wpAnyH_take (i := 16) (v := ?_) (by (try simp only [List.getElem?_toArray, List.getElem?_cons_zero, List.getElem?_cons_succ]); first | done | rfl) (by kernel_rfl) (by kernel_rfl) (by kernel_rfl) (fun _ _ _ h => h) (Or.inl ⟨by rfl, ?_⟩) (by assumption) ?_
        rotate_left 1
        · (intro wz hSw; (try dsimp only at hSw); go_simp; try with_reducible rfl)
        try simp only [Act.put, List.setIfInBounds_toArray, List.set_cons_zero, List.set_cons_succ]
        refine wpAnyH_take (i := 17) (v := ?_) (by (try simp only [List.getElem?_toArray, List.getElem?_cons_zero, List.getElem?_cons_succ]); first | done | rfl) (by kernel_rfl) (by kernel_rfl) (by kernel_rfl) (fun _ _ _ h => h) (Or.inl ⟨by rfl, ?_⟩) (by assumption) ?_
        rotate_left 1
        · (intro wz hSw; (try dsimp only at hSw); go_simp; try with_reducible rfl)
        try simp only [Act.put, List.setIfInBounds_toArray, List.set_cons_zero, List.set_cons_succ]
        refine wpAnyH_take (i := 18) (v := ?_) (by (try simp only [List.getElem?_toArray, List.getElem?_cons_zero, List.getElem?_cons_succ]); first | done | rfl) (by kernel_rfl) (by kernel_rfl) (by kernel_rfl) (fun _ _ _ h => h) (Or.inl ⟨by rfl, ?_⟩) (by assumption) ?_
        rotate_left 1
        · (intro wz hSw; (try dsimp only at hSw); go_simp; try with_reducible rfl)
        try simp only [Act.put, List.setIfInBounds_toArray, List.set_cons_zero, List.set_cons_succ]
        refine wpAnyH_take (i := 19) (v := ?_) (by (try simp only [List.getElem?_toArray, List.getElem?_cons_zero, List.getElem?_cons_succ]); first | done | rfl) (by kernel_rfl) (by kernel_rfl) (by kernel_rfl) (fun _ _ _ h => h) (Or.inl ⟨by rfl, ?_⟩) (by assumption) ?_
        rotate_left 1
        · (intro wz hSw; (try dsimp only at hSw); go_simp; try with_reducible rfl)
        try simp only [Act.put, List.setIfInBounds_toArray, List.set_cons_zero, List.set_cons_succ]
        refine wpAnyH_take (i := 20) (v := ?_) (by (try simp only [List.getElem?_toArray, List.getElem?_cons_zero, List.getElem?_cons_succ]); first | done | rfl) (by kernel_rfl) (by kernel_rfl) (by kernel_rfl) (fun _ _ _ h => h) (Or.inl ⟨by rfl, ?_⟩) (by assumption) ?_
        rotate_left 1
        · (intro wz hSw; (try dsimp only at hSw); go_simp; try with_reducible rfl)
        try simp only [Act.put, List.setIfInBounds_toArray, List.set_cons_zero, List.set_cons_succ]
        refine wpAnyH_take (i := 22) (v := ?_) (by (try simp only [List.getElem?_toArray, List.getElem?_cons_zero, List.getElem?_cons_succ]); first | done | rfl) (by kernel_rfl) (by kernel_rfl) (by kernel_rfl) (fun _ _ _ h => h) (Or.inl ⟨by rfl, ?_⟩) (by assumption) ?_
        rotate_left 1
        · (intro wz hSw; (try dsimp only at hSw); go_simp; try with_reducible rfl)
        try simp only [Act.put, List.setIfInBounds_toArray, List.set_cons_zero, List.set_cons_succ]
        refine wpAnyH_ready (rs := [21]) (by kernel_rfl) (by simp) ?_
        refine AllReadyH.cons (by (try simp only [List.getElem?_toArray, List.getElem?_cons_zero, List.getElem?_cons_succ]); first | done | rfl) (fun K hK => ?_) AllReadyH.nil
        go_simp
        refine Calls.mono (implNearTwo_any _ _ _ _ _ _ _ _ _ _ _ _ _ _ _ _ _ _ (show fin .f64 0 = true by decide)) ?_; rw [HN.out]; rintro e w' ⟨rfl, C⟩
        refine hK.out _ _ ?_ (fun hHeld => ?_)
        · (try dsimp only)
          first | with_reducible assumption | with_reducible exact held_drew ‹_› | with_reducible exact held_calm ‹_› ‹_› | with_reducible exact held_calm ‹_› (held_drew ‹_›) | with_reducible exact held_drewN ‹_›
        clear hK K
        try simp only [Act.put, List.setIfInBounds_toArray, List.set_cons_zero, List.set_cons_succ]
        refine wpAnyH_ready (rs := [23]) (by kernel_rfl) (by simp) ?_
        refine AllReadyH.cons (by (try simp only [List.getElem?_toArray, List.getElem?_cons_zero, List.getElem?_cons_succ]); first | done | rfl) (fun K hK => ?_) AllReadyH.nil
        go_simp
        refine Calls.mono (implTwoOk_any _ _ _ _ _ _ _ _ _) ?_; rw [HG.out]; rintro e w' ⟨rfl, C⟩
        refine hK.out _ _ ?_ (fun hHeld => ?_)
        · (try dsimp only)
          first | with_reducible assumption | with_reducible exact held_drew ‹_› | with_reducible exact held_calm ‹_› ‹_› | with_reducible exact held_calm ‹_› (held_drew ‹_›) | with_reducible exact held_drewN ‹_›
        clear hK K
        try simp only [Act.put, List.setIfInBounds_toArray, List.set_cons_zero, List.set_cons_succ]
        refine wpAnyH_take (i := 24) (v := ?_) (by (try simp only [List.getElem?_toArray, List.getElem?_cons_zero, List.getElem?_cons_succ]); first | done | rfl) (by kernel_rfl) (by kernel_rfl) (by kernel_rfl) (fun _ _ _ h => h) (Or.inl ⟨by rfl, ?_⟩) (by assumption) ?_
        rotate_left 1
        · (intro wz hSw; (try dsimp only at hSw); go_simp; try with_reducible rfl)
        try simp only [Act.put, List.setIfInBounds_toArray, List.set_cons_zero, List.set_cons_succ]
        refine wpAnyH_take (i := 25) (v := ?_) (by (try simp only [List.getElem?_toArray, List.getElem?_cons_zero, List.getElem?_cons_succ]); first | done | rfl) (by kernel_rfl) (by kernel_rfl) (by kernel_rfl) (fun _ _ _ h => h) (Or.inl ⟨by rfl, ?_⟩) (by assumption) ?_
        rotate_left 1
        · (intro wz hSw; (try dsimp only at hSw); go_simp; try with_reducible rfl)
        try simp only [Act.put, List.setIfInBounds_toArray, List.set_cons_zero, List.set_cons_succ]
        refine wpAnyH_take (i := 26) (v := ?_) (by (try simp only [List.getElem?_toArray, List.getElem?_cons_zero, List.getElem?_cons_succ]); first | done | rfl) (by kernel_rfl) (by kernel_rfl) (by kernel_rfl) (fun _ _ _ h => h) (Or.inl ⟨by rfl, ?_⟩) (by assumption) ?_
        rotate_left 1
        · (intro wz hSw; (try dsimp only at hSw); go_simp; try with_reducible rfl)
        try simp only [Act.put, List.setIfInBounds_toArray, List.set_cons_zero, List.set_cons_succ]
        refine wpAnyH_ready (rs := [27]) (by kernel_rfl) (by simp) ?_
        refine AllReadyH.cons (by (try simp only [List.getElem?_toArray, List.getElem?_cons_zero, List.getElem?_cons_succ]); first | done | rfl) (fun K hK => ?_) AllReadyH.nil
        go_simp
        refine Calls.mono (alive_any _) ?_; rintro e w' ⟨rfl, rfl⟩
        refine hK.out _ _ ?_ (fun hHeld => ?_)
        · (try dsimp only)
          first | with_reducible assumption | with_reducible exact held_drew ‹_› | with_reducible exact held_calm ‹_› ‹_› | with_reducible exact held_calm ‹_› (held_drew ‹_›) | with_reducible exact held_drewN ‹_›
        clear hK K
        try simp only [Act.put, List.setIfInBounds_toArray, List.set_cons_zero, List.set_cons_succ]
        refine wpAnyH_take (i := 28) (v := ?_) (by (try simp only [List.getElem?_toArray, List.getElem?_cons_zero, List.getElem?_cons_succ]); first | done | rfl) (by kernel_rfl) (by kernel_rfl) (by kernel_rfl) (fun _ _ _ h => h) (Or.inl ⟨by rfl, ?_⟩) (by assumption) ?_
        rotate_left 1
        · (intro wz hSw; (try dsimp only at hSw); go_simp; try with_reducible rfl)
        try simp only [Act.put, List.setIfInBounds_toArray, List.set_cons_zero, List.set_cons_succ]
        refine wpAnyH_take (i := 29) (v := ?_) (by (try simp only [List.getElem?_toArray, List.getElem?_cons_zero, List.getElem?_cons_succ]); first | done | rfl) (by kernel_rfl) (by kernel_rfl) (by kernel_rfl) (fun _ _ _ h => h) (Or.inl ⟨by rfl, ?_⟩) (by assumption) ?_
        rotate_left 1
        · (intro wz hSw; (try dsimp only at hSw); go_simp; try with_reducible rfl)
        try simp only [Act.put, List.setIfInBounds_toArray, List.set_cons_zero, List.set_cons_succ]
        refine wpAnyH_done (by kernel_rfl) ?_ _
        refine NoPanic.normal ?_
        have hL := held_below ‹_›
        go_wp2_with fail
        go_ret
        exact ⟨rfl, hL⟩
    · have HC := Lib.hid (nearTwo_C HB.out)
      cases γ
      all_goals
        go_wp2_with fail
        refine (implNearTwo_any _ _ _ _ _ _ _ _ _ _ _ _ _ _ _ _ _ _ HD.out).mono ?_
        rw [HB.out]
        rintro e w2 ⟨rfl, C⟩
        have MA2 := MA.calm C
        have MB2 := MB.calm C
        have L3 := below_calm' L2 C
        clear MA MB L2 C
        generalize w1.heap.size + 1 = B at MB2 ⊢
        generalize w1.heap.size = A at MA2 ⊢
        have c0 := MA2.c0
        have c1 := MA2.c1
        have c2 := MA2.c2
        have c3 := MA2.c3
        have s0 := MB2.c0
        have s1 := MB2.c1
        have s2 := MB2.c2
        have s3 := MB2.c3
        go_wp2_with fail
        refine (specNearTwo_any _ _ _ _ _ _ _ _ _ _ _ _ _ _ _ _ _ _ HD.out).mono ?_
        rw [HB.out]
        rintro e w3 ⟨rfl, C⟩
        have MA3 := MA2.calm C
        have MB3 := MB2.calm C
        have L4 := below_calm' L3 C
        clear MA2 MB2 L3 C c0 c1 c2 c3 s0 s1 s2 s3
        have c0 := MA3.c0
        have c1 := MA3.c1
        have c2 := MA3.c2
        have c3 := MA3.c3
        have s0 := MB3.c0
        have s1 := MB3.c1
        have s2 := MB3.c2
        have s3 := MB3.c3
  
        have HS0 := held_of MA3 MB3 L4
        clear MA3 MB3 L4 c0 c1 c2 c3 s0 s1 s2 s3
        go_wp2_with fail
        first
          | (go_region_held3 (fun w' => w'.cell? ⟨A, 0, none⟩ = some (.complex .f32 x1 y1) ∧ w'.cell? ⟨A, 1, none⟩ = some (.complex .f32 x2 y2) ∧ w'.cell? ⟨A, 2, none⟩ = some (.complex .f32 x3 y3) ∧ w'.cell? ⟨A, 3, none⟩ = some (.complex .f32 x4 y4) ∧ w'.cell? ⟨B, 0, none⟩ = some (.complex .f32 z1 t1) ∧ w'.cell? ⟨B, 1, none⟩ = some (.complex .f32 z2 t2) ∧ w'.cell? ⟨B, 2, none⟩ = some (.complex .f32 z3 t3) ∧ w'.cell? ⟨B, 3, none⟩ = some (.complex .f32 z4 t4) ∧ Blk w' A x1 y1 x2 y2 x3 y3 x4 y4 ∧ Blk w' B z1 t1 z2 t2 z3 t3 z4 t4 ∧ Below w.heap.size w w') (first | with_reducible assumption | with_reducible exact held_drew ‹_› | with_reducible exact held_calm ‹_› ‹_› | with_reducible exact held_calm ‹_› (held_drew ‹_›) | with_reducible exact held_drewN ‹_›)
              (first
              | (go_at_call 26; refine Calls.mono (implNearTwo_any _ _ _ _ _ _ _ _ _ _ _ _ _ _ _ _ _ _ HD.out) ?_; rw [HS.out]; rintro e w' ⟨rfl, C⟩)
              | (go_at_call 26; refine Calls.mono (implNearTwo_any _ _ _ _ _ _ _ _ _ _ _ _ _ _ _ _ _ _ (show fin .f64 0 = true by decide)) ?_; rw [HN.out]; rintro e w' ⟨rfl, C⟩)
              | (go_at_call 39; refine Calls.mono (implNear_any _ _ _ _ _ _ HD.out) ?_; rw [HC.out]; rintro e w' ⟨rfl, ⟨n', rfl⟩⟩)
              | (go_at_call 11; refine Calls.mono (implTwoOk_any _ _ _ _ _ _ _ _ _) ?_; rw [HG.out]; rintro e w' ⟨rfl, C⟩)
              | (go_at_call 13; refine Calls.mono (alive_any _) ?_; rintro e w' ⟨rfl, rfl⟩)))
          | fail
        have hL := held_below ‹_›
        go_wp2_with fail
        go_ret
        exact ⟨rfl, hL⟩

end Go.Proofs.Ytdellcgnclliaaa
