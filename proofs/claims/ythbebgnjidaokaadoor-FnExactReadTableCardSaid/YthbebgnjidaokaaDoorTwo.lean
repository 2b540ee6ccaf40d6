/-
  Matrices: the contracts of chapter 2's small functions, in the program and in the model.
-/
import Derived.Test.YthbebgnjidaokaaDoorDraw3
import Derived.Test.YthbebgnjidaokaaDoorNear
import Derived.Laws.StructEq
namespace Go.Proofs.YthbebgnjidaokaaDoor
open Go.RowKit Fl

/-- Nothing that was there is written. -/
abbrev Calm (w w' : World) : Prop := w.grownBy w' none

def finTwo (a b c d e f g h : Nat) : Bool := (fin .f32 a && fin .f32 b) && (fin .f32 c && fin .f32 d) && (fin .f32 e && fin .f32 f) && (fin .f32 g && fin .f32 h)

theorem calm_alloc (w : World) (o : Obj) (n : Nat) : Calm w ((w.alloc o).drewN n) := grown_drewN (World.grownBy_alloc w o none) n

set_option maxHeartbeats 400000 in
theorem implTwoOk_any (a b c d e f g h : Nat) (w : World) :
    Calls Tryd.prog 32 #[.agg #[.complex .f32 a b, .complex .f32 c d, .complex .f32 e f, .complex .f32 g h]] w fun x w' => x = .returned (.bool (finTwo a b c d e f g h)) ∧ Calm w w' := by
  go_enter Tryd.func32, Tryd.ntmps32
  go_wp2_with (go_at_call 45; refine (implFinite_any _ _ _).mono ?_; rintro e w' ⟨rfl, n, rfl⟩)
  all_goals
    go_ret
    refine ⟨?_, calm_alloc _ _ _⟩
    unfold finTwo
    simp [*]

theorem built_cell {w : World} {cells : Array Value} {T b i : Nat} {v : Value} (Z : Nat × Nat) (hb : b = w.heap.size) (h : cells[i]? = some v) : (w.alloc (.cells cells T Z)).cell? ⟨b, i, none⟩ = some v := by
  subst hb
  unfold World.cell?
  rw [heap_alloc_new w _]
  simpa using h
theorem all_take {zs : List (Nat × Nat)} {p : Nat × Nat → Bool} {k : Nat} (hk : zs.length ≤ k) (h : (zs.take k).all p = true) : zs.all p = true := by
  rwa [List.take_of_length_le hk] at h
theorem all_not {zs : List (Nat × Nat)} {p : Nat × Nat → Bool} {k : Nat} {q : Nat × Nat} (hk : k < zs.length) (hq : zs.getD k (0, 0) = q) (h : p q = false) : zs.all p = false := by
  rw [List.getD_eq_getElem?_getD, List.getElem?_eq_getElem hk] at hq
  have hm : q ∈ zs := by rw [← hq]; exact List.getElem_mem _
  cases ha : zs.all p
  · rfl
  · rw [List.all_eq_true.1 ha q hm] at h; cases h
theorem all_step {zs : List (Nat × Nat)} {p : Nat × Nat → Bool} {k : Nat} {q : Nat × Nat} (hk : k < zs.length) (hq : zs.getD k (0, 0) = q) (ha : (zs.take k).all p = true) (h : p q = true) : (zs.take (k + 1)).all p = true := by
  rw [List.getD_eq_getElem?_getD, List.getElem?_eq_getElem hk] at hq
  rw [List.take_add_one, List.getElem?_eq_getElem hk, List.all_append, ha]
  simp at hq
  simp [hq, h]

set_option maxHeartbeats 400000 in
theorem l2All_any (b : Nat) (zs : List (Nat × Nat)) (w : World) (cap : Nat) (hlen : zs.length ≤ 100)
    (hc : ∀ i, i < zs.length → w.cell? ⟨b, i, none⟩ = some (.complex .f32 (zs.getD i (0, 0)).1 (zs.getD i (0, 0)).2)) :
    Calls Tryd.prog 26 #[.slice (some ⟨b, 0, none⟩) zs.length cap] w fun x w' => x = .returned (.bool (zs.all fun z => fin .f32 z.1 && fin .f32 z.2)) ∧ ∃ n, w' = w.drewN n := by
  have HC := Lib.hid hc
  clear hc
  go_enter Tryd.func26, Tryd.ntmps26
  go_wp2
  go_loopw [3] (fun i wr => ∃ k n : Nat, k ≤ zs.length ∧ i = .int .i64 k ∧ wr = w.drewN n ∧ ((zs.take k).all fun z => fin .f32 z.1 && fin .f32 z.2) = true)
    (fun i _ => zs.length - (intOf i).toNat)
  case atStart => exact ⟨0, 0, Nat.zero_le _, rfl, rfl, rfl⟩
  case round =>
    obtain ⟨k, n, hk, rfl, rfl, hall⟩ := hrel
    have HA := Lib.hid hall
    clear hall
    have hcx : k < zs.length → (w.drewN n).cell? ⟨b, k, none⟩ = some (.complex .f32 (zs.getD k (0, 0)).1 (zs.getD k (0, 0)).2) := fun h => by rw [World.cell?_drewN]; exact HC.out k h
    generalize hq : zs.getD k (0, 0) = q at hcx
    have HQ := Lib.hid hq
    clear hq
    by_cases hlt : k < zs.length
    · cases hf : (fin .f32 q.1 && fin .f32 q.2)
      · go_wp2_with (go_at_call 34; refine (specFinite_any _ _ _).mono ?_; rw [hf]; rintro e w' ⟨rfl, n2, rfl⟩)
        go_ret
        exact ⟨by rw [all_not hlt HQ.out hf]; rfl, _, rfl⟩
      · go_wp2_with (go_at_call 34; refine (specFinite_any _ _ _).mono ?_; rw [hf]; rintro e w' ⟨rfl, n2, rfl⟩)
        go_roundw
        case rel => exact ⟨k + 1, n + n2, by omega, by go_num, by first | rfl | simp, all_step hlt HQ.out HA.out hf⟩
        case measure => simp [intOf]; omega
    · go_wp2_with fail
      go_ret
      exact ⟨by rw [all_take (by omega) HA.out]; rfl, _, rfl⟩

set_option maxHeartbeats 400000 in
theorem specTwoOk_any (a b c d e f g h : Nat) (w : World) :
    Calls Tryd.prog 20 #[.agg #[.complex .f32 a b, .complex .f32 c d, .complex .f32 e f, .complex .f32 g h]] w fun x w' => x = .returned (.bool (finTwo a b c d e f g h)) ∧ Calm w w' := by
  go_enter Tryd.func20, Tryd.ntmps20
  go_wp2_with fail
  refine (l2All_any _ [(a, b), (c, d), (e, f), (g, h)] _ _ (by simp) ?_).mono ?_
  · intro i hi
    refine built_cell _ (by simp) ?_
    have h4 : i = 0 ∨ i = 1 ∨ i = 2 ∨ i = 3 := by simp at hi; omega
    rcases h4 with rfl | rfl | rfl | rfl <;> rfl
  rintro x w' ⟨rfl, n, rfl⟩
  go_wp2_with fail
  go_ret
  exact ⟨by unfold finTwo; simp [Bool.and_assoc], grown_drewN (Lib.grownBy_allocR (World.grownBy_alloc w _ none) _) _⟩

theorem run_eq_complex (P : Program) (d : Nat) (t : TypeId) (k k' : FloatKind) (a b a' b' : Nat) (h : P.underlying t = some (.complex k')) (w : World) :
    (Op.equalIn (d + 1) t (.complex k a b) (.complex k a' b')).run P w = .ok (k.format.order a a' == some .eq && k.format.order b b' == some .eq) w := by
  simp [Op.equalIn, run_underlying h, Op.floatEq]

def eqTwoB (a b c d e f g h a' b' c' d' e' f' g' h' : Nat) : Bool :=
  (FloatKind.f32.format.order a a' == some .eq && FloatKind.f32.format.order b b' == some .eq) && ((FloatKind.f32.format.order c c' == some .eq && FloatKind.f32.format.order d d' == some .eq) &&
  ((FloatKind.f32.format.order e e' == some .eq && FloatKind.f32.format.order f f' == some .eq) && (FloatKind.f32.format.order g g' == some .eq && FloatKind.f32.format.order h h' == some .eq)))

theorem run_eq_two (a b c d e f g h a' b' c' d' e' f' g' h' : Nat) (w : World) :
    (binOp .eql 37 (.agg #[.complex .f32 a b, .complex .f32 c d, .complex .f32 e f, .complex .f32 g h]) (.agg #[.complex .f32 a' b', .complex .f32 c' d', .complex .f32 e' f', .complex .f32 g' h'])).run Tryd.prog w = .ok (.bool (eqTwoB a b c d e f g h a' b' c' d' e' f' g' h')) w := by
  rw [run_eql_struct, run_equalIn_struct w _ _ _ _ (by kernel_rfl) (by kernel_rfl)]
  unfold Program.fieldsOf
  rw [Tryd.underlying37]
  simp [Op.eqFields, run_eq_complex _ _ _ _ _ _ _ _ _ Tryd.underlying33, part]
  unfold eqTwoB
  repeat' split
  all_goals simp_all

/-- The matrices are near each other. -/
def nearTwoB (a b c d e f g h a' b' c' d' e' f' g' h' bound : Nat) : Bool :=
  nearB a b a' b' bound && nearB c d c' d' bound && nearB e f e' f' bound && nearB g h g' h' bound

theorem order_eq_fin {k : FloatKind} {x z : Nat} (h : k.format.order x z = some .eq) : fin k x = fin k z := by
  unfold Ieee.Format.order at h
  unfold fin
  cases hx : k.format.read x <;> cases hz : k.format.read z <;> rw [hx, hz] at h <;> first | rfl | skip
  all_goals
    simp only [Ieee.Datum.order] at h
    first | cases h | (split at h <;> cases h)

theorem absR_zero : absR 0 = 0 := by unfold absR; decide +kernel

theorem near_eq {x y z t d : Nat} (h1 : FloatKind.f32.format.order x z = some .eq) (h2 : FloatKind.f32.format.order y t = some .eq) (hd : fin .f64 d = true) :
    nearB x y z t d = ((fin .f32 x && fin .f32 y) && (FloatKind.f64.format.order d 0 == some .gt || FloatKind.f64.format.order d 0 == some .eq)) := by
  have f1 := order_eq_fin h1
  have f2 := order_eq_fin h2
  have hp : ∀ a c, fin .f32 a = true → fin .f32 c = true → FloatKind.f32.format.order a c = some .eq → nearP a c d = decide (0 ≤ V FloatKind.f64.format d) := by
    intro a c ha hc ho
    obtain ⟨_, _, _, d4⟩ := dW_spec ha hc
    have hv : V FloatKind.f32.format a = V FloatKind.f32.format c := (order_spec _ (fin_num.1 ha) (fin_num.1 hc)).2.1.1 ho
    have h0 : V FloatKind.f64.format (dW a c) = 0 := by
      have := rndV_exact d4 (by rw [hv, Rat.sub_self]; exact has_zero _)
      rw [this, hv, Rat.sub_self]
    unfold nearP
    rw [h0, absR_zero]
  have hb : (FloatKind.f64.format.order d 0 == some .gt || FloatKind.f64.format.order d 0 == some .eq) = decide (0 ≤ V FloatKind.f64.format d) := by
    rw [gt_walk (fin_num.1 hd) zero64.1, eq_walk (fin_num.1 hd) zero64.1, zero64.2, Bool.eq_iff_iff]
    simp only [Bool.or_eq_true, decide_eq_true_eq]
    constructor
    · intro h; rcases h with h | h <;> grind
    · intro h
      by_cases he : V FloatKind.f64.format d = 0
      · exact .inr he
      · exact .inl (by grind)
  rw [hb]
  unfold nearB
  rw [← f1, ← f2]
  cases hx : fin .f32 x
  · rfl
  · cases hy : fin .f32 y
    · rfl
    · rw [hp x z hx (by rw [← f1]; exact hx) h1, hp y t hy (by rw [← f2]; exact hy) h2]
      simp

theorem nearTwo_eq {a b c d e f g h a' b' c' d' e' f' g' h' bound : Nat} (hb : fin .f64 bound = true) (he : eqTwoB a b c d e f g h a' b' c' d' e' f' g' h' = true) :
    nearTwoB a b c d e f g h a' b' c' d' e' f' g' h' bound = (finTwo a b c d e f g h && (FloatKind.f64.format.order bound 0 == some .gt || FloatKind.f64.format.order bound 0 == some .eq)) := by
  unfold eqTwoB at he
  simp only [Bool.and_eq_true, beq_iff_eq] at he
  obtain ⟨⟨h1, h2⟩, ⟨h3, h4⟩, ⟨h5, h6⟩, ⟨h7, h8⟩⟩ := he
  unfold nearTwoB finTwo
  rw [near_eq h1 h2 hb, near_eq h3 h4 hb, near_eq h5 h6 hb, near_eq h7 h8 hb]
  generalize (FloatKind.f64.format.order bound 0 == some .gt || FloatKind.f64.format.order bound 0 == some .eq) = β
  cases β <;> simp

end Go.Proofs.YthbebgnjidaokaaDoor
