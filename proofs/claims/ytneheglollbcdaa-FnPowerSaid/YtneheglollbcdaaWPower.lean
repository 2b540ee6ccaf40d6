/-
  The walk of FnPower: it answers true.
-/
import Derived.Test.YtneheglollbcdaaDraw3
import Derived.Test.YtneheglollbcdaaWhole
namespace Go.Proofs.Ytneheglollbcdaa
open Go.RowKit Fl

theorem numOk_lt {n : Int} {x y : Nat} {re im : Int} (r0 : -25000 ≤ re) (r1 : re ≤ 50000) (i0 : -25000 ≤ im) (i1 : im ≤ 50000)
    (h : (x = milliB re ∧ y = milliB im) ∨ (n ≠ 0 ∧ Odd x y re im)) : y < 2 ^ 32 := by
  have hr : milliB re < 2 ^ 32 := milli_lt (by omega) (by omega)
  have hi : milliB im < 2 ^ 32 := milli_lt (by omega) (by omega)
  rcases h with ⟨_, h⟩ | ⟨_, ⟨_, h⟩ | ⟨_, _, h⟩ | ⟨_, h⟩ | ⟨_, h⟩ | ⟨_, h⟩ | ⟨_, h⟩⟩ <;> omega

theorem ge_walk {k : FloatKind} {x y : Nat} (hx : num k.format x) (hy : num k.format y) : (k.format.order x y == some .gt || k.format.order x y == some .eq) = decide (V k.format y ≤ V k.format x) := by
  rw [gt_walk hx hy, eq_walk hx hy, Bool.eq_iff_iff]
  simp only [Bool.or_eq_true, decide_eq_true_eq]
  constructor
  · intro h; rcases h with h | h <;> grind
  · intro h
    by_cases he : V k.format x = V k.format y
    · exact .inr he
    · exact .inl (by grind)

/-- Powers are no less than 0 exactly for finite numbers. -/
theorem pow_ge (x y : Nat) : (FloatKind.f64.format.order (powV x y) 0 == some .gt || FloatKind.f64.format.order (powV x y) 0 == some .eq) = (fin .f32 x && fin .f32 y) := by
  rw [ge_walk (fin_num.1 (powV_num x y)) zero64.1, zero64.2]
  have hm : V FloatKind.f64.format 13830554455654793216 = -1 := by decide +kernel
  have h01 : decide ((0 : Rat) ≤ -1) = false := by decide +kernel
  cases hx : fin .f32 x
  · have : powV x y = 13830554455654793216 := by unfold powV; rw [hx]; rfl
    rw [this, hm, h01]; rfl
  · cases hy : fin .f32 y
    · have : powV x y = 13830554455654793216 := by unfold powV; rw [hx, hy]; rfl
      rw [this, hm, h01]; rfl
    · have : powV x y = pW x y := by unfold powV; rw [hx, hy]; rfl
      rw [this]
      have h := rndV_nonneg (pW_spec hx hy).2.2 (by have := (sq_bound x).1; have := (sq_bound y).1; grind)
      simpa using h

/-- The product of a whole number and the turned one. -/
theorem whole_turned {x y : Nat} (hy32 : y < 2 ^ 32) (h : Whole x y 1000) : ∃ e f, (∀ (P : Program) (t : TypeId) (w : World), (binOp .mul t (.complex .f32 x y) (.complex .f32 x (Op.negFloat .f32 y))).run P w = .ok (.complex .f32 e f) w) ∧
    fin .f32 e = true ∧ fin .f32 f = true ∧ FloatKind.f64.format.order (yW e) (powV x y) = some .eq ∧ FloatKind.f32.format.order f 0 = some .eq := by
  obtain ⟨hx, hy, i, j, vx, vy, i0, i1, j0, j1⟩ := h
  have hn : fin .f32 (Op.negFloat .f32 y) = true := by rw [fin_neg hy32]; exact hy
  have vn : V FloatKind.f32.format (Op.negFloat .f32 y) = ((-j : Int) : Rat) := by
    rw [(neg_spec .f32 (show y < 2 ^ FloatKind.f32.format.width from hy32) (fin_num.1 hy)).2, vy, Rat.intCast_neg]
  have sq : ∀ p q : Int, -1000 ≤ p → p ≤ 1000 → -1000 ≤ q → q ≤ 1000 → (p * q).natAbs ≤ 1000000 := by
    intro p q a b c d
    rw [Int.natAbs_mul]
    exact Nat.mul_le_mul (show p.natAbs ≤ 1000 by omega) (show q.natAbs ≤ 1000 by omega)
  have s1 := sq i i i0 i1 i0 i1
  have s2 := sq j (-j) j0 j1 (by omega) (by omega)
  have s3 := sq i (-j) i0 i1 (by omega) (by omega)
  have s4 := sq j i j0 j1 i0 i1
  have s5 := sq j j j0 j1 j0 j1
  obtain ⟨e, f, h1, h2, h3, h4, h5⟩ := mul_whole hx hy hx hn vx vy vx vn (by omega) (by omega) (by omega) (by omega)
  refine ⟨e, f, h1, h2, h3, ?_, ?_⟩
  · have hp : powV x y = pW x y := by unfold powV; rw [hx, hy]; rfl
    obtain ⟨p1, p2, p3⟩ := pW_spec hx hy
    have hv : V FloatKind.f32.format x * V FloatKind.f32.format x + V FloatKind.f32.format y * V FloatKind.f32.format y = ((i * i + j * j : Int) : Rat) := by
      rw [vx, vy, Rat.intCast_add, Rat.intCast_mul, Rat.intCast_mul]
    rw [hv] at p3
    have p4 := rndV_exact p3 (has_int (by decide) _ (by
      have : (2 : Nat) ^ (FloatKind.f64.format.fractionBits + 1) = 9007199254740992 := by decide
      omega))
    rw [hp]
    obtain ⟨_, y2, y3⟩ := yW_spec h2
    refine (order_spec _ (fin_num.1 y2) p2).2.1.2 ?_
    rw [y3, h4, p4]
    congr 1
    rw [Int.mul_neg]; omega
  · refine (order_spec _ (fin_num.1 h3) zero32.1).2.1.2 ?_
    rw [h5, zero32.2]
    have : i * -j + j * i = 0 := by rw [Int.mul_neg, Int.mul_comm j i]; omega
    rw [this]; rfl

set_option maxHeartbeats 1000000 in
theorem FnPower_walk (a : Option Addr) (len cap : Nat) (zs : List Int) (w : World) (h : IsRow .u8 w a len cap zs) :
    Calls Try.prog 10 #[.slice a len cap] w fun e w' => e = .returned (.bool true) ∧ Below w.heap.size w w' := by
  by_cases hl : (1048576 : Int) < (len : Int)
  · go_enter Try.func10, Try.ntmps10
    go_wp2_with fail
    go_ret
    exact ⟨rfl, Below.refl _ _⟩
  · go_enter Try.func10, Try.ntmps10
    go_wp2_with fail
    refine (drawPower_any h).mono ?_
    rintro e w1 ⟨v, ⟨x, y, re, im, rfl, r0, r1, i0, i1, hrest⟩, rfl, B1⟩
    have HY := Lib.hid (numOk_lt r0 r1 i0 i1 hrest)
    have ho := Lib.hid (order_eq (powV_num x y))
    have hge := Lib.hid (pow_ge x y)
    clear hrest h
    go_wp2_with fail
    refine (implPower_any _ _ _).mono ?_
    rintro e w2 ⟨rfl, n1, rfl⟩
    go_wp2_with fail
    refine (specPower_any _ _ _).mono ?_
    rintro e w2 ⟨rfl, n2, rfl⟩
    go_wp2_with fail
    refine (samePart_eq _ _ _ ho.out).mono ?_
    rintro e w2 ⟨rfl, n3, rfl⟩
    obtain ⟨β, hβ⟩ : ∃ β, (fin .f32 x && fin .f32 y) = β := ⟨_, rfl⟩
    have HB := Lib.hid hβ
    have hg := hge.out
    rw [hβ] at hg
    clear hβ
    go_wp2_with fail
    refine (implFinite_any _ _ _).mono ?_
    rw [HB.out]
    rintro e w2 ⟨rfl, n4, rfl⟩
    cases β
    all_goals
      go_wp2_with fail
      refine (whole_any _ _ _ _ (by omega) (by omega)).mono ?_
      rintro e w2 ⟨γ, n5, rfl, rfl, hγ⟩
      have HG := Lib.hid hγ
      clear hγ
      cases γ
      · go_wp2_with fail
        refine (alive_any _).mono ?_
        rintro e w2 ⟨rfl, rfl⟩
        go_wp2_with fail
        go_ret
        exact ⟨rfl, below_drewN B1 _⟩
      · have hW := HG.out rfl
        obtain ⟨p, q, q1, q2, q3, q4, q5⟩ := whole_turned HY.out hW
        have fx := hW.1
        have fy := hW.2.1
        have fn : fin .f32 (Op.negFloat .f32 y) = true := by rw [fin_neg HY.out]; exact fy
        have Q2 := Lib.hid q2
        have Q3 := Lib.hid q3
        have FX := Lib.hid fx
        have FY := Lib.hid fy
        have FN := Lib.hid fn
        have Q1 := Lib.hid q1
        have c1 : ∀ w, fconv .f32 p .f64 w = yW p := fun w => fconv_some w (yW_spec q2).1
        have c2 : fcask .f32 p .f64 = 0 := fcask_some (yW_spec q2).1
        clear q1 q2 q3 fx fy fn hW
        go_wp2_with fail
        refine (implTurned_any _ _ _).mono ?_
        rintro e w2 ⟨rfl, rfl⟩
        go_wp2_with fail
        refine (implProduct_of FX.out FY.out FX.out FN.out Q2.out Q3.out Q1.out _).mono ?_
        rintro e w2 ⟨rfl, n6, rfl⟩
        go_wp2_with fail
        go_ret
        exact ⟨rfl, below_drewN B1 _⟩

end Go.Proofs.Ytneheglollbcdaa
