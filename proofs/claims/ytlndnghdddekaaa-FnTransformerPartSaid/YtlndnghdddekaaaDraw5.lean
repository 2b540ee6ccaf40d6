/-
  The draws of ratios and resistances: 1 divided by them is told, or it is not.
-/
import Derived.Test.YtlndnghdddekaaaInvC
import Derived.Test.YtlndnghdddekaaaDrawT
namespace Go.Proofs.Ytlndnghdddekaaa
open Go.RowKit Fl
open Ieee

/-- 1.5 times 2^126: 1 divided by what is drawn is no greater. -/
def invK : Rat := 3 * p2 125

theorem invK_facts : Has FloatKind.f64.format invK ∧ Has FloatKind.f32.format invK ∧ 0 ≤ invK ∧ invK < lim FloatKind.f32.format := by
  refine ⟨⟨3, 125, by decide, by decide, rfl⟩, ⟨3, 125, by decide, by decide, rfl⟩, ?_, ?_⟩
  · have := p2_pos 125
    unfold invK
    grind
  · unfold invK
    decide +kernel

/-- Not too small to divide by. -/
def NotTiny (x : Nat) : Prop := V FloatKind.f32.format x ≠ 0 → 1 ≤ invK * absR (V FloatKind.f32.format x)

theorem notTiny_milli {n : Int} (h1 : -25000 ≤ n) (h2 : n ≤ 50000) : NotTiny (milliB n) := by
  intro h0
  have hn : n ≠ 0 := fun h => h0 (by rw [h, one_milli.2]; decide +kernel)
  have hk : kOf (milliB n) = n.natAbs := kOf_milli (by omega) (by omega)
  have hs := (kOf_spec (milliB n)).1
  rw [hk] at hs
  have hc : (1 : Rat) ≤ ((n.natAbs : Nat) : Rat) := by
    have : (1 : Nat) ≤ n.natAbs := by omega
    exact_mod_cast this
  have k1 : (2000 : Rat) ≤ invK := by unfold invK; decide +kernel
  have h0 := absR_nonneg (V FloatKind.f32.format (milliB n))
  have := Rat.mul_nonneg (show 0 ≤ invK - 2000 by grind) h0
  grind

theorem inv_of {x y : Nat} (hx : fin .f32 x = true → fin .f32 y = true → NotTiny x ∧ NotTiny y) : ∃ e f β, Inv x y e f β := by
  obtain ⟨β, hβ⟩ : ∃ β, (fin .f32 x && fin .f32 y) = β := ⟨_, rfl⟩
  cases β
  · exact ⟨0, 0, false, .inl ⟨rfl, hβ⟩⟩
  · by_cases hz : FloatKind.f32.format.order x 0 = some .eq ∧ FloatKind.f32.format.order y 0 = some .eq
    · exact ⟨0, 0, false, .inr (.inl ⟨rfl, hβ, hz.1, hz.2⟩)⟩
    · have hf := hβ
      simp only [Bool.and_eq_true] at hf
      obtain ⟨fx, fy⟩ := hf
      obtain ⟨t1, t2⟩ := hx fx fy
      obtain ⟨k1, k2, k3, k4⟩ := invK_facts
      have hnz : V FloatKind.f32.format x ≠ 0 ∨ V FloatKind.f32.format y ≠ 0 := by
        by_cases h1 : V FloatKind.f32.format x = 0
        · right
          intro h2
          exact hz ⟨(order_spec _ (fin_num.1 fx) zero32.1).2.1.2 (by rw [h1, zero32.2]), (order_spec _ (fin_num.1 fy) zero32.1).2.1.2 (by rw [h2, zero32.2])⟩
        · exact .inl h1
      have has1 : Has FloatKind.f64.format 1 := by simpa using has_int (f := FloatKind.f64.format) (by decide) 1 (by decide)
      have b1 : (1 : Rat) ≤ p2 128 := by rw [← p2_zero]; exact p2_le (by decide)
      have b2 : (1 : Rat) ≤ p2 129 := by rw [← p2_zero]; exact p2_le (by decide)
      have b0 : (0 : Rat) ≤ p2 128 := by grind
      obtain ⟨e, f, hq, he, hg, _, _⟩ := quo64_fin (a := 1065353216) (b := 0) (c := x) (d := y) (A := 1) (B := 0) (S := 1) (K := invK) (by decide) (by decide) fx fy has1 b1 (has_zero _) b0 has1 b2 (by decide +kernel)
        (by decide +kernel) (by decide +kernel) hnz k1 k2 k3 k4 (by
          rcases hnz with h | h
          · exact .inl (t1 h)
          · exact .inr (t2 h))
      exact ⟨e, f, true, .inr (.inr ⟨rfl, hβ, hz, hq, he, hg⟩)⟩

/-- What is drawn as a ratio. -/
def RatioOk (v : Value) : Prop := ∃ x y : Nat, v = .complex .f32 x y ∧ ∃ e f β, Inv x y e f β

theorem ratio_num {v : Value} {n : Int} (h : NumOk n v) : RatioOk v := by
  obtain ⟨x, y, re, im, rfl, r0, r1, i0, i1, h⟩ := h
  refine ⟨x, y, rfl, inv_of fun fx fy => ?_⟩
  have tz : ∀ z, (z = 0 ∨ z = 2147483648) → NotTiny z := by
    intro z hz h0
    rcases hz with rfl | rfl
    · exact absurd (by decide +kernel) h0
    · exact absurd (by decide +kernel) h0
  rcases h with ⟨rfl, rfl⟩ | ⟨_, h⟩
  · exact ⟨notTiny_milli r0 r1, notTiny_milli i0 i1⟩
  · rcases h with ⟨rfl, rfl⟩ | ⟨rfl, hn, _⟩ | ⟨rfl, rfl⟩ | ⟨rfl, rfl⟩ | ⟨h1, h2⟩ | ⟨rfl, rfl⟩
    · exact absurd fx (by decide)
    · have := fin_not_nan fy
      rw [hn] at this
      cases this
    · exact ⟨fun _ => by unfold invK; decide +kernel, fun _ => by unfold invK; decide +kernel⟩
    · exact ⟨fun _ => by unfold invK; decide +kernel, tz 0 (.inl rfl)⟩
    · exact ⟨tz x h1, tz y h2⟩
    · exact ⟨fun _ => by unfold invK; decide +kernel, notTiny_milli r0 r1⟩

def qX (q : Nat) : Nat := [1065353216, 1073741824, 3229614080, 1056964608, 0, 0].getD q 0
def qY (q : Nat) : Nat := [0, 0, 0, 0, 1065353216, 0].getD q 0
theorem six (q : Nat) (h : q < [Value.complex .f32 1065353216 0, .complex .f32 1073741824 0, .complex .f32 3229614080 0, .complex .f32 1056964608 0, .complex .f32 0 1065353216, .complex .f32 0 0].length) :
    [Value.complex .f32 1065353216 0, .complex .f32 1073741824 0, .complex .f32 3229614080 0, .complex .f32 1056964608 0, .complex .f32 0 1065353216, .complex .f32 0 0][q]'h = .complex .f32 (qX q) (qY q) := by
  have hq : q = 0 ∨ q = 1 ∨ q = 2 ∨ q = 3 ∨ q = 4 ∨ q = 5 := by simp at h; omega
  rcases hq with rfl | rfl | rfl | rfl | rfl | rfl
  all_goals rfl

theorem ratio_six (q : Nat) (h : q < 6) : RatioOk (.complex .f32 (qX q) (qY q)) := by
  refine ⟨_, _, rfl, inv_of fun _ _ => ?_⟩
  have hq : q = 0 ∨ q = 1 ∨ q = 2 ∨ q = 3 ∨ q = 4 ∨ q = 5 := by omega
  rcases hq with rfl | rfl | rfl | rfl | rfl | rfl
  all_goals (unfold NotTiny invK; decide +kernel)

set_option maxHeartbeats 1000000 in
theorem drawTransformerPart_any {a : Option Addr} {len cap : Nat} {zs : List Int} {w : World} (h : IsRow .u8 w a len cap zs) :
    Calls Try.prog 27 #[.slice a len cap] w (Got RatioOk w) := by
  go_enter Try.func27, Try.ntmps27
  go_wp2_with fail
  refine (open_any h).mono ?_
  rintro e w1 ⟨b, a1, len1, cap1, rfl, R1, hb, B1⟩
  go_wp2_with fail
  refine (pick_any R1 (by omega) (by omega) (by omega)).mono ?_
  rintro e w2 ⟨p, m2, p0, p1, rfl, hw2⟩
  have R2 : Rd w2 b a1 len1 cap1 (0 + 1) := by rw [hw2]; exact R1.step m2
  have B2 : Below w.heap.size w w2 := by rw [hw2]; exact below_drawn B1 hb B1.size (step_grown ..)
  clear hw2 R1 B1
  have hlt := R2.lt
  go_wp2_with fail
  · refine (pick_any (R2.alloc _) (by omega) (by omega) (by omega)).mono ?_
    rintro e w3 ⟨q, m3, q0, q1, rfl, rfl⟩
    have B3 := below_drewN (((B2.setCell (p := ⟨b, 1, none⟩) hb (.int .i64 ((0 : Int) + 1 + 1)))).alloc (B2.setCell (p := ⟨b, 1, none⟩) hb (.int .i64 ((0 : Int) + 1 + 1))).size (.cells #[.complex .f32 1065353216 0, .complex .f32 1073741824 0, .complex .f32 3229614080 0, .complex .f32 1056964608 0, .complex .f32 0 1065353216, .complex .f32 0 0] 23)) m3
    have HB3 := Lib.hid B3
    clear B3 B2
    have hq : q = 0 ∨ q = 1 ∨ q = 2 ∨ q = 3 ∨ q = 4 ∨ q = 5 := by omega
    rcases hq with rfl | rfl | rfl | rfl | rfl | rfl
    all_goals
      go_wp2_with fail
      go_ret
    · exact ⟨_, ratio_six 0 (by omega), rfl, HB3.out⟩
    · exact ⟨_, ratio_six 1 (by omega), rfl, HB3.out⟩
    · exact ⟨_, ratio_six 2 (by omega), rfl, HB3.out⟩
    · exact ⟨_, ratio_six 3 (by omega), rfl, HB3.out⟩
    · exact ⟨_, ratio_six 4 (by omega), rfl, HB3.out⟩
    · exact ⟨_, ratio_six 5 (by omega), rfl, HB3.out⟩
  · refine (num_any R2 (by omega) (by omega) (by omega)).mono ?_
    rintro e w3 ⟨v, k3, hv, rfl, _, R3, G3⟩
    have HV := Lib.hid (ratio_num hv)
    have B3 := below_drawn B2 hb B2.size G3
    obtain ⟨x, y, re, im, rfl, hrest⟩ := hv
    clear R2 R3 G3 B2 hrest
    go_wp2_with fail
    go_ret
    exact ⟨_, HV.out, rfl, B3⟩

set_option maxHeartbeats 400000 in
theorem drawGyratorPart_any {a : Option Addr} {len cap : Nat} {zs : List Int} {w : World} (h : IsRow .u8 w a len cap zs) :
    Calls Try.prog 33 #[.slice a len cap] w (Got RatioOk w) := by
  go_enter Try.func33, Try.ntmps33
  go_wp2_with fail
  refine (drawTransformerPart_any h).mono ?_
  rintro e w1 ⟨v, ⟨x, y, rfl, hI⟩, rfl, B1⟩
  have HI := Lib.hid hI
  have HB := Lib.hid B1
  clear hI B1
  go_wp2_with fail
  go_ret
  exact ⟨_, ⟨x, y, rfl, HI.out⟩, rfl, HB.out⟩

end Go.Proofs.Ytlndnghdddekaaa
