/-
  The thousandths of a number, in the program and in the model.
-/
import Derived.Test.YthbebgnjidaokaaDoorSame
import Derived.Laws.Externs
namespace Go.Proofs.YthbebgnjidaokaaDoor
open Go.RowKit Fl
open Ieee

theorem andNot_top {y : Nat} (h : y < 2 ^ 64) : (bits .andNot .u64 (y : Int) 9223372036854775808).toNat = y % 2 ^ 63 := by
  have e : bits .andNot .u64 (y : Int) 9223372036854775808 = IntKind.u64.wrap ((y % 2 ^ 63 : Nat) : Int) := by
    show IntKind.u64.wrap ((BitVec.ofInt 64 (y : Int) &&& ~~~ BitVec.ofInt 64 9223372036854775808).toNat : Int) = _
    rw [BitVec.toNat_and, BitVec.toNat_not, BitVec.toNat_ofInt, BitVec.toNat_ofInt]
    congr 2
    rw [Int.emod_eq_of_lt (by omega) (by omega), show ((9223372036854775808 : Int) % ((2 ^ 64 : Nat) : Int)).toNat = 2 ^ 63 by decide, show (2 : Nat) ^ 64 - 1 - 2 ^ 63 = 2 ^ 63 - 1 by decide, Nat.and_two_pow_sub_one_eq_mod]
    rfl
  have hm := Nat.mod_lt y (show 0 < 2 ^ 63 by decide)
  rw [e]
  unfold IntKind.wrap
  simp only [IntKind.bits, IntKind.signed, Bool.false_and, Bool.false_eq_true, if_false]
  omega

/-- The word of so many thousandths, as float64, and with one half more. -/
def mW (b : Nat) : Nat := (floatBits .mul .f64 (yW b % 2 ^ 63) 4652007308841189376).getD 0
def wW (b : Nat) : Nat := (floatBits .add .f64 (mW b) 4602678819172646912).getD 0

theorem yW_lt (b : Nat) : yW b < 2 ^ 64 := by
  have hw : ∀ d : Datum, FloatKind.f64.encode d < 2 ^ 64 := fun d => FloatKind.f64.format.write_lt d
  unfold yW floatToFloatBits
  rw [if_neg (by decide)]
  split
  · decide
  · exact hw _
  · split
    · decide
    · exact hw _

theorem absR_bound (b : Nat) : absR (V FloatKind.f32.format b) < p2 128 ∧ 1000 * absR (V FloatKind.f32.format b) + 1 / 2 < lim FloatKind.f64.format := by
  have h1 := V_bound FloatKind.f32.format (by decide) b
  have h2 : p2 (2 ^ (FloatKind.f32.format.exponentBits - 1)) = p2 128 := by congr 1
  rw [h2] at h1
  have h3 : 1000 * p2 128 + 1 / 2 < lim FloatKind.f64.format := by decide +kernel
  have := absR_cases (V FloatKind.f32.format b)
  constructor <;> grind

theorem has_thousand (b : Nat) : Has FloatKind.f64.format (1000 * V FloatKind.f32.format b) ∧ Has FloatKind.f64.format (1000 * absR (V FloatKind.f32.format b)) := by
  obtain ⟨t, L, h1, h2, h3⟩ := has_V FloatKind.f32.format b
  have hfb : (2 : Nat) ^ (FloatKind.f32.format.fractionBits + 1) = 16777216 := by decide
  have hfb2 : (2 : Nat) ^ (FloatKind.f64.format.fractionBits + 1) = 9007199254740992 := by decide
  have hlp : FloatKind.f32.format.leastPlace = -149 := by decide
  have hlp2 : FloatKind.f64.format.leastPlace = -1074 := by decide
  have h0 : Has FloatKind.f64.format (1000 * V FloatKind.f32.format b) := by
    refine ⟨1000 * t, L, by omega, by omega, ?_⟩
    rw [h3, Rat.intCast_mul]
    simp
    grind
  refine ⟨h0, ?_⟩
  rcases absR_cases (V FloatKind.f32.format b) with ⟨_, e⟩ | ⟨_, e⟩
  · rw [e]
    have := has_neg h0
    rwa [show -(1000 * V FloatKind.f32.format b) = 1000 * -V FloatKind.f32.format b by grind] at this
  · rw [e]; exact h0

theorem th_spec {b : Nat} (hb : fin .f32 b = true) :
    floatBits .mul .f64 (yW b % 2 ^ 63) 4652007308841189376 = some (mW b) ∧ floatBits .add .f64 (mW b) 4602678819172646912 = some (wW b) ∧ num FloatKind.f64.format (wW b) ∧
    RndV FloatKind.f64.format (1000 * absR (V FloatKind.f32.format b) + 1 / 2) (V FloatKind.f64.format (wW b)) := by
  obtain ⟨y1, y2, y3⟩ := yW_spec hb
  obtain ⟨a1, a2⟩ := abs_spec .f64 (fin_num.1 y2)
  rw [show FloatKind.f64.format.signWeight = 2 ^ 63 by decide] at a1 a2
  have a3 : V FloatKind.f64.format (yW b % 2 ^ 63) = absR (V FloatKind.f32.format b) := by rw [a2, y3]; rfl
  have hb1 := absR_bound b
  have h0 := absR_nonneg (V FloatKind.f32.format b)
  have hl := lim64.1
  obtain ⟨c1, c2⟩ := k1000_spec
  obtain ⟨d1, d2⟩ := khalf_spec
  obtain ⟨m, m1, m2, m3⟩ := mul_spec .f64 a1 c1 (by rw [a3, c2]; grind) (by rw [a3, c2]; grind)
  rw [a3, c2, Rat.mul_comm] at m3
  have e1 : mW b = m := by unfold mW; rw [m1]; rfl
  have m4 := rndV_exact m3 (has_thousand b).2
  obtain ⟨w, w1, w2, w3⟩ := add_spec .f64 m2 d1 (by rw [m4, d2]; grind) (by rw [m4, d2]; grind)
  rw [m4, d2] at w3
  have e2 : wW b = w := by unfold wW; rw [e1, w1]; rfl
  rw [e2, e1]
  exact ⟨m1, w1, w2, w3⟩

theorem ten_million : num FloatKind.f64.format 4711630319722168320 ∧ V FloatKind.f64.format 4711630319722168320 = 10000000 := ⟨fin_num.1 (by decide +kernel), by decide +kernel⟩

theorem small_of_k {b : Nat} (h : kOf b ≤ 9999999) : absR (V FloatKind.f32.format b) ≤ 20000 := by
  obtain ⟨k1, k2⟩ := kOf_spec b
  have : (kOf b : Rat) ≤ ((9999999 : Nat) : Rat) := Rat.natCast_le_natCast.2 h
  simp at this
  grind

/-- The cut. -/
theorem th_int {b w : Nat} (hw : num FloatKind.f64.format w) (hr : RndV FloatKind.f64.format (1000 * absR (V FloatKind.f32.format b) + 1 / 2) (V FloatKind.f64.format w)) (hs : absR (V FloatKind.f32.format b) ≤ 20000) :
    floatToIntVal .f64 w .i64 = some (kOf b : Int) ∧ (kOf b : Rat) ≤ V FloatKind.f64.format w ∧ V FloatKind.f64.format w < (kOf b : Rat) + 1 := by
  have h0 := absR_nonneg (V FloatKind.f32.format b)
  have hn := rndV_nonneg hr (by grind)
  obtain ⟨n, n1, n2, n3⟩ := toInt_spec (k := .f64) hw hn
  have hk := cut_half hs hr n2 n3
  subst hk
  refine ⟨?_, n2, n3⟩
  obtain ⟨k1, k2⟩ := kOf_spec b
  have hlt : (kOf b : Rat) < ((20000001 : Nat) : Rat) := by simp; grind
  have := Rat.natCast_lt_natCast.1 hlt
  unfold floatToIntVal
  rw [n1]
  simp only
  rw [if_pos ⟨by simp [IntKind.min, IntKind.signed, IntKind.bits], by simp [IntKind.max, IntKind.signed, IntKind.bits]; omega⟩]

/-- Whether so many thousandths are a number of them. -/
def okK (b : Nat) : Bool := decide (kOf b ≤ 9999999)

theorem conv_int {w : Nat} {n : Int} (h : floatToIntVal .f64 w .i64 = some n) (W : World) :
    (convert 49 3 (.float .f64 w)).run Tryd.prog W = .ok (.int .i64 n) W := by
  refine run_convert_float_int W _ _ .f64 .i64 _ _ ?_ Tryd.underlying3 h
  rw [Tryd.underlying49]; rfl

theorem k_le_of {b : Nat} (h : okK b = true) : kOf b ≤ 9999999 := by simpa [okK] using h
theorem k_gt_of {b : Nat} (h : okK b = false) : 9999999 < kOf b := by simpa [okK] using h

theorem zero32 : num FloatKind.f32.format 0 ∧ V FloatKind.f32.format 0 = 0 := num_zero .f32
theorem zero64 : num FloatKind.f64.format 0 ∧ V FloatKind.f64.format 0 = 0 := num_zero .f64

/-- A comparison, as the walk spells it. -/
theorem lt_walk {k : FloatKind} {x y : Nat} (hx : num k.format x) (hy : num k.format y) : (k.format.order x y == some .lt) = decide (V k.format x < V k.format y) := by
  have := (order_spec k.format hx hy).1
  by_cases h : V k.format x < V k.format y
  · rw [this.2 h]; simp [h]
  · have hn : k.format.order x y ≠ some .lt := fun e => h (this.1 e)
    simp [h, hn]
theorem gt_walk {k : FloatKind} {x y : Nat} (hx : num k.format x) (hy : num k.format y) : (k.format.order x y == some .gt) = decide (V k.format y < V k.format x) := by
  have := (order_spec k.format hx hy).2.2
  by_cases h : V k.format y < V k.format x
  · rw [this.2 h]; simp [h]
  · have hn : k.format.order x y ≠ some .gt := fun e => h (this.1 e)
    simp [h, hn]
theorem eq_walk {k : FloatKind} {x y : Nat} (hx : num k.format x) (hy : num k.format y) : (k.format.order x y == some .eq) = decide (V k.format x = V k.format y) := by
  have := (order_spec k.format hx hy).2.1
  by_cases h : V k.format x = V k.format y
  · rw [this.2 h]; simp [h]
  · have hn : k.format.order x y ≠ some .eq := fun e => h (this.1 e)
    simp [h, hn]

theorem th_ge {b : Nat} (hb : fin .f32 b = true) (h : okK b = false) : (FloatKind.f64.format.order (wW b) 4711630319722168320 == some .gt || FloatKind.f64.format.order (wW b) 4711630319722168320 == some .eq) = true := by
  obtain ⟨_, _, w1, w2⟩ := th_spec hb
  obtain ⟨t1, t2⟩ := ten_million
  obtain ⟨k1, k2⟩ := kOf_spec b
  have hk : ((10000000 : Nat) : Rat) ≤ (kOf b : Rat) := Rat.natCast_le_natCast.2 (k_gt_of h)
  simp at hk
  have hw := rndV_ge w2 (c := 10000000) ⟨10000000, 0, by decide, by decide, by decide +kernel⟩ (by grind)
  rw [gt_walk w1 t1, eq_walk w1 t1, t2]
  by_cases he : V FloatKind.f64.format (wW b) = 10000000
  · simp [he]
  · have : (10000000 : Rat) < V FloatKind.f64.format (wW b) := by grind
    simp [this]

theorem th_lt {b : Nat} (hb : fin .f32 b = true) (h : okK b = true) : (FloatKind.f64.format.order (wW b) 4711630319722168320 == some .gt || FloatKind.f64.format.order (wW b) 4711630319722168320 == some .eq) = false := by
  obtain ⟨_, _, w1, w2⟩ := th_spec hb
  obtain ⟨t1, t2⟩ := ten_million
  obtain ⟨_, _, i3⟩ := th_int w1 w2 (small_of_k (k_le_of h))
  have hk : (kOf b : Rat) ≤ ((9999999 : Nat) : Rat) := Rat.natCast_le_natCast.2 (k_le_of h)
  simp at hk
  rw [gt_walk w1 t1, eq_walk w1 t1, t2]
  have a1 : ¬ (10000000 : Rat) < V FloatKind.f64.format (wW b) := by grind
  have a2 : ¬ V FloatKind.f64.format (wW b) = 10000000 := by grind
  simp [a1, a2]

/-- The walk's facts on a part, behind one name. -/
structure PartWalk (b : Nat) : Prop where
  c1 : ∀ w, fconv .f32 b .f64 w = yW b
  c2 : fcask .f32 b .f64 = 0
  c3 : ∀ w, fres .mul .f64 (yW b % 2 ^ 63) 4652007308841189376 w = mW b
  c4 : fask .mul .f64 (yW b % 2 ^ 63) 4652007308841189376 = 0
  c5 : ∀ w, fres .add .f64 (mW b) 4602678819172646912 w = wW b
  c6 : fask .add .f64 (mW b) 4602678819172646912 = 0

theorem part_walk {b : Nat} (hb : fin .f32 b = true) : PartWalk b := by
  obtain ⟨y1, _, _⟩ := yW_spec hb
  obtain ⟨m1, m2, _, _⟩ := th_spec hb
  exact ⟨fun w => fconv_some w y1, fcask_some y1, fun w => fres_some w m1, fask_some m1, fun w => fres_some w m2, fask_some m2⟩

theorem neg_wrap {n : Nat} (h : n ≤ 9999999) : IntKind.i64.wrap (0 - (n : Int)) = -(n : Int) := by
  rw [IntWalk.i64_in _ (by omega)]; omega

/-- What MilliOf gives. -/
def mOf (a b : Nat) : Value :=
  if fin .f32 a && fin .f32 b && okK a && okK b then .tuple #[.int .i64 (sK a), .int .i64 (sK b), .bool true] else .tuple #[.int .i64 0, .int .i64 0, .bool false]

/-- The program's cut of one part. -/
def thV (b : Nat) : Value := if okK b then .tuple #[.int .i64 (sK b), .bool true] else .tuple #[.int .i64 0, .bool false]

/-- The model's test of a part. -/
def smallB (b : Nat) : Bool := decide (-20000 < V FloatKind.f32.format b) && decide (V FloatKind.f32.format b < 20000)

theorem twenty_thousand : num FloatKind.f32.format 3332128768 ∧ V FloatKind.f32.format 3332128768 = -20000 ∧ num FloatKind.f32.format 1184645120 ∧ V FloatKind.f32.format 1184645120 = 20000 :=
  ⟨fin_num.1 (by decide +kernel), by decide +kernel, fin_num.1 (by decide +kernel), by decide +kernel⟩

/-- The model's word: with its sign; then without, and with one half more. -/
def nW (b : Nat) : Nat := (floatBits .mul .f64 (yW b) 4652007308841189376).getD 0
def aW (b : Nat) : Nat := (floatBits .add .f64 (if V FloatKind.f32.format b < 0 then Op.negFloat .f64 (nW b) else nW b) 4602678819172646912).getD 0

theorem round_spec {b : Nat} (hb : fin .f32 b = true) :
    floatBits .mul .f64 (yW b) 4652007308841189376 = some (nW b) ∧ num FloatKind.f64.format (nW b) ∧ V FloatKind.f64.format (nW b) = 1000 * V FloatKind.f32.format b ∧
    floatBits .add .f64 (if V FloatKind.f32.format b < 0 then Op.negFloat .f64 (nW b) else nW b) 4602678819172646912 = some (aW b) ∧ num FloatKind.f64.format (aW b) ∧
    RndV FloatKind.f64.format (1000 * absR (V FloatKind.f32.format b) + 1 / 2) (V FloatKind.f64.format (aW b)) := by
  obtain ⟨y1, y2, y3⟩ := yW_spec hb
  have hb1 := absR_bound b
  have hac := absR_cases (V FloatKind.f32.format b)
  have hl := lim64.1
  obtain ⟨c1, c2⟩ := k1000_spec
  obtain ⟨d1, d2⟩ := khalf_spec
  obtain ⟨m, m1, m2, m3⟩ := mul_spec .f64 (fin_num.1 y2) c1 (by rw [y3, c2]; grind) (by rw [y3, c2]; grind)
  rw [y3, c2, Rat.mul_comm] at m3
  have e1 : nW b = m := by unfold nW; rw [m1]; rfl
  have m4 := rndV_exact m3 (has_thousand b).1
  have hmlt : m < 2 ^ FloatKind.f64.format.width := Format.mul_lt _ m1
  have hn : num FloatKind.f64.format (if V FloatKind.f32.format b < 0 then Op.negFloat .f64 m else m) ∧
      V FloatKind.f64.format (if V FloatKind.f32.format b < 0 then Op.negFloat .f64 m else m) = 1000 * absR (V FloatKind.f32.format b) := by
    by_cases h0 : V FloatKind.f32.format b < 0
    · rw [if_pos h0]
      obtain ⟨g1, g2⟩ := neg_spec .f64 hmlt m2
      refine ⟨g1, ?_⟩
      rw [g2, m4]
      rcases hac with h | h <;> grind
    · rw [if_neg h0]
      refine ⟨m2, ?_⟩
      rw [m4]
      rcases hac with h | h <;> grind
  obtain ⟨w, w1, w2, w3⟩ := add_spec .f64 hn.1 d1 (by rw [hn.2, d2]; grind) (by rw [hn.2, d2]; grind)
  rw [hn.2, d2] at w3
  have e2 : aW b = w := by unfold aW; rw [e1, w1]; rfl
  rw [e2, e1]
  exact ⟨m1, m2, m4, w1, w2, w3⟩

theorem small_abs {b : Nat} (h : smallB b = true) : absR (V FloatKind.f32.format b) ≤ 20000 := by
  unfold smallB at h
  simp only [Bool.and_eq_true, decide_eq_true_eq] at h
  rcases absR_cases (V FloatKind.f32.format b) with h1 | h1 <;> grind

theorem small_ok {b : Nat} (h : smallB b = false) : okK b = false := by
  cases ho : okK b
  · rfl
  · exfalso
    obtain ⟨k1, k2⟩ := kOf_spec b
    have hk : (kOf b : Rat) ≤ ((9999999 : Nat) : Rat) := Rat.natCast_le_natCast.2 (k_le_of ho)
    simp at hk
    have : smallB b = true := by
      unfold smallB
      simp only [Bool.and_eq_true, decide_eq_true_eq]
      rcases absR_cases (V FloatKind.f32.format b) with h1 | h1 <;> constructor <;> grind
    rw [this] at h
    cases h

theorem in_ok (b : Nat) : (decide (-9999999 ≤ sK b) && decide (sK b ≤ 9999999)) = okK b := by
  unfold okK sK
  rw [Bool.eq_iff_iff]
  simp only [Bool.and_eq_true, decide_eq_true_eq]
  split <;> omega

end Go.Proofs.YthbebgnjidaokaaDoor
