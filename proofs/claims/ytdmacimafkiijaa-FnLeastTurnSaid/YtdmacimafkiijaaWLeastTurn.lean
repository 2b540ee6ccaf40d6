/-
  The walk of FnLeastTurn: it answers true.
-/
import Derived.Test.YtdmacimafkiijaaImplLeast
namespace Go.Proofs.Ytdmacimafkiijaa
open Go.RowKit Fl

theorem aB_spec {q : Nat} (h : fin .f32 q = true) (hq : q < 2 ^ 32) : num FloatKind.f32.format (aB q) ∧ V FloatKind.f32.format (aB q) = absR (V FloatKind.f32.format q) := by
  have hl := lt_walk (fin_num.1 h) zero32.1
  rw [zero32.2] at hl
  obtain ⟨n1, n2⟩ := neg_spec .f32 (show q < 2 ^ FloatKind.f32.format.width from hq) (fin_num.1 h)
  unfold aB
  rw [hl]
  rcases absR_cases (V FloatKind.f32.format q) with ⟨g, e⟩ | ⟨g, e⟩
  · rw [if_pos (by simpa using g)]
    exact ⟨n1, by rw [n2, e]⟩
  · rw [if_neg (by simp; exact Rat.not_lt.2 g)]
    exact ⟨fin_num.1 h, e.symm⟩

theorem best_spec {F : Nat → Nat × Nat} (hF : ∀ n, fin .f32 (F n).2 = true ∧ (F n).2 < 2 ^ 32) (N : Nat) : ∃ i : Nat, i < N + 1 ∧ bestAt F (N + 1) = ((i : Int), aB (F i).2) ∧ ∀ n, n < N + 1 → absR (V FloatKind.f32.format (F i).2) ≤ absR (V FloatKind.f32.format (F n).2) := by
  induction N with
  | zero =>
    refine ⟨0, by omega, rfl, ?_⟩
    intro n hn
    have : n = 0 := by omega
    subst this
    exact Rat.le_refl
  | succ N ih =>
    obtain ⟨i, hi, hb, hm⟩ := ih
    obtain ⟨a1, a2⟩ := aB_spec (hF (N + 1)).1 (hF (N + 1)).2
    obtain ⟨b1, b2⟩ := aB_spec (hF i).1 (hF i).2
    have hs : bestAt F (N + 1 + 1) = bestStep F (bestAt F (N + 1)) (N + 1) := rfl
    rw [hs, hb]
    unfold bestStep
    simp only
    rw [lt_walk a1 b1, a2, b2]
    have h0 : decide ((i : Int) < 0) = false := by simp
    rw [h0, Bool.false_or]
    by_cases hlt : absR (V FloatKind.f32.format (F (N + 1)).2) < absR (V FloatKind.f32.format (F i).2)
    · rw [if_pos (by simpa using hlt)]
      refine ⟨N + 1, by omega, rfl, ?_⟩
      intro n hn
      rcases Nat.lt_or_ge n (N + 1) with g | g
      · have := hm n g; grind
      · have : n = N + 1 := by omega
        subst this
        exact Rat.le_refl
    · rw [if_neg (by simpa using hlt)]
      refine ⟨i, by omega, rfl, ?_⟩
      intro n hn
      rcases Nat.lt_or_ge n (N + 1) with g | g
      · exact hm n g
      · have : n = N + 1 := by omega
        subst this
        grind

/-- The doubled turns, near simple numbers. -/
def dT : Nat → Rat
  | 0 => 1
  | 1 => 7071 / 10000
  | 2 => 0
  | _ => -7071 / 10000
def dU : Nat → Rat
  | 0 => 0
  | 1 => -7071 / 10000
  | 2 => -1
  | _ => -7071 / 10000
theorem d_table : ∀ i : Fin 4, (decide (absR (V FloatKind.f32.format (tR i.val) * V FloatKind.f32.format (tR i.val) - V FloatKind.f32.format (tI i.val) * V FloatKind.f32.format (tI i.val) - dT i.val) ≤ 1 / 100000) &&
    decide (absR (-(V FloatKind.f32.format (tR i.val) * V FloatKind.f32.format (tI i.val)) + -(V FloatKind.f32.format (tI i.val) * V FloatKind.f32.format (tR i.val)) - dU i.val) ≤ 1 / 100000)) = true := by decide +kernel

theorem one_m : V FloatKind.f32.format (milliB (1000 - 0)) = 1 := by decide +kernel

theorem twice_near {i e f t u : Nat} (hi : i < 16) (r : Runs i 0 e f) (tw : Twice e f t u) :
    absR (V FloatKind.f32.format t - (V FloatKind.f32.format (tR i) * V FloatKind.f32.format (tR i) - V FloatKind.f32.format (tI i) * V FloatKind.f32.format (tI i))) ≤ 8 * p2 (-22) ∧
    absR (V FloatKind.f32.format u - (-(V FloatKind.f32.format (tR i) * V FloatKind.f32.format (tI i)) + -(V FloatKind.f32.format (tI i) * V FloatKind.f32.format (tR i)))) ≤ 8 * p2 (-22) := by
  obtain ⟨_, _, _, un⟩ := unit_of hi
  have ne := r.ne
  have nf := r.nf
  rw [one_m, Rat.one_mul] at ne nf
  have c1 := un.c1
  have s1 := ab_neg un.s1
  have n1 := prod_near ne ne c1 c1
  have n2 := prod_near nf nf s1 s1
  have n3 := prod_near ne nf c1 s1
  have n4 := prod_near nf ne s1 c1
  have k : 2 * p2 (-22) + ((1 * p2 (-22) + 1 * p2 (-22) + p2 (-22) * p2 (-22)) + (1 * p2 (-22) + 1 * p2 (-22) + p2 (-22) * p2 (-22))) ≤ 8 * p2 (-22) := by decide +kernel
  constructor
  · have := ab_add tw.nt (ab_add n1 (ab_neg n2))
    refine ab_le ?_ k
    have e0 : V FloatKind.f32.format t - (V FloatKind.f32.format e * V FloatKind.f32.format e - V FloatKind.f32.format f * V FloatKind.f32.format f) + (V FloatKind.f32.format e * V FloatKind.f32.format e - V FloatKind.f32.format (tR i) * V FloatKind.f32.format (tR i) + -(V FloatKind.f32.format f * V FloatKind.f32.format f - -V FloatKind.f32.format (tI i) * -V FloatKind.f32.format (tI i))) =
      V FloatKind.f32.format t - (V FloatKind.f32.format (tR i) * V FloatKind.f32.format (tR i) - V FloatKind.f32.format (tI i) * V FloatKind.f32.format (tI i)) := by grind
    rw [e0] at this
    exact this
  · have := ab_add tw.nu (ab_add n3 n4)
    refine ab_le ?_ k
    have e0 : V FloatKind.f32.format u - (V FloatKind.f32.format e * V FloatKind.f32.format f + V FloatKind.f32.format f * V FloatKind.f32.format e) + (V FloatKind.f32.format e * V FloatKind.f32.format f - V FloatKind.f32.format (tR i) * -V FloatKind.f32.format (tI i) + (V FloatKind.f32.format f * V FloatKind.f32.format e - -V FloatKind.f32.format (tI i) * V FloatKind.f32.format (tR i))) =
      V FloatKind.f32.format u - (-(V FloatKind.f32.format (tR i) * V FloatKind.f32.format (tI i)) + -(V FloatKind.f32.format (tI i) * V FloatKind.f32.format (tR i))) := by grind
    rw [e0] at this
    exact this

/-- The second part of what is seen behind a line of at most 3 sixteenths. -/
theorem seen_near {x y n p q : Nat} (hn : n < 4) {A : Rat} (h : Seen x y n p q A) (hA : A ≤ 3) (hx : absR (V FloatKind.f32.format x) ≤ 11 / 10) (hy : absR (V FloatKind.f32.format y) ≤ 11 / 10) :
    absR (V FloatKind.f32.format q - (dT n * V FloatKind.f32.format y + dU n * V FloatKind.f32.format x)) ≤ 1 / 10000 := by
  obtain ⟨e, f, t, u, r, tw, b⟩ := h
  have ht : ti (n : Int) = n := by unfold ti; omega
  rw [ht] at r
  obtain ⟨n1, n2⟩ := twice_near (by omega) r tw
  have d := d_table ⟨n, hn⟩
  simp only [Bool.and_eq_true, decide_eq_true_eq] at d
  obtain ⟨d1, d2⟩ := d
  have k : 8 * p2 (-22) + (1 : Rat) / 100000 ≤ 2 / 100000 := by decide +kernel
  have hz := p2_pos (-22)
  have t1 : absR (V FloatKind.f32.format t - dT n) ≤ 2 / 100000 := by
    have := ab_add n1 d1
    have e0 : ∀ a b c : Rat, a - b + (b - c) = a - c := by intro a b c; grind
    rw [e0] at this
    exact ab_le this k
  have u1 : absR (V FloatKind.f32.format u - dU n) ≤ 2 / 100000 := by
    have := ab_add n2 d2
    have e0 : ∀ a b c : Rat, a - b + (b - c) = a - c := by intro a b c; grind
    rw [e0] at this
    exact ab_le this k
  have m1 := ab_mul t1 hy
  have m2 := ab_mul u1 hx
  have := ab_add b.nq (ab_add m1 m2)
  have e0 : V FloatKind.f32.format q - (V FloatKind.f32.format t * V FloatKind.f32.format y + V FloatKind.f32.format u * V FloatKind.f32.format x) + ((V FloatKind.f32.format t - dT n) * V FloatKind.f32.format y + (V FloatKind.f32.format u - dU n) * V FloatKind.f32.format x) =
    V FloatKind.f32.format q - (dT n * V FloatKind.f32.format y + dU n * V FloatKind.f32.format x) := by grind
  rw [e0] at this
  have k2 := Rat.mul_le_mul_of_nonneg_right hA (Rat.le_of_lt hz)
  have k3 : 3 * p2 (-22) + (2 / 100000 * (11 / 10) + 2 / 100000 * (11 / 10)) ≤ (1 : Rat) / 10000 := by decide +kernel
  exact ab_le this (by grind)

/-- The heart: a number of a power of at most 1.15 turned by some eighth has a second part of at most 0.45. -/
theorem some_small {x y q0 q1 q2 q3 b : Rat} (hp : x * x + y * y ≤ 23 / 20) (h0 : absR (q0 - (1 * y + 0 * x)) ≤ 1 / 10000) (h1 : absR (q1 - (7071 / 10000 * y + -7071 / 10000 * x)) ≤ 1 / 10000)
    (h2 : absR (q2 - (0 * y + -1 * x)) ≤ 1 / 10000) (h3 : absR (q3 - (-7071 / 10000 * y + -7071 / 10000 * x)) ≤ 1 / 10000) (b0 : b ≤ absR q0) (b1 : b ≤ absR q1) (b2 : b ≤ absR q2) (b3 : b ≤ absR q3) : b ≤ 449 / 1000 := by
  rcases Rat.le_total (a := b) (b := 449 / 1000) with g | g
  · exact g
  · exfalso
    obtain ⟨e1, e2⟩ := absR_le.1 h0
    obtain ⟨e3, e4⟩ := absR_le.1 h1
    obtain ⟨e5, e6⟩ := absR_le.1 h2
    obtain ⟨e7, e8⟩ := absR_le.1 h3
    have key : ∀ a c : Rat, 44 / 100 ≤ a → a + 63 / 100 ≤ c → ¬ (a * a + c * c ≤ 23 / 20) := by
      intro a c h1 h2 h
      have m1 := Rat.mul_nonneg (show 0 ≤ a - 44 / 100 by grind) (show 0 ≤ a + 44 / 100 by grind)
      have m2 := Rat.mul_nonneg (show 0 ≤ c - 107 / 100 by grind) (show 0 ≤ c + 107 / 100 by grind)
      grind
    have hx := absR_cases q2
    have hy := absR_cases q0
    have hd := absR_cases q1
    have hs := absR_cases q3
    rcases Rat.le_total (a := 0) (b := x) with gx | gx <;> rcases Rat.le_total (a := 0) (b := y) with gy | gy
    · rcases Rat.le_total (a := x) (b := y) with gxy | gxy
      · exact key x y (by grind) (by grind) (by grind)
      · exact key y x (by grind) (by grind) (by grind)
    · rcases Rat.le_total (a := x) (b := -y) with gxy | gxy
      · exact key x (-y) (by grind) (by grind) (by grind)
      · exact key (-y) x (by grind) (by grind) (by grind)
    · rcases Rat.le_total (a := -x) (b := y) with gxy | gxy
      · exact key (-x) y (by grind) (by grind) (by grind)
      · exact key y (-x) (by grind) (by grind) (by grind)
    · rcases Rat.le_total (a := -x) (b := -y) with gxy | gxy
      · exact key (-x) (-y) (by grind) (by grind) (by grind)
      · exact key (-y) (-x) (by grind) (by grind) (by grind)

/-- What FnLeastTurn asks, where the power is not great. -/
theorem least_fact {x y : Nat} {F : Nat → Nat × Nat} {A : Rat} (fx : fin .f32 x = true) (fy : fin .f32 y = true) (hp : (FloatKind.f64.format.order (powV x y) 4607632778762754458 == some .gt) = false)
    (hA' : absR (V FloatKind.f32.format x) ≤ 11 / 10 → absR (V FloatKind.f32.format y) ≤ 11 / 10 → A ≤ 3) (hF : ∀ n, Seen x y n (F n).1 (F n).2 A) (hq : ∀ n, fin .f32 (F n).2 = true ∧ (F n).2 < 2 ^ 32) {i : Nat} (hm : ∀ n, n < 9 → absR (V FloatKind.f32.format (F i).2) ≤ absR (V FloatKind.f32.format (F n).2)) :
    (FloatKind.f32.format.order (F i).2 1055286886 == some .lt || FloatKind.f32.format.order (F i).2 1055286886 == some .eq) = true ∧
    (FloatKind.f32.format.order (F i).2 3202770534 == some .gt || FloatKind.f32.format.order (F i).2 3202770534 == some .eq) = true := by
  have hpw : powV x y = pW x y := by unfold powV; rw [fx, fy]; rfl
  obtain ⟨p1, p2', p3⟩ := pW_spec fx fy
  rw [hpw, gt_walk p2' (fin_num.1 (by decide : fin .f64 4607632778762754458 = true))] at hp
  have hle : V FloatKind.f32.format x * V FloatKind.f32.format x + V FloatKind.f32.format y * V FloatKind.f32.format y ≤ 23 / 20 := by
    rcases Rat.le_total (a := V FloatKind.f32.format x * V FloatKind.f32.format x + V FloatKind.f32.format y * V FloatKind.f32.format y) (b := 23 / 20) with g | g
    · exact g
    · exfalso
      have hb : V FloatKind.f64.format 4607857958744122000 ≤ 23 / 20 ∧ V FloatKind.f64.format 4607632778762754458 < V FloatKind.f64.format 4607857958744122000 := ⟨by decide +kernel, by decide +kernel⟩
      have := rndV_ge p3 (has_V _ 4607857958744122000) (by grind)
      simp only [decide_eq_false_iff_not] at hp
      grind
  have sx := sq_nonneg (V FloatKind.f32.format x)
  have sy := sq_nonneg (V FloatKind.f32.format y)
  have small : ∀ z : Rat, z * z ≤ 23 / 20 → absR z ≤ 11 / 10 := by
    intro z hz
    rcases Rat.le_total (a := absR z) (b := 11 / 10) with g | g
    · exact g
    · exfalso
      have e : absR z * absR z = z * z := by rcases absR_cases z with ⟨_, h⟩ | ⟨_, h⟩ <;> rw [h] <;> grind
      have := Rat.mul_nonneg (show 0 ≤ absR z - 11 / 10 by grind) (show 0 ≤ absR z + 11 / 10 by grind)
      grind
  have hx := small _ (show V FloatKind.f32.format x * V FloatKind.f32.format x ≤ 23 / 20 by grind)
  have hy := small _ (show V FloatKind.f32.format y * V FloatKind.f32.format y ≤ 23 / 20 by grind)
  have hA := hA' hx hy
  have hs := some_small hle (seen_near (n := 0) (by decide) (hF 0) hA hx hy) (seen_near (n := 1) (by decide) (hF 1) hA hx hy) (seen_near (n := 2) (by decide) (hF 2) hA hx hy) (seen_near (n := 3) (by decide) (hF 3) hA hx hy) (hm 0 (by decide)) (hm 1 (by decide)) (hm 2 (by decide)) (hm 3 (by decide))
  obtain ⟨s1, s2⟩ := absR_le.1 hs
  have c1 : (449 : Rat) / 1000 ≤ V FloatKind.f32.format 1055286886 := by decide +kernel
  have c2 : V FloatKind.f32.format 3202770534 ≤ -(449 / 1000) := by decide +kernel
  rw [le_walk (fin_num.1 (hq i).1) (fin_num.1 (by decide : fin .f32 1055286886 = true)), ge_walk' (fin_num.1 (hq i).1) (fin_num.1 (by decide : fin .f32 3202770534 = true))]
  simp only [decide_eq_true_eq]
  exact ⟨by grind, by grind⟩

set_option maxHeartbeats 1000000 in
theorem drawLeastTurn_any {a : Option Addr} {len cap : Nat} {zs : List Int} {w : World} (h : IsRow .u8 w a len cap zs) :
    Calls Try.prog 44 #[.slice a len cap] w (Got (fun v => ∃ x y, v = .complex .f32 x y ∧ GOk x y) w) := by
  go_enter Try.func44, Try.ntmps44
  go_wp2_with fail
  refine (drawBehindLine_any h).mono ?_
  rintro e w1 ⟨v, ⟨x, y, k, l, rfl, hg, _, _, _⟩, rfl, B1⟩
  have HG := Lib.hid hg
  clear hg h
  go_wp2_with fail
  go_ret
  exact ⟨_, ⟨x, y, rfl, HG.out⟩, rfl, B1⟩

set_option maxHeartbeats 1000000 in
theorem FnLeastTurn_walk (a : Option Addr) (len cap : Nat) (zs : List Int) (w : World) (h : IsRow .u8 w a len cap zs) :
    Calls Try.prog 8 #[.slice a len cap] w fun e w' => e = .returned (.bool true) ∧ Below w.heap.size w w' := by
  by_cases hl : (1048576 : Int) < (len : Int)
  · go_enter Try.func8, Try.ntmps8
    go_wp2_with fail
    go_ret
    exact ⟨rfl, Below.refl _ _⟩
  · go_enter Try.func8, Try.ntmps8
    go_wp2_with fail
    refine (drawLeastTurn_any h).mono ?_
    rintro e w1 ⟨v, ⟨x, y, rfl, hg⟩, rfl, B1⟩
    clear h
    cases hf : (fin .f32 x && fin .f32 y)
    · have HF := Lib.hid hf
      clear hf hg
      go_wp2_with fail
      refine (implLeast_no HF.out _).mono ?_
      rintro z w2 ⟨rfl, C⟩
      have B2 := below_calm B1 B1.size C
      clear C B1
      go_wp2_with fail
      refine (specLeast_no HF.out _).mono ?_
      rintro z w3 ⟨rfl, C⟩
      have B3 := below_calm B2 B2.size C
      clear C B2
      go_wp2_with fail
      refine (alive_any _).mono ?_
      rintro e w4 ⟨rfl, rfl⟩
      go_wp2_with fail
      go_ret
      exact ⟨rfl, B3⟩
    · simp only [Bool.and_eq_true] at hf
      obtain ⟨fx, fy⟩ := hf
      obtain ⟨A, hA, hA0, hA1, hA2⟩ : ∃ A, absR (V FloatKind.f32.format x) + absR (V FloatKind.f32.format y) ≤ A ∧ 1 ≤ A ∧ A ≤ 319000000000000000000000000000000000000 ∧ (absR (V FloatKind.f32.format x) ≤ 11 / 10 → absR (V FloatKind.f32.format y) ≤ 11 / 10 → 1001 / 1000 * A ≤ 3) := by
        have hb := hg fx fy
        rcases Rat.le_total (a := absR (V FloatKind.f32.format x) + absR (V FloatKind.f32.format y)) (b := 22 / 10) with g | g
        · exact ⟨22 / 10, g, by decide +kernel, by decide +kernel, fun _ _ => by decide +kernel⟩
        · by_cases e : absR (V FloatKind.f32.format x) + absR (V FloatKind.f32.format y) = 22 / 10
          · exact ⟨22 / 10, by rw [e]; exact Rat.le_refl, by decide +kernel, by decide +kernel, fun _ _ => by decide +kernel⟩
          · exact ⟨_, hb, by decide +kernel, Rat.le_refl, fun h1 h2 => by exfalso; grind⟩
      obtain ⟨F, hF⟩ := seen_at fx fy hA hA0 hA1
      have hq : ∀ n, fin .f32 (F n).2 = true ∧ (F n).2 < 2 ^ 32 := fun n => by
        obtain ⟨_, _, _, _, _, _, b⟩ := hF n
        exact ⟨b.fq, b.lq⟩
      obtain ⟨i, hi, hb, hm⟩ := best_spec hq 8
      have HF := Lib.hid hF
      have HX := Lib.hid (And.intro fx fy)
      have HB := Lib.hid (show (bestAt F 9).1 = (i : Int) by rw [hb])
      cases hp : (FloatKind.f64.format.order (powV x y) 4607632778762754458 == some .gt)
      · obtain ⟨g1, g2⟩ := least_fact fx fy hp hA2 hF hq hm
        obtain ⟨p, q, hpq⟩ : ∃ p q, F i = (p, q) := ⟨_, _, rfl⟩
        have HS := HF.out i
        rw [hpq] at HS g1 g2
        have HS' := Lib.hid HS
        clear HS hpq hF hq hb hm hg hA hA0 hA1 hA2 fx fy
        go_wp2_with fail
        refine (implLeast_of HX.out.1 HX.out.2 HF.out _).mono ?_
        rw [HB.out]
        rintro z w2 ⟨rfl, C⟩
        have B2 := below_calm B1 B1.size C
        clear C B1
        go_wp2_with fail
        refine (specLeast_of HX.out.1 HX.out.2 HF.out _).mono ?_
        rw [HB.out]
        rintro z w3 ⟨rfl, C⟩
        have B3 := below_calm B2 B2.size C
        clear C B2
        go_wp2_with fail
        refine (implPower_any _ _ _).mono ?_
        rintro e w5 ⟨rfl, n2', rfl⟩
        have B4 := below_drewN B3 n2'
        clear B3
        go_wp2_with fail
        refine (implBeh_seen HX.out.1 HX.out.2 (by omega) HS'.out _).mono ?_
        rintro z w6 ⟨rfl, C⟩
        rw [numV_true]
        have B5 := below_calm B4 B4.size C
        clear C B4
        go_wp2_with fail
        go_ret
        exact ⟨rfl, B5⟩
      · clear hF hq hb hm hg hA hA0 hA1 hA2 fx fy
        go_wp2_with fail
        refine (implLeast_of HX.out.1 HX.out.2 HF.out _).mono ?_
        rw [HB.out]
        rintro z w2 ⟨rfl, C⟩
        have B2 := below_calm B1 B1.size C
        clear C B1
        go_wp2_with fail
        refine (specLeast_of HX.out.1 HX.out.2 HF.out _).mono ?_
        rw [HB.out]
        rintro z w3 ⟨rfl, C⟩
        have B3 := below_calm B2 B2.size C
        clear C B2
        go_wp2_with fail
        refine (implPower_any _ _ _).mono ?_
        rintro e w5 ⟨rfl, n2', rfl⟩
        have B4 := below_drewN B3 n2'
        clear B3
        go_wp2_with fail
        go_ret
        exact ⟨by simp; omega, B4⟩

end Go.Proofs.Ytdmacimafkiijaa
