/-
  The walks of FnRunsAlong and of FnExactRunsAlong: they answer true.
-/
import Derived.Test.YtdmacimafkiijaaRun
import Derived.Test.YtdmacimafkiijaaCalc
import Derived.Test.YtdmacimafkiijaaRefl
namespace Go.Proofs.Ytdmacimafkiijaa
open Go.RowKit Fl

set_option maxHeartbeats 1000000 in
theorem drawRunsAlong_any {a : Option Addr} {len cap : Nat} {zs : List Int} {w : World} (h : IsRow .u8 w a len cap zs) :
    Calls Try.prog 24 #[.slice a len cap] w (Got (fun v => ∃ k l, v = .tuple #[.int .i64 k, .int .i64 l] ∧ (-50 ≤ k ∧ k < 40) ∧ 0 ≤ l ∧ l ≤ 398) w) := by
  go_enter Try.func24, Try.ntmps24
  go_wp2_with fail
  refine (open_any h).mono ?_
  rintro e w1 ⟨b, a1, len1, cap1, rfl, R1, hb, B1⟩
  go_wp2_with fail
  refine (pick_any R1 (by omega) (by omega) (by omega)).mono ?_
  rintro e w2 ⟨x, m2, p0, p1, rfl, hw2⟩
  have R2 : Rd w2 b a1 len1 cap1 (0 + 1) := by rw [hw2]; exact R1.step m2
  have B2 : Below w.heap.size w w2 := by rw [hw2]; exact below_drawn B1 hb B1.size (step_grown ..)
  clear hw2 R1 B1
  go_wp2_with fail
  refine (pick_any R2 (by omega) (by omega) (by omega)).mono ?_
  rintro e w3 ⟨y, m3, y0, y1, rfl, hw3⟩
  have R3 : Rd w3 b a1 len1 cap1 (0 + 1 + 1) := by rw [hw3]; exact R2.step m3
  have B3 : Below w.heap.size w w3 := by rw [hw3]; exact below_drawn B2 hb B2.size (step_grown ..)
  clear hw3 R2 B2
  go_wp2_with fail
  refine (pick_any R3 (by omega) (by omega) (by omega)).mono ?_
  rintro e w4 ⟨u, m4, u0, u1, rfl, hw4⟩
  have R4 : Rd w4 b a1 len1 cap1 (0 + 1 + 1 + 1) := by rw [hw4]; exact R3.step m4
  have B4 : Below w.heap.size w w4 := by rw [hw4]; exact below_drawn B3 hb B3.size (step_grown ..)
  clear hw4 R3 B3
  go_wp2_with fail
  refine (pick_any R4 (by omega) (by omega) (by omega)).mono ?_
  rintro e w5 ⟨v, m5, v0, v1, rfl, hw5⟩
  have B5 : Below w.heap.size w w5 := by rw [hw5]; exact below_drawn B4 hb B4.size (step_grown ..)
  clear hw5 R4 B4
  have hu : u = 0 ∨ u = 1 ∨ u = 2 := by omega
  rcases hu with rfl | rfl | rfl
  all_goals
    go_wp2_with fail
    go_ret2
    exact ⟨_, ⟨_, _, rfl, by omega, by omega, by omega⟩, rfl, B5⟩

theorem power_near {m C S E F η : Rat} (u : Unit C S) (m0 : 0 ≤ m) (m1 : m ≤ 1) (hη : 0 ≤ η) (he : absR (E - m * C) ≤ η) (hf : absR (F - -(m * S)) ≤ η) :
    E * E + F * F ≤ 1 + 3 * η + 2 * (η * η) ∧ m * m * (1 - 1 / 10000000) - 3 * η ≤ E * E + F * F := by
  have hm : absR m ≤ 1 := absR_le.2 ⟨m1, by grind⟩
  have e0 : E * E + F * F = m * m * (C * C + S * S) + 2 * (m * (C * (E - m * C) + -(S * (F - -(m * S))))) + ((E - m * C) * (E - m * C) + (F - -(m * S)) * (F - -(m * S))) := by grind
  generalize E - m * C = a at *
  generalize F - -(m * S) = b at *
  have t1 := ab_mul (ab_le (A := absR C) Rat.le_refl Rat.le_refl) he
  have t2 := ab_neg (ab_mul (ab_le (A := absR S) Rat.le_refl Rat.le_refl) hf)
  have t3 := ab_mul hm (ab_add t1 t2)
  have c0 := Rat.mul_nonneg (show 0 ≤ 3 / 2 - (absR C + absR S) by have := u.cs; grind) hη
  have t4 : absR (m * (C * a + -(S * b))) ≤ 3 / 2 * η := ab_le t3 (by grind)
  obtain ⟨t5, t6⟩ := absR_le.1 t4
  have s1 := (ab_sq he).2
  have s2 := (ab_sq hf).2
  have s3 := sq_nonneg a
  have s4 := sq_nonneg b
  have mm0 := Rat.mul_nonneg m0 m0
  have mm1 := Rat.mul_nonneg m0 (show 0 ≤ 1 - m by grind)
  have mm2 := Rat.mul_nonneg mm0 (show 0 ≤ 1 - (C * C + S * S) by have := u.le; grind)
  have mm3 := Rat.mul_nonneg mm0 (show 0 ≤ (C * C + S * S) - (1 - 1 / 10000000) by have := u.ge; grind)
  rw [e0]
  constructor <;> grind

/-- The power of what runs along a line. -/
theorem runs_power {i : Nat} (hi : i < 16) {l : Int} (h0 : 0 ≤ l) (h1 : l ≤ 398) {e f : Nat} (r : Runs i l e f) :
    (FloatKind.f64.format.order (powV e f) 4607182423303617035 == some .lt || FloatKind.f64.format.order (powV e f) 4607182423303617035 == some .eq) = true ∧
    (FloatKind.f64.format.order (powV e f) 4598139190748257452 == some .gt || FloatKind.f64.format.order (powV e f) 4598139190748257452 == some .eq) = true := by
  obtain ⟨_, m1, m2⟩ := m_facts h0 (by omega)
  obtain ⟨_, _, m3, _, m4⟩ := milli_spec (n := 1000 - l) (by omega) (by omega)
  have hl : (602 : Rat) ≤ ((1000 - l : Int) : Rat) := by simpa using rat_of_int (show 602 ≤ 1000 - l by omega)
  obtain ⟨_, _, _, u⟩ := unit_of hi
  have hp : powV e f = pW e f := by unfold powV; rw [r.fe, r.ff]; rfl
  obtain ⟨p1, p2', p3⟩ := pW_spec r.fe r.ff
  obtain ⟨k1, k2⟩ := power_near u (by grind) m1 (by decide +kernel) r.ne r.nf
  have mm := Rat.mul_nonneg (show 0 ≤ V FloatKind.f32.format (milliB (1000 - l)) - 6 / 10 by grind) (show 0 ≤ V FloatKind.f32.format (milliB (1000 - l)) + 6 / 10 by grind)
  rw [hp]
  constructor
  · rw [le_walk p2' (fin_num.1 (by decide : fin .f64 4607182423303617035 = true))]
    have hb : (1 : Rat) + 3 * p2 (-22) + 2 * (p2 (-22) * p2 (-22)) ≤ V FloatKind.f64.format 4607182423303617035 := by decide +kernel
    simpa using rndV_le p3 (has_V _ _) (by grind)
  · rw [ge_walk' p2' (fin_num.1 (by decide : fin .f64 4598139190748257452 = true))]
    have hb : V FloatKind.f64.format 4598139190748257452 ≤ (36 : Rat) / 100 * (1 - 1 / 10000000) - 3 * p2 (-22) := by decide +kernel
    simpa using rndV_ge p3 (has_V _ _) (by grind)

theorem full_words : pMul (milliB (1000 - 0)) 0 (tR 0) (Op.negFloat .f32 (tI 0)) = some (1065353216, 0) := by decide +kernel

theorem full_run : Runs 0 0 1065353216 0 := by
  obtain ⟨e, f, r⟩ := runs_at (i := 0) (by decide) (l := 0) (by decide) (by decide)
  have h := run_pMul (by decide +kernel) (by decide +kernel) (by decide +kernel) (by decide +kernel) full_words
  exact ⟨h, by decide, by decide, by decide +kernel, by decide +kernel⟩

set_option maxHeartbeats 1000000 in
theorem FnRunsAlong_walk (a : Option Addr) (len cap : Nat) (zs : List Int) (w : World) (h : IsRow .u8 w a len cap zs) :
    Calls Try.prog 5 #[.slice a len cap] w fun e w' => e = .returned (.bool true) ∧ Below w.heap.size w w' := by
  by_cases hl : (1048576 : Int) < (len : Int)
  · go_enter Try.func5, Try.ntmps5
    go_wp2_with fail
    go_ret
    exact ⟨rfl, Below.refl _ _⟩
  · go_enter Try.func5, Try.ntmps5
    go_wp2_with fail
    refine (drawRunsAlong_any h).mono ?_
    rintro e w1 ⟨v, ⟨k, l, rfl, hk, hl0, hl1⟩, rfl, B1⟩
    clear h
    cases ho : okR k l
    · go_wp2_with fail
      refine (implRuns_no ho _).mono ?_
      rintro e w2 ⟨rfl, C⟩
      rw [numV_false]
      have B2 := below_calm B1 B1.size C
      clear C B1
      go_wp2_with fail
      refine (specRuns_no ho _).mono ?_
      rintro e w3 ⟨rfl, C⟩
      rw [numV_false]
      have B3 := below_calm B2 B2.size C
      clear C B2
      go_wp2_with fail
      refine (sameBits_same _ _ _).mono ?_
      rintro e w4 ⟨rfl, n, rfl⟩
      go_wp2_with fail
      refine (alive_any _).mono ?_
      rintro e w4 ⟨rfl, rfl⟩
      go_wp2_with fail
      go_ret
      exact ⟨rfl, below_drewN B3 _⟩
    · obtain ⟨p, q, r⟩ := runs_at (ti_lt k) hl0 (by omega)
      obtain ⟨g1, g2⟩ := runs_power (ti_lt k) hl0 hl1 r
      have HO := Lib.hid ho
      have HR := Lib.hid r
      clear r ho
      go_wp2_with fail
      refine (implRuns_of HO.out HR.out _).mono ?_
      rintro e w2 ⟨rfl, C⟩
      rw [numV_true]
      have B2 := below_calm B1 B1.size C
      clear C B1
      go_wp2_with fail
      refine (specRuns_of HO.out HR.out _).mono ?_
      rintro e w3 ⟨rfl, C⟩
      rw [numV_true]
      have B3 := below_calm B2 B2.size C
      clear C B2
      go_wp2_with fail
      refine (sameBits_same _ _ _).mono ?_
      rintro e w4 ⟨rfl, n, rfl⟩
      go_wp2_with fail
      refine (implPower_any _ _ _).mono ?_
      rintro e w5 ⟨rfl, n2', rfl⟩
      have B4 := below_drewN B3 (n + n2')
      clear B3
      go_wp2_with fail
      refine (implRuns_of (k := 16) (l := 0) (by decide) full_run _).mono ?_
      rintro e w6 ⟨rfl, C⟩
      rw [numV_true]
      have B5 := below_calm B4 B4.size C
      clear C B4
      go_wp2_with fail
      go_ret
      exact ⟨rfl, B5⟩

set_option maxHeartbeats 1000000 in
theorem FnExactRunsAlong_walk (k l : Int) (_w0 : (Lit.int .i64 k).wf = true) (_w1 : (Lit.int .i64 l).wf = true) (w : World) :
    Calls Try.prog 11 #[.int .i64 k, .int .i64 l] w fun e w' => e = .returned (.bool true) ∧ Below w.heap.size w w' := by
  cases ho : okR k l
  · have hc := widen_walk (a := 0) (b := 0) (by decide) (by decide)
    go_enter Try.func11, Try.ntmps11
    go_wp2_with fail
    refine (specRuns_no ho _).mono ?_
    rintro e w1 ⟨rfl, C⟩
    rw [numV_false]
    have B1 := below_calm (Below.refl w.heap.size w) (Nat.le_refl _) C
    clear C
    go_wp2_with fail
    refine (implRuns_no ho _).mono ?_
    rintro e w2 ⟨rfl, C⟩
    rw [numV_false]
    have B2 := below_calm B1 B1.size C
    clear C B1
    go_wp2_with fail
    refine (sameComplex_same _ _ _).mono ?_
    rintro e w3 ⟨rfl, n, rfl⟩
    go_wp2_with fail
    go_ret
    exact ⟨rfl, below_drewN B2 _⟩
  · obtain ⟨_, l0, l1⟩ := okR_iff.1 ho
    obtain ⟨p, q, r⟩ := runs_at (ti_lt k) l0 l1
    have hc := widen_walk r.fe r.ff
    have HO := Lib.hid ho
    have HR := Lib.hid r
    clear r ho
    go_enter Try.func11, Try.ntmps11
    go_wp2_with fail
    refine (specRuns_of HO.out HR.out _).mono ?_
    rintro e w1 ⟨rfl, C⟩
    rw [numV_true]
    have B1 := below_calm (Below.refl w.heap.size w) (Nat.le_refl _) C
    clear C
    go_wp2_with fail
    refine (implRuns_of HO.out HR.out _).mono ?_
    rintro e w2 ⟨rfl, C⟩
    rw [numV_true]
    have B2 := below_calm B1 B1.size C
    clear C B1
    go_wp2_with fail
    refine (sameComplex_same _ _ _).mono ?_
    rintro e w3 ⟨rfl, n, rfl⟩
    go_wp2_with fail
    go_ret
    exact ⟨rfl, below_drewN B2 _⟩

end Go.Proofs.Ytdmacimafkiijaa
