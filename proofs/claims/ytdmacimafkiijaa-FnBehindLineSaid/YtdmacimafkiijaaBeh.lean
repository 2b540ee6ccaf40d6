/-
  What is reflected behind a line, in the program and in the model.
-/
import Derived.Test.YtdmacimafkiijaaWRunsAlong
import Derived.Test.YtdmacimafkiijaaBehD
namespace Go.Proofs.Ytdmacimafkiijaa
open Go.RowKit Fl

/-- What runs along and itself, multiplied. -/
structure Twice (e f t u : Nat) : Prop where
  mul : ∀ (P : Program) (T : TypeId) (w : World), (binOp .mul T (.complex .f32 e f) (.complex .f32 e f)).run P w = .ok (.complex .f32 t u) w
  ft : fin .f32 t = true
  fu : fin .f32 u = true
  nt : absR (V FloatKind.f32.format t - (V FloatKind.f32.format e * V FloatKind.f32.format e - V FloatKind.f32.format f * V FloatKind.f32.format f)) ≤ 2 * p2 (-22)
  nu : absR (V FloatKind.f32.format u - (V FloatKind.f32.format e * V FloatKind.f32.format f + V FloatKind.f32.format f * V FloatKind.f32.format e)) ≤ 2 * p2 (-22)
  bt : absR (V FloatKind.f32.format t) ≤ 1001 / 1000
  bu : absR (V FloatKind.f32.format u) ≤ 1001 / 1000

theorem runs_sq {i : Nat} (hi : i < 16) {l : Int} (h0 : 0 ≤ l) (h1 : l ≤ 500) {e f : Nat} (r : Runs i l e f) :
    V FloatKind.f32.format e * V FloatKind.f32.format e + V FloatKind.f32.format f * V FloatKind.f32.format f ≤ 1000001 / 1000000 := by
  obtain ⟨_, m1, m2⟩ := m_facts h0 h1
  obtain ⟨_, _, _, u⟩ := unit_of hi
  obtain ⟨k1, _⟩ := power_near u (by grind) m1 (by decide +kernel) r.ne r.nf
  have hb : (1 : Rat) + 3 * p2 (-22) + 2 * (p2 (-22) * p2 (-22)) ≤ 1000001 / 1000000 := by decide +kernel
  grind

theorem twice_at {i : Nat} (hi : i < 16) {l : Int} (h0 : 0 ≤ l) (h1 : l ≤ 500) {e f : Nat} (r : Runs i l e f) : ∃ t u, Twice e f t u := by
  have hs := runs_sq hi h0 h1 r
  have e0 := sq_nonneg (V FloatKind.f32.format e)
  have f0 := sq_nonneg (V FloatKind.f32.format f)
  have p0 := sq_nonneg (V FloatKind.f32.format e + V FloatKind.f32.format f)
  have q0 := sq_nonneg (V FloatKind.f32.format e - V FloatKind.f32.format f)
  have b1 : absR (V FloatKind.f32.format e * V FloatKind.f32.format e - V FloatKind.f32.format f * V FloatKind.f32.format f) ≤ 1000001 / 1000000 := absR_le.2 ⟨by grind, by grind⟩
  have b2 : absR (V FloatKind.f32.format e * V FloatKind.f32.format f + V FloatKind.f32.format f * V FloatKind.f32.format e) ≤ 1000001 / 1000000 := absR_le.2 ⟨by grind, by grind⟩
  obtain ⟨t, u, hm, ft, fu, nt, nu, _, _⟩ := cmul_gen (A := 1000001 / 1000000) r.fe r.ff r.fe r.ff (by decide +kernel) (by decide +kernel) b1 b2
  have hc : (1000001 : Rat) / 1000000 * p2 (-22) ≤ 2 * p2 (-22) := by decide +kernel
  have hd : (1000001 : Rat) / 1000000 + 2 * p2 (-22) ≤ 1001 / 1000 := by decide +kernel
  have nt := ab_le nt hc
  have nu := ab_le nu hc
  exact ⟨t, u, hm, ft, fu, nt, nu, ab_le (near_le nt b1) hd, ab_le (near_le nu b2) hd⟩

/-- What is seen behind the line. -/
structure Beh (t u x y p q : Nat) (A : Rat) : Prop where
  mul : ∀ (P : Program) (T : TypeId) (w : World), (binOp .mul T (.complex .f32 t u) (.complex .f32 x y)).run P w = .ok (.complex .f32 p q) w
  fp : fin .f32 p = true
  fq : fin .f32 q = true
  np : absR (V FloatKind.f32.format p - (V FloatKind.f32.format t * V FloatKind.f32.format x - V FloatKind.f32.format u * V FloatKind.f32.format y)) ≤ A * p2 (-22)
  nq : absR (V FloatKind.f32.format q - (V FloatKind.f32.format t * V FloatKind.f32.format y + V FloatKind.f32.format u * V FloatKind.f32.format x)) ≤ A * p2 (-22)
  lq : q < 2 ^ 32
  bq : absR (V FloatKind.f32.format q) ≤ top32

theorem beh_at {t u x y : Nat} (ft : fin .f32 t = true) (fu : fin .f32 u = true) (bt : absR (V FloatKind.f32.format t) ≤ 1001 / 1000) (bu : absR (V FloatKind.f32.format u) ≤ 1001 / 1000) (fx : fin .f32 x = true) (fy : fin .f32 y = true)
    {A : Rat} (hA : absR (V FloatKind.f32.format x) + absR (V FloatKind.f32.format y) ≤ A) (h0 : 1 ≤ A) (h1 : A ≤ 319000000000000000000000000000000000000) : ∃ p q, Beh t u x y p q (1001 / 1000 * A) := by
  have x0 := absR_nonneg (V FloatKind.f32.format x)
  have y0 := absR_nonneg (V FloatKind.f32.format y)
  have a1 := ab_mul bt (ab_le (A := absR (V FloatKind.f32.format x)) Rat.le_refl Rat.le_refl)
  have a2 := ab_mul bu (ab_le (A := absR (V FloatKind.f32.format y)) Rat.le_refl Rat.le_refl)
  have a3 := ab_mul bt (ab_le (A := absR (V FloatKind.f32.format y)) Rat.le_refl Rat.le_refl)
  have a4 := ab_mul bu (ab_le (A := absR (V FloatKind.f32.format x)) Rat.le_refl Rat.le_refl)
  have b1 := ab_add a1 (ab_neg a2)
  have b2 := ab_add a3 a4
  rw [← Rat.sub_eq_add_neg] at b1
  have z : p2 (-60) ≤ 1 := by decide +kernel
  have b2' := ab_le b2 (show 1001 / 1000 * absR (V FloatKind.f32.format y) + 1001 / 1000 * absR (V FloatKind.f32.format x) ≤ 1001 / 1000 * A by grind)
  obtain ⟨p, q, hm, fp, fq, np, nq, _, lq⟩ := cmul_gen (A := 1001 / 1000 * A) ft fu fx fy (by grind) (by grind) (ab_le b1 (by grind)) b2'
  have hp : p2 (-22) ≤ 1 / 1000 := by decide +kernel
  have k := Rat.mul_le_mul_of_nonneg_left hp (show 0 ≤ 1001 / 1000 * A by grind)
  refine ⟨p, q, hm, fp, fq, np, nq, lq, ab_le (near_le nq b2') ?_⟩
  unfold top32
  grind

set_option maxHeartbeats 1000000 in
theorem specBeh_no {x y : Nat} {k l : Int} (h : (okR k l && (fin .f32 x && fin .f32 y)) = false) (w : World) :
    Calls Try.prog 40 #[.complex .f32 x y, .int .i64 k, .int .i64 l] w fun z w' => z = .returned (numV false 0 0) ∧ Calm w w' := by
  cases ho : okR k l
  · have HO := Lib.hid ho
    clear ho h
    go_enter Try.func40, Try.ntmps40
    go_wp2_with fail
    refine (specRuns_no HO.out _).mono ?_
    rintro z w1 ⟨rfl, C⟩
    rw [numV_false]
    go_wp2_with fail
    go_ret2
    exact ⟨rfl, C⟩
  · rw [ho, Bool.true_and] at h
    obtain ⟨_, l0, l1⟩ := okR_iff.1 ho
    obtain ⟨e, f, r⟩ := runs_at (ti_lt k) l0 l1
    have HO := Lib.hid ho
    have HR := Lib.hid r
    have HF := Lib.hid h
    clear ho h r
    go_enter Try.func40, Try.ntmps40
    go_wp2_with fail
    refine (specRuns_of HO.out HR.out _).mono ?_
    rintro z w1 ⟨rfl, C⟩
    rw [numV_true]
    go_wp2_with fail
    refine (specFinite_any _ _ _).mono ?_
    rw [HF.out]
    rintro z w2 ⟨rfl, n, rfl⟩
    go_wp2_with fail
    go_ret2
    exact ⟨rfl, grown_drewN C _⟩

set_option maxHeartbeats 1000000 in
theorem specBeh_of {x y e f t u p q : Nat} {k l : Int} {A : Rat} (ho : okR k l = true) (fx : fin .f32 x = true) (fy : fin .f32 y = true) (r : Runs (ti k) l e f) (tw : Twice e f t u) (b : Beh t u x y p q A) (w : World) :
    Calls Try.prog 40 #[.complex .f32 x y, .int .i64 k, .int .i64 l] w fun z w' => z = .returned (numV true p q) ∧ Calm w w' := by
  have HO := Lib.hid ho
  have HR := Lib.hid r
  have HF := Lib.hid (show (fin .f32 x && fin .f32 y) = true by rw [fx, fy]; rfl)
  have HP := Lib.hid (show (fin .f32 p && fin .f32 q) = true by rw [b.fp, b.fq]; rfl)
  have m1 := tw.mul
  have m2 := b.mul
  clear ho r fx fy tw b
  go_enter Try.func40, Try.ntmps40
  go_wp2_with fail
  refine (specRuns_of HO.out HR.out _).mono ?_
  rintro z w1 ⟨rfl, C⟩
  rw [numV_true]
  go_wp2_with fail
  refine (specFinite_any _ _ _).mono ?_
  rw [HF.out]
  rintro z w2 ⟨rfl, n, rfl⟩
  go_wp2_with fail
  refine (specFinite_any _ _ _).mono ?_
  rw [HP.out]
  rintro z w3 ⟨rfl, n2, rfl⟩
  go_wp2_with fail
  go_ret2
  exact ⟨rfl, grown_drewN C _⟩

/-- A product that is told, of numbers of which the product is known. -/
theorem implProduct_run {a b c d e f : Nat} (ha : fin .f32 a = true) (hb : fin .f32 b = true) (hc : fin .f32 c = true) (hd : fin .f32 d = true) (he : fin .f32 e = true) (hf : fin .f32 f = true)
    (hm : ∀ (P : Program) (t : TypeId) (w : World), (binOp .mul t (.complex .f32 a b) (.complex .f32 c d)).run P w = .ok (.complex .f32 e f) w) (w : World) :
    Calls Try.prog 58 #[.complex .f32 a b, .complex .f32 c d] w fun z w' => z = .returned (numV true e f) ∧ ∃ n, w' = w.drewN n := implProduct_of ha hb hc hd he hf hm w

set_option maxHeartbeats 1000000 in
/-- A product of which one number is not finite. -/
theorem implProduct_no {a b c d : Nat} (h : ((fin .f32 a && fin .f32 b) && (fin .f32 c && fin .f32 d)) = false) (w : World) :
    Calls Try.prog 58 #[.complex .f32 a b, .complex .f32 c d] w fun z w' => z = .returned (numV false 0 0) ∧ ∃ n, w' = w.drewN n := by
  cases h1 : (fin .f32 a && fin .f32 b)
  · have H1 := Lib.hid h1
    clear h1 h
    go_enter Try.func58, Try.ntmps58
    go_wp2_with fail
    refine (implFinite_any _ _ _).mono ?_
    rw [H1.out]
    rintro z w1 ⟨rfl, n, rfl⟩
    go_wp2_with fail
    go_ret2
    exact ⟨rfl, _, rfl⟩
  · rw [h1, Bool.true_and] at h
    have H1 := Lib.hid h1
    have H2 := Lib.hid h
    clear h1 h
    go_enter Try.func58, Try.ntmps58
    go_wp2_with fail
    refine (implFinite_any _ _ _).mono ?_
    rw [H1.out]
    rintro z w1 ⟨rfl, n, rfl⟩
    go_wp2_with fail
    refine (implFinite_any _ _ _).mono ?_
    rw [H2.out]
    rintro z w1 ⟨rfl, n2, rfl⟩
    go_wp2_with fail
    go_ret2
    exact ⟨rfl, _, rfl⟩

end Go.Proofs.Ytdmacimafkiijaa
