/-
  The chain matrix of a line: its words, how near they come, and LineChain in the model.
-/
import Derived.Test.YtdmacimafkiijaaRun
import Derived.Test.YtdmacimafkiijaaCm
import Derived.Test.YtdmacimafkiijaaC3
namespace Go.Proofs.Ytdmacimafkiijaa
open Go.RowKit Fl

/-- What a line is made of: m for what it leaves, C and S for its turn, n for 1 divided by what runs along. -/
structure LineT (C S m n : Rat) : Prop where
  inv : n * (m * (C * C + S * S)) = 1
  m0 : 3 / 4 ≤ m
  m1 : m ≤ 1
  n0 : 1 ≤ n
  n1 : n ≤ 4 / 3
  u : Unit C S

theorem lineT_at {i : Nat} (hi : i < 16) {l : Int} (h0 : 0 ≤ l) (h1 : l ≤ 249) : ∃ n, LineT (V FloatKind.f32.format (tR i)) (V FloatKind.f32.format (tI i)) (V FloatKind.f32.format (milliB (1000 - l))) n := by
  obtain ⟨_, m1, m2⟩ := m_facts h0 (by omega)
  obtain ⟨_, _, _, _, m4⟩ := milli_spec (n := 1000 - l) (by omega) (by omega)
  have hl : (751 : Rat) ≤ ((1000 - l : Int) : Rat) := by simpa using rat_of_int (show 751 ≤ 1000 - l by omega)
  obtain ⟨_, _, _, u⟩ := unit_of hi
  generalize V FloatKind.f32.format (tR i) = C at *
  generalize V FloatKind.f32.format (tI i) = S at *
  generalize V FloatKind.f32.format (milliB (1000 - l)) = m at *
  have hm : 7505 / 10000 ≤ m := by grind
  have hu := u.ge
  have hu' := u.le
  generalize hU : C * C + S * S = U at *
  have k1 := Rat.mul_nonneg (show 0 ≤ m - 7505 / 10000 by grind) (show 0 ≤ U by grind)
  have k2 := Rat.mul_nonneg (show 0 ≤ m by grind) (show 0 ≤ 1 - U by grind)
  have hD : 3 / 4 ≤ m * U := by grind
  have hD1 : m * U ≤ 1 := by grind
  refine ⟨1 / (m * U), ?_, by grind, m1, ?_, ?_, u⟩
  · rw [hU]; exact Rat.div_mul_cancel (by grind)
  all_goals
    have hd : 1 / (m * U) * (m * U) = 1 := Rat.div_mul_cancel (by grind)
    generalize 1 / (m * U) = n at hd
    generalize m * U = D at *
  · rcases Rat.le_total (a := 1) (b := n) with g | g
    · exact g
    · by_cases he : n = 1
      · rw [he]; exact Rat.le_refl
      · exfalso
        have := Rat.mul_pos (show 0 < 1 - n by grind) (show 0 < D by grind)
        grind
  · rcases Rat.le_total (a := n) (b := 4 / 3) with g | g
    · exact g
    · by_cases he : n = 4 / 3
      · rw [he]; exact Rat.le_refl
      · exfalso
        have := Rat.mul_pos (show 0 < n - 4 / 3 by grind) (show 0 < D by grind)
        grind

/-- The words of a line's numbers. -/
structure Line (e f q1 q2 s1 s2 d1 d2 : Nat) (C S m n : Rat) : Prop where
  inv : ∀ (P : Program) (t : TypeId) (w : World), (binOp .quo t (.complex .f32 1065353216 0) (.complex .f32 e f)).run P w = .ok (.complex .f32 q1 q2) w
  a1 : AddOk q1 e
  a2 : AddOk q2 f
  b1 : SubOk q1 e
  b2 : SubOk q2 f
  hs : ∀ (P : Program) (t : TypeId) (w : World), (binOp .quo t (.complex .f32 (addB q1 e) (addB q2 f)) (.complex .f32 1073741824 0)).run P w = .ok (.complex .f32 s1 s2) w
  hd : ∀ (P : Program) (t : TypeId) (w : World), (binOp .quo t (.complex .f32 (subB q1 e) (subB q2 f)) (.complex .f32 1073741824 0)).run P w = .ok (.complex .f32 d1 d2) w
  np : Cm e f (m * C) (-(m * S)) (3 / 2 * p2 (-22))
  ns : Cm s1 s2 ((n + m) / 2 * C) ((n - m) / 2 * S) (22 / 10000000)
  nd : Cm d1 d2 ((n - m) / 2 * C) ((n + m) / 2 * S) (22 / 10000000)

theorem md_scale {C S a b A : Rat} (u : C * C + S * S ≤ 1) (ha : absR a ≤ A) (hb : absR b ≤ A) : Md (a * C) (b * S) A := by
  have h0 := ab_nonneg ha
  have s1 : a * a ≤ A * A := (absR_le.1 (ab_mul ha ha)).1
  have s2 : b * b ≤ A * A := (absR_le.1 (ab_mul hb hb)).1
  have c0 := sq_nonneg C
  have t0 := sq_nonneg S
  have m1 := Rat.mul_nonneg (show 0 ≤ A * A - a * a by grind) c0
  have m2 := Rat.mul_nonneg (show 0 ≤ A * A - b * b by grind) t0
  have m3 := Rat.mul_nonneg (show 0 ≤ A * A from Rat.mul_nonneg h0 h0) (show 0 ≤ 1 - (C * C + S * S) by grind)
  exact ⟨h0, by grind⟩

theorem one_cm : Cm 1065353216 0 1 0 0 := Cm.of (by decide) (by decide) (by decide +kernel) (by decide +kernel)
theorem two_cm : Cm 1073741824 0 2 0 0 := Cm.of (by decide) (by decide) (by decide +kernel) (by decide +kernel)
theorem p22_num : p2 (-22) = 1 / 4194304 ∧ p2 (-23) = 1 / 8388608 ∧ p2 (-60) ≤ 1 / 1000000000000 := ⟨by decide +kernel, by decide +kernel, by decide +kernel⟩

theorem Runs.cm {i : Nat} {l : Int} {e f : Nat} (r : Runs i l e f) : Cm e f (V FloatKind.f32.format (milliB (1000 - l)) * V FloatKind.f32.format (tR i)) (-(V FloatKind.f32.format (milliB (1000 - l)) * V FloatKind.f32.format (tI i))) (3 / 2 * p2 (-22)) :=
  ⟨r.fe, r.ff, Md.of r.ne r.nf⟩

theorem line_at {e f : Nat} {C S m n : Rat} (t : LineT C S m n) (hp : Cm e f (m * C) (-(m * S)) (3 / 2 * p2 (-22))) : ∃ q1 q2 s1 s2 d1 d2, Line e f q1 q2 s1 s2 d1 d2 C S m n := by
  obtain ⟨k22, k23, k60⟩ := p22_num
  have u := t.u
  have m0 := t.m0
  have m1 := t.m1
  have n0 := t.n0
  have n1 := t.n1
  have inv := t.inv
  have ule := u.le
  have uge := u.ge
  have mP : Md (m * C) (-(m * S)) 1 := (md_scale ule (a := m) (b := -m) (A := 1) (absR_le.2 ⟨by grind, by grind⟩) (absR_le.2 ⟨by grind, by grind⟩)).to rfl (by grind)
  have mQ : Md (n * C) (n * S) (4 / 3) := md_scale ule (absR_le.2 ⟨by grind, by grind⟩) (absR_le.2 ⟨by grind, by grind⟩)
  have mS : Md ((n + m) / 2 * C) ((n - m) / 2 * S) (7 / 6) := md_scale ule (absR_le.2 ⟨by grind, by grind⟩) (absR_le.2 ⟨by grind, by grind⟩)
  have mD : Md ((n - m) / 2 * C) ((n + m) / 2 * S) (7 / 6) := md_scale ule (absR_le.2 ⟨by grind, by grind⟩) (absR_le.2 ⟨by grind, by grind⟩)
  have big : (74 / 100 : Rat) * (74 / 100) ≤ m * C * (m * C) + -(m * S) * -(m * S) := by
    have k1 := Rat.mul_nonneg (show 0 ≤ m - 3 / 4 by grind) (show 0 ≤ m + 3 / 4 by grind)
    have k2 := Rat.mul_nonneg (show 0 ≤ m * m from Rat.mul_nonneg (by grind) (by grind)) (show 0 ≤ (C * C + S * S) - (1 - 1 / 10000000) by grind)
    grind
  obtain ⟨q1, q2, hq, nq⟩ := Cm.quo one_cm hp (U := n * C) (T := n * S) 1 1 (4 / 3) (74 / 100) (17 / 10000000) ⟨by decide +kernel, by decide +kernel⟩ mP mQ (by grind) (by grind) big (by decide +kernel) (by decide +kernel) (by rw [k22]; decide +kernel) (by rw [k22]; decide +kernel) (by rw [k22]; decide +kernel) (by decide +kernel)
  have two : ∀ x y : Rat, Md x y (7 / 6) → Md (2 * x) (2 * y) (7 / 3) := fun x y h => ((h.add h).to (by grind) (by grind)).le (by decide +kernel)
  obtain ⟨a1, a2, na⟩ := Cm.add nq hp (5 / 2) (26 / 10000000) (((two _ _ mS).to (by grind) (by grind)).le (by rw [k22]; decide +kernel)) (by grind) (by decide +kernel) (by rw [k22, k23]; decide +kernel)
  obtain ⟨b1, b2, nb⟩ := Cm.sub nq hp (5 / 2) (26 / 10000000) (((two _ _ mD).to (by grind) (by grind)).le (by rw [k22]; decide +kernel)) (by grind) (by decide +kernel) (by rw [k22, k23]; decide +kernel)
  have na' : Cm (addB q1 e) (addB q2 f) (2 * ((n + m) / 2 * C)) (2 * ((n - m) / 2 * S)) (26 / 10000000) := na.to (by grind) (by grind)
  have nb' : Cm (subB q1 e) (subB q2 f) (2 * ((n - m) / 2 * C)) (2 * ((n + m) / 2 * S)) (26 / 10000000) := nb.to (by grind) (by grind)
  obtain ⟨s1, s2, hs, ns⟩ := Cm.quo na' two_cm (U := (n + m) / 2 * C) (T := (n - m) / 2 * S) (7 / 3) 2 (7 / 6) 2 (22 / 10000000) (two _ _ mS) ⟨by decide +kernel, by decide +kernel⟩ mS (by grind) (by grind) (by decide +kernel) (by decide +kernel) (by decide +kernel) (by decide +kernel) (by decide +kernel) (by decide +kernel) (by decide +kernel)
  obtain ⟨d1, d2, hd, nd⟩ := Cm.quo nb' two_cm (U := (n - m) / 2 * C) (T := (n + m) / 2 * S) (7 / 3) 2 (7 / 6) 2 (22 / 10000000) (two _ _ mD) ⟨by decide +kernel, by decide +kernel⟩ mD (by grind) (by grind) (by decide +kernel) (by decide +kernel) (by decide +kernel) (by decide +kernel) (by decide +kernel) (by decide +kernel) (by decide +kernel)
  exact ⟨q1, q2, s1, s2, d1, d2, hq, a1, a2, b1, b2, hs, hd, hp, ns, nd⟩

@[go_sem] theorem drew_none (w : World) : w.drewN 0 = w := rfl

/-- The words of the whole matrix. -/
structure LineZ (x y s1 s2 d1 d2 b1 b2 c1 c2 : Nat) : Prop where
  mul : ∀ (P : Program) (t : TypeId) (w : World), (binOp .mul t (.complex .f32 x y) (.complex .f32 d1 d2)).run P w = .ok (.complex .f32 b1 b2) w
  quo : ∀ (P : Program) (t : TypeId) (w : World), (binOp .quo t (.complex .f32 d1 d2) (.complex .f32 x y)).run P w = .ok (.complex .f32 c1 c2) w
  f : finTwo s1 s2 b1 b2 c1 c2 s1 s2 = true
  nz : (fin .f32 x && fin .f32 y) = true
  n0 : (FloatKind.f32.format.order x 0 == some .eq && FloatKind.f32.format.order y 0 == some .eq) = false

set_option maxHeartbeats 1000000 in
theorem specLine_of {x y e f q1 q2 s1 s2 d1 d2 b1 b2 c1 c2 : Nat} {k l : Int} {C S m n : Rat} (h : okR k l = true) (hr : Runs (ti k) l e f) (hl : Line e f q1 q2 s1 s2 d1 d2 C S m n) (hz : LineZ x y s1 s2 d1 d2 b1 b2 c1 c2) (w : World) :
    Calls Try.prog 29 #[.complex .f32 x y, .int .i64 k, .int .i64 l] w fun z w' => z = .returned (.tuple #[twoV s1 s2 b1 b2 c1 c2 s1 s2, .bool true]) ∧ Calm w w' := by
  have HO := Lib.hid h
  have HR := Lib.hid hr
  have HF := Lib.hid hz.nz
  have HT := Lib.hid hz.f
  have h0 := hz.n0
  have m1 := hz.mul
  have m2 := hz.quo
  have m3 := hl.inv
  have m4 := hl.hs
  have m5 := hl.hd
  obtain ⟨a1, a1'⟩ := hl.a1
  obtain ⟨a2, a2'⟩ := hl.a2
  obtain ⟨b1', b1''⟩ := hl.b1
  obtain ⟨b2', b2''⟩ := hl.b2
  clear h hr hl hz
  go_enter Try.func29, Try.ntmps29
  go_wp2_with fail
  refine (specRuns_of HO.out HR.out _).mono ?_
  rintro z w1 ⟨rfl, C⟩
  rw [numV_true]
  have HC := Lib.hid (calm_trans (calm_new w _) C)
  have HR1 := Lib.hid ((Blk.new w 0 0 0 0 0 0 0 0).calm C)
  clear C
  go_wp2_with fail
  refine (specFinite_any _ _ _).mono ?_
  rw [HF.out]
  rintro z w2 ⟨rfl, n, hw⟩
  have HC2 := Lib.hid (show Calm w w2 by rw [hw]; exact grown_drewN HC.out n)
  have HR2 := Lib.hid (show Blk w2 w.heap.size 0 0 0 0 0 0 0 0 by rw [hw]; exact HR1.out.drewN n)
  clear hw HC HR1
  have q := HR2.out.lt
  go_wp2_with fail
  refine (specTwoOk_any _ _ _ _ _ _ _ _ _).mono ?_
  rw [HT.out]
  rintro z w3 ⟨rfl, C⟩
  have K := calm_trans (calm_allocR HC2.out _) C
  have M := (Blk.new w2 s1 s2 b1 b2 c1 c2 s1 s2).calm C
  have R := (HR2.out.alloc (.cells #[.complex .f32 s1 s2, .complex .f32 b1 b2, .complex .f32 c1 c2, .complex .f32 s1 s2] 47)).calm C
  have m0 := M.c0
  have m1' := M.c1
  have m2' := M.c2
  have m3' := M.c3
  have r0 := R.c0
  have r1 := R.c1
  have r2 := R.c2
  have r3 := R.c3
  have q0 := R.fr 0
  have q1' := R.fr 1
  have q2' := R.fr 2
  have q3 := R.fr 3
  have HM := Lib.hid M
  have HRR := Lib.hid R
  have HK := Lib.hid K
  clear C M R K HC2 HR2
  go_wp2_with fail
  refine bodyPost_ret (results_two_tmp rfl _ rfl ((((HRR.out.s0 _ _).s1 _ _).s2 _ _).s3 _ _)) rfl ?_
  exact ⟨rfl, calm_set4 HK.out (Nat.le_refl _) _ _ _ _⟩

set_option maxHeartbeats 1000000 in
/-- No chain matrix: what runs along is not told, or the impedance is not finite, or it is 0. -/
theorem specLine_no {x y : Nat} {k l : Int} (h : (okR k l && (fin .f32 x && fin .f32 y) && !(FloatKind.f32.format.order x 0 == some .eq && FloatKind.f32.format.order y 0 == some .eq)) = false) (w : World) :
    Calls Try.prog 29 #[.complex .f32 x y, .int .i64 k, .int .i64 l] w fun z w' => z = .returned (.tuple #[twoV 0 0 0 0 0 0 0 0, .bool false]) ∧ Calm w w' := by
  cases ho : okR k l
  · have HO := Lib.hid ho
    clear ho h
    go_enter Try.func29, Try.ntmps29
    go_wp2_with fail
    refine (specRuns_no HO.out _).mono ?_
    rintro z w1 ⟨rfl, C⟩
    rw [numV_false]
    have HC := Lib.hid (calm_trans (calm_new w _) C)
    have R := (Blk.new w 0 0 0 0 0 0 0 0).calm C
    have HR := Lib.hid R
    have q0 := R.fr 0
    have q1 := R.fr 1
    have q2 := R.fr 2
    have q3 := R.fr 3
    have r0 := R.c0
    have r1 := R.c1
    have r2 := R.c2
    have r3 := R.c3
    clear C R
    go_wp2_with fail
    refine bodyPost_ret (results_two_tmp rfl _ rfl ((((HR.out.s0 _ _).s1 _ _).s2 _ _).s3 _ _)) rfl ?_
    exact ⟨rfl, calm_set4 HC.out (Nat.le_refl _) _ _ _ _⟩
  · obtain ⟨_, l0, l1⟩ := okR_iff.1 ho
    obtain ⟨e, f, r⟩ := runs_at (ti_lt k) l0 l1
    have HO := Lib.hid ho
    have HRR := Lib.hid r
    rw [ho, Bool.true_and] at h
    clear ho r
    obtain ⟨β, hβ⟩ : ∃ β, (fin .f32 x && fin .f32 y) = β := ⟨_, rfl⟩
    rw [hβ] at h
    have HB := Lib.hid hβ
    clear hβ
    go_enter Try.func29, Try.ntmps29
    go_wp2_with fail
    refine (specRuns_of HO.out HRR.out _).mono ?_
    rintro z w1 ⟨rfl, C⟩
    rw [numV_true]
    have HC := Lib.hid (calm_trans (calm_new w _) C)
    have HR1 := Lib.hid ((Blk.new w 0 0 0 0 0 0 0 0).calm C)
    clear C
    go_wp2_with fail
    refine (specFinite_any _ _ _).mono ?_
    rw [HB.out]
    rintro z w2 ⟨rfl, n, hw⟩
    have HC2 := Lib.hid (show Calm w w2 by rw [hw]; exact grown_drewN HC.out n)
    have R : Blk w2 w.heap.size 0 0 0 0 0 0 0 0 := by rw [hw]; exact HR1.out.drewN n
    have HR := Lib.hid R
    have q0 := R.fr 0
    have q1 := R.fr 1
    have q2 := R.fr 2
    have q3 := R.fr 3
    have r0 := R.c0
    have r1 := R.c1
    have r2 := R.c2
    have r3 := R.c3
    clear hw HC HR1 R
    cases β
    · clear h
      go_wp2_with fail
      refine bodyPost_ret (results_two_tmp rfl _ rfl ((((HR.out.s0 _ _).s1 _ _).s2 _ _).s3 _ _)) rfl ?_
      exact ⟨rfl, calm_set4 HC2.out (Nat.le_refl _) _ _ _ _⟩
    · have hz : (FloatKind.f32.format.order x 0 == some .eq && FloatKind.f32.format.order y 0 == some .eq) = true := by
        rw [Bool.true_and] at h
        simpa using h
      clear h
      go_wp2_with fail
      refine bodyPost_ret (results_two_tmp rfl _ rfl ((((HR.out.s0 _ _).s1 _ _).s2 _ _).s3 _ _)) rfl ?_
      exact ⟨rfl, calm_set4 HC2.out (Nat.le_refl _) _ _ _ _⟩

end Go.Proofs.Ytdmacimafkiijaa
