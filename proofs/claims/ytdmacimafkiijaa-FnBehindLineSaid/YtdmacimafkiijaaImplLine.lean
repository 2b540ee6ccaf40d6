/-
  LineChain in the program.
-/
import Derived.Test.YtdmacimafkiijaaLine
import Derived.Test.YtdmacimafkiijaaBeh
import Derived.Test.YtdmacimafkiijaaRefI
namespace Go.Proofs.Ytdmacimafkiijaa
open Go.RowKit Fl

theorem line_words {e f q1 q2 s1 s2 d1 d2 : Nat} {C S m n : Rat} (hl : Line e f q1 q2 s1 s2 d1 d2 C S m n) : (fin .f32 s1 && fin .f32 s2) = true ∧ (fin .f32 d1 && fin .f32 d2) = true := by
  rw [hl.ns.1, hl.ns.2.1, hl.nd.1, hl.nd.2.1]
  exact ⟨rfl, rfl⟩

/-- Beyond what runs along it, the whole of LineChain: the product and the quotient tell something. -/
structure LineQ (x y d1 d2 : Nat) (v1 v2 : Value) : Prop where
  p : ∀ w : World, Calls Try.prog 58 #[.complex .f32 x y, .complex .f32 d1 d2] w fun z w' => z = .returned v1 ∧ ∃ n, w' = w.drewN n
  q : ∀ w : World, Calls Try.prog 63 #[.complex .f32 d1 d2, .complex .f32 x y] w fun z w' => z = .returned v2 ∧ ∃ n, w' = w.drewN n

theorem lineQ_of {x y s1 s2 d1 d2 b1 b2 c1 c2 : Nat} (hd : (fin .f32 d1 && fin .f32 d2) = true) (hz : LineZ x y s1 s2 d1 d2 b1 b2 c1 c2) : LineQ x y d1 d2 (.tuple #[.complex .f32 b1 b2, .bool true]) (.tuple #[.complex .f32 c1 c2, .bool true]) := by
  have hf := hz.f
  unfold finTwo at hf
  simp only [Bool.and_eq_true] at hf
  obtain ⟨⟨⟨_, fb1, fb2⟩, fc1, fc2⟩, _⟩ := hf
  have hx := hz.nz
  have hx2 := hx
  have hd2 := hd
  simp only [Bool.and_eq_true] at hx2 hd2
  have h0 := hz.n0
  refine ⟨implProduct_of hx2.1 hx2.2 hd2.1 hd2.2 fb1 fb2 hz.mul, implQuotient_of hd hx ?_ hz.quo fc1 fc2⟩
  rintro ⟨o1, o2⟩
  rw [o1, o2] at h0
  simp at h0

/-- Where the impedance is not finite, or 0, the quotient tells nothing. -/
theorem lineQ_no {x y d1 d2 : Nat} (hd : (fin .f32 d1 && fin .f32 d2) = true) (h : ((fin .f32 x && fin .f32 y) && !(FloatKind.f32.format.order x 0 == some .eq && FloatKind.f32.format.order y 0 == some .eq)) = false) :
    ∃ e f β, LineQ x y d1 d2 (.tuple #[.complex .f32 e f, .bool β]) (.tuple #[.complex .f32 0 0, .bool false]) := by
  have hd2 := hd
  simp only [Bool.and_eq_true] at hd2
  cases hx : (fin .f32 x && fin .f32 y)
  · exact ⟨0, 0, false, implProduct_no (by rw [hx]; rfl), implQuotient_none (.inr ⟨hd, .inl hx⟩)⟩
  · rw [hx, Bool.true_and] at h
    have ho : (FloatKind.f32.format.order x 0 == some .eq && FloatKind.f32.format.order y 0 == some .eq) = true := by simpa using h
    have hx2 := hx
    simp only [Bool.and_eq_true] at hx2 ho
    have vx := ho.1
    have vy := ho.2
    rw [eq_walk (fin_num.1 hx2.1) zero32.1, zero32.2] at vx
    rw [eq_walk (fin_num.1 hx2.2) zero32.1, zero32.2] at vy
    simp only [decide_eq_true_eq] at vx vy
    obtain ⟨z, z'⟩ : absR (0 - 0) ≤ (1 : Rat) ∧ absR (0 + 0) ≤ (1 : Rat) := ⟨by decide +kernel, by decide +kernel⟩
    obtain ⟨e, f, hm, fe, ff, _⟩ := cmul_gen (A := 1) hx2.1 hx2.2 hd2.1 hd2.2 (by decide +kernel) (by decide +kernel) (by rw [vx, vy, Rat.zero_mul, Rat.zero_mul]; exact z) (by rw [vx, vy, Rat.zero_mul, Rat.zero_mul]; exact z')
    exact ⟨e, f, true, implProduct_of hx2.1 hx2.2 hd2.1 hd2.2 fe ff hm, implQuotient_none (.inr ⟨hd, .inr ⟨hx, by simpa using ho.1, by simpa using ho.2⟩⟩)⟩

set_option maxHeartbeats 1000000 in
theorem implLine_of {x y e f q1 q2 s1 s2 d1 d2 b1 b2 c1 c2 : Nat} {k l : Int} {C S m n : Rat} (h : okR k l = true) (hr : Runs (ti k) l e f) (hl : Line e f q1 q2 s1 s2 d1 d2 C S m n) (hz : LineZ x y s1 s2 d1 d2 b1 b2 c1 c2) (w : World) :
    Calls Try.prog 28 #[.complex .f32 x y, .int .i64 k, .int .i64 l] w fun z w' => z = .returned (.tuple #[twoV s1 s2 b1 b2 c1 c2 s1 s2, .bool true]) ∧ Calm w w' := by
  have HO := Lib.hid h
  have HR := Lib.hid hr
  have HQ := Lib.hid (lineQ_of (line_words hl).2 hz)
  have m3 := hl.inv
  have m4 := hl.hs
  have m5 := hl.hd
  obtain ⟨a1, a1'⟩ := hl.a1
  obtain ⟨a2, a2'⟩ := hl.a2
  obtain ⟨b1', b1''⟩ := hl.b1
  obtain ⟨b2', b2''⟩ := hl.b2
  clear h hr hl hz
  go_enter Try.func28, Try.ntmps28
  go_wp2_with fail
  refine (implRuns_of HO.out HR.out _).mono ?_
  rintro z w1 ⟨rfl, C⟩
  rw [numV_true]
  have HC := Lib.hid (calm_trans (calm_new w _) C)
  have HR1 := Lib.hid ((Blk.new w 0 0 0 0 0 0 0 0).calm C)
  clear C
  go_wp2_with fail
  refine (HQ.out.p _).mono ?_
  rintro z w2 ⟨rfl, n2, hw2⟩
  have HC2 := Lib.hid (show Calm w w2 by rw [hw2]; exact grown_drewN HC.out n2)
  have HR2 := Lib.hid (show Blk w2 w.heap.size 0 0 0 0 0 0 0 0 by rw [hw2]; exact HR1.out.drewN n2)
  clear hw2 HC HR1
  go_wp2_with fail
  refine (HQ.out.q _).mono ?_
  rintro z w3 ⟨rfl, n3, hw3⟩
  have HK := Lib.hid (show Calm w w3 by rw [hw3]; exact grown_drewN HC2.out n3)
  have R : Blk w3 w.heap.size 0 0 0 0 0 0 0 0 := by rw [hw3]; exact HR2.out.drewN n3
  clear hw3 HC2 HR2
  have r0 := R.c0
  have r1 := R.c1
  have r2 := R.c2
  have r3 := R.c3
  have q0 := R.fr 0
  have q1' := R.fr 1
  have q2' := R.fr 2
  have q3 := R.fr 3
  have q := R.lt
  have HRR := Lib.hid R
  clear R
  go_wp2_with fail
  refine bodyPost_ret (results_two_tmp rfl _ rfl ((((HRR.out.s0 _ _).s1 _ _).s2 _ _).s3 _ _)) rfl ?_
  exact ⟨rfl, calm_set4 HK.out (Nat.le_refl _) _ _ _ _⟩

set_option maxHeartbeats 1000000 in
/-- No chain matrix: what runs along is not told, or the impedance is not finite, or it is 0. -/
theorem implLine_no {x y : Nat} {k l : Int} (hl1 : l ≤ 249) (h : (okR k l && (fin .f32 x && fin .f32 y) && !(FloatKind.f32.format.order x 0 == some .eq && FloatKind.f32.format.order y 0 == some .eq)) = false) (w : World) :
    Calls Try.prog 28 #[.complex .f32 x y, .int .i64 k, .int .i64 l] w fun z w' => z = .returned (.tuple #[twoV 0 0 0 0 0 0 0 0, .bool false]) ∧ Calm w w' := by
  cases ho : okR k l
  · have HO := Lib.hid ho
    clear ho h
    go_enter Try.func28, Try.ntmps28
    go_wp2_with fail
    refine (implRuns_no HO.out _).mono ?_
    rintro z w1 ⟨rfl, C⟩
    rw [numV_false]
    have HC := Lib.hid (calm_trans (calm_new w _) C)
    have R := (Blk.new w 0 0 0 0 0 0 0 0).calm C
    have HR := Lib.hid R
    have q0 := R.fr 0
    have q1 := R.fr 1
    have q2 := R.fr 2
    have q3 := R.fr 3
    have r0 := R.c0
    have r1 := R.c1
    have r2 := R.c2
    have r3 := R.c3
    clear C R
    go_wp2_with fail
    refine bodyPost_ret (results_two_tmp rfl _ rfl ((((HR.out.s0 _ _).s1 _ _).s2 _ _).s3 _ _)) rfl ?_
    exact ⟨rfl, calm_set4 HC.out (Nat.le_refl _) _ _ _ _⟩
  · obtain ⟨_, l0, l1⟩ := okR_iff.1 ho
    obtain ⟨e, f, r⟩ := runs_at (ti_lt k) l0 l1
    obtain ⟨n, t⟩ := lineT_at (ti_lt k) l0 hl1
    obtain ⟨q1, q2, s1, s2, d1, d2, hl⟩ := line_at t r.cm
    have hd := (line_words hl).2
    rw [ho, Bool.true_and] at h
    obtain ⟨b1, b2, β, hq⟩ := lineQ_no hd (by simpa using h)
    have HO := Lib.hid ho
    have HRR := Lib.hid r
    have HQ := Lib.hid hq
    have m3 := hl.inv
    have m4 := hl.hs
    have m5 := hl.hd
    obtain ⟨a1, a1'⟩ := hl.a1
    obtain ⟨a2, a2'⟩ := hl.a2
    obtain ⟨b1', b1''⟩ := hl.b1
    obtain ⟨b2', b2''⟩ := hl.b2
    clear ho r hl t hd hq h
    cases β
    all_goals
      go_enter Try.func28, Try.ntmps28
      go_wp2_with fail
      refine (implRuns_of HO.out HRR.out _).mono ?_
      rintro z w1 ⟨rfl, C⟩
      rw [numV_true]
      have HC := Lib.hid (calm_trans (calm_new w _) C)
      have HR1 := Lib.hid ((Blk.new w 0 0 0 0 0 0 0 0).calm C)
      clear C
      go_wp2_with fail
      refine (HQ.out.p _).mono ?_
      rintro z w2 ⟨rfl, n2, hw2⟩
      have HC2 := Lib.hid (show Calm w w2 by rw [hw2]; exact grown_drewN HC.out n2)
      have HR2 := Lib.hid (show Blk w2 w.heap.size 0 0 0 0 0 0 0 0 by rw [hw2]; exact HR1.out.drewN n2)
      clear hw2 HC HR1
      go_wp2_with fail
      refine (HQ.out.q _).mono ?_
      rintro z w3 ⟨rfl, n3, hw3⟩
      have HK := Lib.hid (show Calm w w3 by rw [hw3]; exact grown_drewN HC2.out n3)
      have R : Blk w3 w.heap.size 0 0 0 0 0 0 0 0 := by rw [hw3]; exact HR2.out.drewN n3
      clear hw3 HC2 HR2
      have r0 := R.c0
      have r1 := R.c1
      have r2 := R.c2
      have r3 := R.c3
      have q0 := R.fr 0
      have q1' := R.fr 1
      have q2' := R.fr 2
      have q3 := R.fr 3
      have q := R.lt
      have HR := Lib.hid R
      clear R
      go_wp2_with fail
      refine bodyPost_ret (results_two_tmp rfl _ rfl ((((HR.out.s0 _ _).s1 _ _).s2 _ _).s3 _ _)) rfl ?_
      exact ⟨rfl, calm_set4 HK.out (Nat.le_refl _) _ _ _ _⟩

end Go.Proofs.Ytdmacimafkiijaa
