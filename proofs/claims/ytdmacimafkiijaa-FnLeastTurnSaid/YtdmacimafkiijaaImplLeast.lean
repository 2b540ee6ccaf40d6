/-
  LeastTurn in the program.
-/
import Derived.Test.YtdmacimafkiijaaLeast
import Derived.Test.YtdmacimafkiijaaAbs
namespace Go.Proofs.Ytdmacimafkiijaa
open Go.RowKit Fl

/-- Two words of the same number. -/
def SameW (a b : Nat) : Prop := fin .f32 a = true ∧ fin .f32 b = true ∧ V FloatKind.f32.format a = V FloatKind.f32.format b

theorem SameW.lt {a b c d : Nat} (h : SameW a b) (g : SameW c d) : (FloatKind.f32.format.order a c == some .lt) = (FloatKind.f32.format.order b d == some .lt) := by
  rw [lt_walk (fin_num.1 h.1) (fin_num.1 g.1), lt_walk (fin_num.1 h.2.1) (fin_num.1 g.2.1), h.2.2, g.2.2]

theorem aQ_aB {q : Nat} (h : fin .f32 q = true) (hl : q < 2 ^ 32) (hB : absR (V FloatKind.f32.format q) ≤ top32) : SameW (aQ q) (aB q) := by
  obtain ⟨_, a1, a2⟩ := aQ_spec h hB
  have z := lt_walk (fin_num.1 h) (fin_num.1 (by decide : fin .f32 0 = true))
  have z2 : V FloatKind.f32.format 0 = 0 := by decide +kernel
  rw [z2] at z
  obtain ⟨n1, n2⟩ := neg_spec .f32 (show q < 2 ^ FloatKind.f32.format.width from hl) (fin_num.1 h)
  unfold aB
  rcases absR_cases (V FloatKind.f32.format q) with ⟨g, e⟩ | ⟨g, e⟩
  · rw [z, decide_eq_true g]
    simp only [if_true]
    exact ⟨a1, fin_num.2 n1, by rw [a2, e, n2]⟩
  · rw [z, decide_eq_false (by grind)]
    simp only [Bool.false_eq_true, if_false]
    exact ⟨a1, h, by rw [a2, e]⟩

set_option maxHeartbeats 2000000 in
theorem implLeast_of {x y : Nat} (fx : fin .f32 x = true) (fy : fin .f32 y = true) {F : Nat → Nat × Nat} {A : Rat} (hF : ∀ n, Seen x y n (F n).1 (F n).2 A) (w : World) :
    Calls Try.prog 45 #[.complex .f32 x y] w fun z w' => z = .returned (.int .i64 (bestAt F 9).1) ∧ Calm w w' := by
  have HS := Lib.hid hF
  have HX := Lib.hid (And.intro fx fy)
  clear hF fx fy
  go_enter Try.func45, Try.ntmps45
  go_wp2_with fail
  go_loopw [3, 4, 9] (fun b l k wr => ∃ n m : Nat, n ≤ 9 ∧ k = .int .i64 n ∧ b = .int .i64 (bestAt F n).1 ∧ l = .float .f32 m ∧ SameW m (bestAt F n).2 ∧ Calm w wr)
    (fun _ _ k _ => 9 - (intOf k).toNat)
  case atStart => exact ⟨0, 0, by omega, rfl, rfl, rfl, ⟨by decide, (show fin .f32 0 = true by decide), rfl⟩, grown_refl _ _⟩
  case round =>
    obtain ⟨n, m, hn, rfl, rfl, rfl, hm, C⟩ := hrel
    have HC := Lib.hid C
    clear C
    obtain ⟨bl, hb⟩ : ∃ bl, bestAt F n = bl := ⟨_, rfl⟩
    have HB := Lib.hid hb
    rw [hb] at hm ⊢
    clear hb
    obtain ⟨b, l⟩ := bl
    have HM := Lib.hid hm
    clear hm
    by_cases hlt : n < 9
    · obtain ⟨q, hq⟩ : ∃ q, (F n).2 = q := ⟨_, rfl⟩
      have HS' := HS.out n
      rw [hq] at HS'
      have HSn := Lib.hid HS'
      obtain ⟨fq, lq, bq⟩ : fin .f32 q = true ∧ q < 2 ^ 32 ∧ absR (V FloatKind.f32.format q) ≤ top32 := by
        obtain ⟨_, _, _, _, _, _, B⟩ := HS'
        exact ⟨B.fq, B.lq, B.bq⟩
      have HQ := Lib.hid (aQ_aB fq lq bq)
      have HA := Lib.hid (And.intro fq (aQ_spec fq bq).1)
      have hstep : bestAt F (n + 1) = if decide (b < 0) || FloatKind.f32.format.order (aB q) l == some .lt then ((n : Int), aB q) else (b, l) := by
        show bestStep F (bestAt F n) n = _
        rw [HB.out]
        unfold bestStep
        rw [hq]
      have HT := Lib.hid hstep
      obtain ⟨p, hp⟩ : ∃ p, (F n).1 = p := ⟨_, rfl⟩
      rw [hp] at HSn
      clear hq hp HS' hstep fq lq bq
      go_wp2_with fail
      refine (implBeh_seen HX.out.1 HX.out.2 (by omega) HSn.out _).mono ?_
      rintro z w2 ⟨rfl, C2⟩
      rw [numV_true]
      have C3 := Lib.hid (Lib.grownBy_trans HC.out C2)
      clear C2
      go_wp2_with fail
      refine (absolute_of HA.out.1 HA.out.2 _).mono ?_
      rintro z w3 ⟨rfl, rfl⟩
      by_cases hb0 : b < 0
      · have HU := Lib.hid (show bestAt F (n + 1) = ((n : Int), aB q) by rw [HT.out, if_pos (by simp [hb0])])
        clear HT
        go_wp2_with fail
        exact ⟨⟨n + 1, _, by omega, by go_num, by rw [HU.out], rfl, by rw [HU.out]; exact HQ.out, C3.out⟩, by simp [intOf]; omega⟩
      · have hb1 : 0 ≤ b := by omega
        cases hl : (FloatKind.f32.format.order (aQ q) m == some .lt)
        · have HU := Lib.hid (show bestAt F (n + 1) = (b, l) by rw [HT.out, if_neg (by rw [← HQ.out.lt HM.out, hl]; simp; omega)])
          clear HT
          go_wp2_with fail
          exact ⟨⟨n + 1, _, by omega, by go_num, by rw [HU.out], rfl, by rw [HU.out]; exact HM.out, C3.out⟩, by simp [intOf]; omega⟩
        · have HU := Lib.hid (show bestAt F (n + 1) = ((n : Int), aB q) by rw [HT.out, if_pos (by rw [← HQ.out.lt HM.out, hl]; simp)])
          clear HT
          go_wp2_with fail
          exact ⟨⟨n + 1, _, by omega, by go_num, by rw [HU.out], rfl, by rw [HU.out]; exact HQ.out, C3.out⟩, by simp [intOf]; omega⟩
    · go_wp2_with fail
      go_ret
      have : n = 9 := by omega
      subst this
      exact ⟨by rw [HB.out]; rfl, HC.out⟩

set_option maxHeartbeats 2000000 in
theorem implLeast_no {x y : Nat} (h : (fin .f32 x && fin .f32 y) = false) (w : World) :
    Calls Try.prog 45 #[.complex .f32 x y] w fun z w' => z = .returned (.int .i64 (-1)) ∧ Calm w w' := by
  have HF := Lib.hid h
  clear h
  go_enter Try.func45, Try.ntmps45
  go_wp2_with fail
  go_loopw [3, 4, 9] (fun b l k wr => ∃ n : Nat, n ≤ 9 ∧ k = .int .i64 n ∧ b = .int .i64 (-1) ∧ l = .float .f32 0 ∧ Calm w wr)
    (fun _ _ k _ => 9 - (intOf k).toNat)
  case atStart => exact ⟨0, by omega, rfl, rfl, rfl, grown_refl _ _⟩
  case round =>
    obtain ⟨n, hn, rfl, rfl, rfl, C⟩ := hrel
    have HC := Lib.hid C
    clear C
    by_cases hlt : n < 9
    · go_wp2_with fail
      refine (implBeh_no (show (okR (n : Int) 0 && (fin .f32 x && fin .f32 y)) = false by rw [HF.out, Bool.and_false]) _).mono ?_
      rintro z w2 ⟨rfl, C2⟩
      rw [numV_false]
      have C3 := Lib.hid (Lib.grownBy_trans HC.out C2)
      clear C2
      go_wp2_with fail
      exact ⟨⟨n + 1, by omega, by go_num, rfl, rfl, C3.out⟩, by simp [intOf]; omega⟩
    · go_wp2_with fail
      go_ret
      exact ⟨rfl, HC.out⟩

end Go.Proofs.Ytdmacimafkiijaa
