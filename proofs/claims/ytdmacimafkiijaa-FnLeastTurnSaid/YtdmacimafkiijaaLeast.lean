/-
  LeastTurn, in the program and in the model.
-/
import Derived.Test.YtdmacimafkiijaaImpl5
namespace Go.Proofs.Ytdmacimafkiijaa
open Go.RowKit Fl

/-- The absolute value of a part, as both loops take it. -/
def aB (q : Nat) : Nat := if FloatKind.f32.format.order q 0 == some .lt then Op.negFloat .f32 q else q
/-- The best number, and the least absolute value, behind so many rounds. -/
def bestStep (F : Nat → Nat × Nat) (bl : Int × Nat) (n : Nat) : Int × Nat := if decide (bl.1 < 0) || FloatKind.f32.format.order (aB (F n).2) bl.2 == some .lt then ((n : Int), aB (F n).2) else bl
def bestAt (F : Nat → Nat × Nat) : Nat → Int × Nat
  | 0 => (-1, 0)
  | n + 1 => bestStep F (bestAt F n) n

/-- What is seen behind so many sixteenths, without loss. -/
def Seen (x y n p q : Nat) (A : Rat) : Prop := ∃ e f t u, Runs (ti (n : Int)) 0 e f ∧ Twice e f t u ∧ Beh t u x y p q A

theorem seen_at {x y : Nat} (fx : fin .f32 x = true) (fy : fin .f32 y = true) {A : Rat} (hA : absR (V FloatKind.f32.format x) + absR (V FloatKind.f32.format y) ≤ A) (h0 : 1 ≤ A) (h1 : A ≤ 319000000000000000000000000000000000000) :
    ∃ F : Nat → Nat × Nat, ∀ n, Seen x y n (F n).1 (F n).2 (1001 / 1000 * A) := by
  have h : ∀ n : Nat, ∃ pq : Nat × Nat, Seen x y n pq.1 pq.2 (1001 / 1000 * A) := by
    intro n
    obtain ⟨e, f, r⟩ := runs_at (ti_lt (n : Int)) (l := 0) (by decide) (by decide)
    obtain ⟨t, u, tw⟩ := twice_at (ti_lt (n : Int)) (by decide) (by decide) r
    obtain ⟨p, q, b⟩ := beh_at tw.ft tw.fu tw.bt tw.bu fx fy hA h0 h1
    exact ⟨(p, q), e, f, t, u, r, tw, b⟩
  exact Classical.skolem.1 h

theorem okR_small {n : Nat} (h : n ≤ 100) : okR (n : Int) 0 = true := okR_iff.2 (by omega)

theorem specBeh_seen {x y n p q : Nat} {A : Rat} (fx : fin .f32 x = true) (fy : fin .f32 y = true) (hn : n ≤ 100) (h : Seen x y n p q A) (w : World) :
    Calls Try.prog 40 #[.complex .f32 x y, .int .i64 n, .int .i64 0] w fun z w' => z = .returned (numV true p q) ∧ Calm w w' := by
  obtain ⟨e, f, t, u, r, tw, b⟩ := h
  exact specBeh_of (okR_small hn) fx fy r tw b w

theorem implBeh_seen {x y n p q : Nat} {A : Rat} (fx : fin .f32 x = true) (fy : fin .f32 y = true) (hn : n ≤ 100) (h : Seen x y n p q A) (w : World) :
    Calls Try.prog 39 #[.complex .f32 x y, .int .i64 n, .int .i64 0] w fun z w' => z = .returned (numV true p q) ∧ Calm w w' := by
  obtain ⟨e, f, t, u, r, tw, b⟩ := h
  exact implBeh_of (okR_small hn) fx fy r tw b w

set_option maxHeartbeats 2000000 in
theorem specLeast_of {x y : Nat} (fx : fin .f32 x = true) (fy : fin .f32 y = true) {F : Nat → Nat × Nat} {A : Rat} (hF : ∀ n, Seen x y n (F n).1 (F n).2 A) (w : World) :
    Calls Try.prog 46 #[.complex .f32 x y] w fun z w' => z = .returned (.int .i64 (bestAt F 9).1) ∧ Calm w w' := by
  have HS := Lib.hid hF
  have HX := Lib.hid (And.intro fx fy)
  have HF := Lib.hid (show (fin .f32 x && fin .f32 y) = true by rw [fx, fy]; rfl)
  clear hF fx fy
  go_enter Try.func46, Try.ntmps46
  go_wp2_with fail
  go_loopw [3, 4, 5] (fun b l k wr => ∃ n : Nat, n ≤ 9 ∧ k = .int .i64 n ∧ b = .int .i64 (bestAt F n).1 ∧ l = .float .f32 (bestAt F n).2 ∧ Calm w wr)
    (fun _ _ k _ => 9 - (intOf k).toNat)
  case atStart => exact ⟨0, by omega, rfl, rfl, rfl, grown_refl _ _⟩
  case round =>
    obtain ⟨n, hn, rfl, rfl, rfl, C⟩ := hrel
    have HC := Lib.hid C
    clear C
    obtain ⟨bl, hb⟩ : ∃ bl, bestAt F n = bl := ⟨_, rfl⟩
    have HB := Lib.hid hb
    rw [hb]
    clear hb
    obtain ⟨b, l⟩ := bl
    by_cases hlt : n < 9
    · obtain ⟨q, hq⟩ : ∃ q, (F n).2 = q := ⟨_, rfl⟩
      have HS' := HS.out n
      rw [hq] at HS'
      have HSn := Lib.hid HS'
      have hstep : bestAt F (n + 1) = if decide (b < 0) || FloatKind.f32.format.order (aB q) l == some .lt then ((n : Int), aB q) else (b, l) := by
        show bestStep F (bestAt F n) n = _
        rw [HB.out]
        unfold bestStep
        rw [hq]
      have HT := Lib.hid hstep
      clear hq HS' hstep
      go_wp2_with fail
      refine (specFinite_any _ _ _).mono ?_
      rw [HF.out]
      rintro z w1 ⟨rfl, n1, rfl⟩
      go_wp2_with fail
      refine (specBeh_seen HX.out.1 HX.out.2 (by omega) HSn.out _).mono ?_
      rintro z w2 ⟨rfl, C2⟩
      rw [numV_true]
      have C3 := Lib.hid (Lib.grownBy_trans (grown_drewN HC.out n1) C2)
      clear C2
      cases hneg : (FloatKind.f32.format.order q 0 == some .lt)
      · have ha : aB q = q := by unfold aB; rw [hneg]; rfl
        have HT' := HT.out
        rw [ha] at HT'
        by_cases hb0 : b < 0
        · have HU := Lib.hid (show bestAt F (n + 1) = ((n : Int), q) by rw [HT', if_pos (by simp [hb0])])
          clear HT' ha HT
          go_wp2_with fail
          exact ⟨⟨n + 1, by omega, by go_num, by rw [HU.out], by rw [HU.out], C3.out⟩, by simp [intOf]; omega⟩
        · have hb1 : 0 ≤ b := by omega
          cases hl : (FloatKind.f32.format.order q l == some .lt)
          · have HU := Lib.hid (show bestAt F (n + 1) = (b, l) by rw [HT', if_neg (by rw [hl]; simp; omega)])
            clear HT' ha HT
            go_wp2_with fail
            exact ⟨⟨n + 1, by omega, by go_num, by rw [HU.out], by rw [HU.out], C3.out⟩, by simp [intOf]; omega⟩
          · have HU := Lib.hid (show bestAt F (n + 1) = ((n : Int), q) by rw [HT', if_pos (by rw [hl]; simp)])
            clear HT' ha HT
            go_wp2_with fail
            exact ⟨⟨n + 1, by omega, by go_num, by rw [HU.out], by rw [HU.out], C3.out⟩, by simp [intOf]; omega⟩
      · have ha : aB q = Op.negFloat .f32 q := by unfold aB; rw [hneg]; rfl
        have HT' := HT.out
        rw [ha] at HT'
        by_cases hb0 : b < 0
        · have HU := Lib.hid (show bestAt F (n + 1) = ((n : Int), Op.negFloat .f32 q) by rw [HT', if_pos (by simp [hb0])])
          clear HT' ha HT
          go_wp2_with fail
          exact ⟨⟨n + 1, by omega, by go_num, by rw [HU.out], by rw [HU.out], C3.out⟩, by simp [intOf]; omega⟩
        · have hb1 : 0 ≤ b := by omega
          cases hl : (FloatKind.f32.format.order (Op.negFloat .f32 q) l == some .lt)
          · have HU := Lib.hid (show bestAt F (n + 1) = (b, l) by rw [HT', if_neg (by rw [hl]; simp; omega)])
            clear HT' ha HT
            go_wp2_with fail
            exact ⟨⟨n + 1, by omega, by go_num, by rw [HU.out], by rw [HU.out], C3.out⟩, by simp [intOf]; omega⟩
          · have HU := Lib.hid (show bestAt F (n + 1) = ((n : Int), Op.negFloat .f32 q) by rw [HT', if_pos (by rw [hl]; simp)])
            clear HT' ha HT
            go_wp2_with fail
            exact ⟨⟨n + 1, by omega, by go_num, by rw [HU.out], by rw [HU.out], C3.out⟩, by simp [intOf]; omega⟩
    · go_wp2_with fail
      go_ret
      have : n = 9 := by omega
      subst this
      exact ⟨by rw [HB.out]; rfl, HC.out⟩

set_option maxHeartbeats 2000000 in
theorem specLeast_no {x y : Nat} (h : (fin .f32 x && fin .f32 y) = false) (w : World) :
    Calls Try.prog 46 #[.complex .f32 x y] w fun z w' => z = .returned (.int .i64 (-1)) ∧ Calm w w' := by
  have HF := Lib.hid h
  clear h
  go_enter Try.func46, Try.ntmps46
  go_wp2_with fail
  go_loopw [3, 5] (fun b k wr => b = .int .i64 (-1) ∧ k = .int .i64 0 ∧ Calm w wr)
    (fun _ _ _ => 0)
  case atStart => exact ⟨rfl, rfl, grown_refl _ _⟩
  case round =>
    obtain ⟨rfl, rfl, C⟩ := hrel
    have HC := Lib.hid C
    clear C
    go_wp2_with fail
    refine (specFinite_any _ _ _).mono ?_
    rw [HF.out]
    rintro z w1 ⟨rfl, n1, rfl⟩
    go_wp2_with fail
    go_ret
    exact ⟨rfl, grown_drewN HC.out _⟩

end Go.Proofs.Ytdmacimafkiijaa
