/-
  LadderSeen of 1, and LadderChain, in the program.
-/
import Derived.Test.YteikkbmmbnihaaaLadI
import Derived.Test.YteikkbmmbnihaaaImplLad
namespace Go.Proofs.Yteikkbmmbnihaaa
open Go.RowKit Fl

set_option maxHeartbeats 1000000 in
theorem implWay_any {s : ByteArray} {c : Nat} {ns : List Nat} (L : LadS s c ns) (k : Nat) (w : World) :
    Calls Try.prog 53 #[.string s, .int .i64 k] w fun x w' => x = .returned (.bool (!crossB c k)) ∧ w' = w := by
  have h0 : 0 < s.size := by have := L.size; omega
  have hb := L.head h0
  have h1 : (((c : Nat) : Int) == 115) = !(c == 112) := by
    rcases L.c with rfl | rfl <;> rfl
  have h2 : ((k : Int) % 2 == 1) = (k % 2 == 1) := by
    rcases (show k % 2 = 0 ∨ k % 2 = 1 by omega) with h | h
    · have : (k : Int) % 2 = 0 := by omega
      rw [this, h]; rfl
    · have : (k : Int) % 2 = 1 := by omega
      rw [this, h]; rfl
  have HE := Lib.hid (show ((((c : Nat) : Int) == 115) == ((k : Int) % 2 == 1)) = !crossB c k by
    rw [h1, h2]
    unfold crossB
    cases c == 112 <;> cases k % 2 == 1 <;> rfl)
  clear h1 h2
  go_enter Try.func53, Try.ntmps53
  go_wp2_with fail
  go_ret
  exact ⟨by rw [← HE.out]; rfl, rfl⟩

set_option maxHeartbeats 1000000 in
theorem implPartAt_any {s : ByteArray} {c : Nat} {ns : List Nat} (L : LadS s c ns) {j : Nat} (hj : j < ns.length) (w : World) :
    Calls Try.prog 52 #[.string s, .int .i64 ((j + 1 : Nat) : Int)] w fun x w' => x = .returned (.complex .f32 0 (tabI (ns.getD j 0))) ∧ Calm w w' := by
  have hsz := L.size
  have hb := L.dig j (by omega)
  have hd8 : ns.getD j 0 < 8 := by
    rw [List.getD_eq_getElem?_getD, List.getElem?_eq_getElem hj]
    exact L.lt _ (List.getElem_mem hj)
  generalize ns.getD j 0 = d at *
  have HP := Lib.hid (part_row hd8)
  go_enter Try.func52, Try.ntmps52
  go_wp2_with fail
  rw [show (48 + (d : Int) - 48) = d by omega]
  refine (implPart_any _ _).mono ?_
  rw [HP.out]
  rintro z w1 ⟨rfl, C⟩
  go_wp2_with fail
  go_ret
  exact ⟨rfl, C⟩

set_option maxHeartbeats 1000000 in
theorem implThroughS {a b t : Nat} (S : SerW a b t) (w : World) :
    Calls Try.prog 51 #[.complex .f32 a b, .complex .f32 0 t, .bool true] w fun x w' => x = .returned (.tuple #[.complex .f32 (addB a 0) (addB b t), .bool true]) ∧ Calm w w' := by
  have HK := Lib.hid (ifFinite_w S.k)
  obtain ⟨s1, s1'⟩ := S.s1
  obtain ⟨s2, s2'⟩ := S.s2
  clear S
  go_enter Try.func51, Try.ntmps51
  go_wp2_with fail
  refine (HK.out _).mono ?_
  rintro z w1 ⟨rfl, n, rfl⟩
  go_wp2_with fail
  go_ret2
  exact ⟨rfl, grown_drewN (grown_refl _ _) _⟩

set_option maxHeartbeats 1000000 in
theorem implThroughA {a b t e f o p : Nat} (A : AcrW a b t e f o p) (w : World) :
    Calls Try.prog 51 #[.complex .f32 a b, .complex .f32 0 t, .bool false] w fun x w' => x = .returned (.tuple #[.complex .f32 o p, .bool true]) ∧ Calm w w' := by
  have f1 : Fin2 1065353216 0 := by decide
  have H1 := Lib.hid (implQuotient_w f1 A.fz A.k1 A.nz A.q1)
  have H2 := Lib.hid (implQuotient_w f1 A.k2 A.k3 A.nz2 A.q2)
  obtain ⟨s1, s1'⟩ := A.s1
  obtain ⟨s2, s2'⟩ := A.s2
  clear A f1
  go_enter Try.func51, Try.ntmps51
  go_wp2_with fail
  refine (H1.out _).mono ?_
  rintro z w1 ⟨rfl, n, rfl⟩
  go_wp2_with fail
  refine (H2.out _).mono ?_
  rintro z w1 ⟨rfl, n2, rfl⟩
  go_wp2_with fail
  go_ret2
  exact ⟨rfl, grown_drewN (grown_refl _ _) _⟩

theorem seen_step {c k d a b o p : Nat} {ds : List Nat} (F : SeenW c k (d :: ds) a b o p) :
    (crossB c k = false ∧ SerW a b (tabI d) ∧ SeenW c (k + 1) ds (addB a 0) (addB b (tabI d)) o p) ∨ (crossB c k = true ∧ ∃ e f x y, AcrW a b (tabI d) e f x y ∧ SeenW c (k + 1) ds x y o p) := by
  cases F with
  | ser h1 h2 h3 => exact .inl ⟨h1, h2, h3⟩
  | acr h1 h2 h3 => exact .inr ⟨h1, _, _, _, _, h2, h3⟩
theorem seen_end {c k a b o p : Nat} (F : SeenW c k [] a b o p) : a = o ∧ b = p := by cases F; exact ⟨rfl, rfl⟩

set_option maxRecDepth 8000 in
set_option maxHeartbeats 4000000 in
theorem implSeen_f {s : ByteArray} {c : Nat} {ns : List Nat} {o p : Nat} (L : LadS s c ns) (hl : ladB s = true) (F : SeenW c 1 ns 1065353216 0 o p) (w : World) :
    Calls Try.prog 21 #[.complex .f32 1065353216 0, .string s] w fun z w' => z = .returned (.tuple #[.complex .f32 o p, .bool true]) ∧ Calm w w' := by
  have hsz := L.size
  have hln := L.len
  have HL := Lib.hid hl
  have HS := Lib.hid L
  have HF := Lib.hid F
  have H1 := Lib.hid (show (fin .f32 1065353216 && fin .f32 0) = true by decide)
  clear F hl
  go_enter Try.func21, Try.ntmps21
  go_wp2_with fail
  refine (implLadder_any s (by omega) _).mono ?_
  rw [HL.out]
  rintro z w1 ⟨rfl, hw1⟩
  subst hw1
  go_wp2_with fail
  refine (implFinite_any _ _ _).mono ?_
  rw [H1.out]
  rintro z w1 ⟨rfl, n1, hw1⟩
  have HC := Lib.hid (show Calm w w1 by rw [hw1]; exact grown_drewN (grown_refl _ _) n1)
  clear hw1
  go_wp2_with fail
  go_loopw [0, 6] (fun z k wr => ∃ j a b : Nat, j ≤ ns.length ∧ k = .int .i64 ((j + 1 : Nat) : Int) ∧ z = .complex .f32 a b ∧ SeenW c (j + 1) (ns.drop j) a b o p ∧ Calm w wr)
    (fun _ k _ => ns.length + 1 - (intOf k).toNat)
  case atStart => exact ⟨0, _, _, by omega, rfl, rfl, HF.out, HC.out⟩
  case round =>
    obtain ⟨j, a, b, hj, rfl, rfl, hF, C⟩ := hrel
    have HC1 := Lib.hid C
    clear C HC
    by_cases hlt : j < ns.length
    · obtain ⟨d, hd⟩ : ∃ d, ns.getD j 0 = d := ⟨_, rfl⟩
      have hP := implPartAt_any L hlt
      rw [hd] at hP
      have HP := Lib.hid hP
      rw [List.drop_eq_getElem_cons hlt, show ns[j] = d by rw [← hd, List.getD_eq_getElem?_getD, List.getElem?_eq_getElem hlt]; rfl] at hF
      clear hP hd
      rcases seen_step hF with ⟨hb, S, hF'⟩ | ⟨hb, e, f, x, y, A, hF'⟩
      · have HB := Lib.hid hb
        have HN := Lib.hid hF'
        have HK := Lib.hid (implThroughS S)
        clear hF hF' hb S
        go_wp2_with fail
        refine (HP.out _).mono ?_
        rintro z w3 ⟨rfl, C3⟩
        go_wp2_with fail
        refine (implWay_any HS.out _ _).mono ?_
        rw [HB.out]
        rintro z w2 ⟨rfl, hw2⟩
        subst hw2
        go_wp2_with fail
        refine (HK.out _).mono ?_
        rintro z w4 ⟨rfl, C5⟩
        have C4 := Lib.hid (calm_trans (calm_trans HC1.out C3) C5)
        clear C5 C3
        go_wp2_with fail
        exact ⟨⟨j + 1, _, _, by omega, by go_num, rfl, HN.out, C4.out⟩, by simp [intOf]; omega⟩
      · have HB := Lib.hid hb
        have HN := Lib.hid hF'
        have HK := Lib.hid (implThroughA A)
        clear hF hF' hb A
        go_wp2_with fail
        refine (HP.out _).mono ?_
        rintro z w3 ⟨rfl, C3⟩
        go_wp2_with fail
        refine (implWay_any HS.out _ _).mono ?_
        rw [HB.out]
        rintro z w2 ⟨rfl, hw2⟩
        subst hw2
        go_wp2_with fail
        refine (HK.out _).mono ?_
        rintro z w4 ⟨rfl, C5⟩
        have C4 := Lib.hid (calm_trans (calm_trans HC1.out C3) C5)
        clear C5 C3
        go_wp2_with fail
        exact ⟨⟨j + 1, _, _, by omega, by go_num, rfl, HN.out, C4.out⟩, by simp [intOf]; omega⟩
    · have hje : j = ns.length := by omega
      subst hje
      rw [List.drop_length] at hF
      obtain ⟨rfl, rfl⟩ := seen_end hF
      go_wp2_with fail
      go_ret2
      exact ⟨rfl, HC1.out⟩

end Go.Proofs.Yteikkbmmbnihaaa
