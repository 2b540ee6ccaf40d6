/-
  Operations whose words are known, and contracts of Quotient, Product, ifFinite and Determinant where every operation on the way is known.
-/
import Derived.Test.YteikkbmmbnihaaaNc
import Derived.Test.YteikkbmmbnihaaaC3b
namespace Go.Proofs.Yteikkbmmbnihaaa
open Go.RowKit Fl

/-- A number, and whether it is told. -/
def numV (β : Bool) (e f : Nat) : Value := if β then .tuple #[.complex .f32 e f, .bool true] else .tuple #[.complex .f32 0 0, .bool false]
theorem numV_true (e f : Nat) : numV true e f = .tuple #[.complex .f32 e f, .bool true] := rfl
theorem numV_false (e f : Nat) : numV false e f = .tuple #[.complex .f32 0 0, .bool false] := rfl

abbrev MulW (a b c d e f : Nat) : Prop := ∀ (P : Program) (t : TypeId) (w : World), (binOp .mul t (.complex .f32 a b) (.complex .f32 c d)).run P w = .ok (.complex .f32 e f) w
abbrev QuoW (a b c d e f : Nat) : Prop := ∀ (P : Program) (t : TypeId) (w : World), (binOp .quo t (.complex .f32 a b) (.complex .f32 c d)).run P w = .ok (.complex .f32 e f) w
abbrev Fin2 (a b : Nat) : Prop := (fin .f32 a && fin .f32 b) = true
/-- Not 0. -/
abbrev Nz (a b : Nat) : Prop := ¬(FloatKind.f32.format.order a 0 = some .eq ∧ FloatKind.f32.format.order b 0 = some .eq)

theorem fin2 {a b : Nat} (h : Fin2 a b) : fin .f32 a = true ∧ fin .f32 b = true := by simpa using h

set_option maxHeartbeats 1000000 in
/-- A quotient of two numbers, where it is known. -/
theorem implQuotient_of {a b c d e f : Nat} (h1 : (fin .f32 a && fin .f32 b) = true) (h2 : (fin .f32 c && fin .f32 d) = true) (hz : ¬(FloatKind.f32.format.order c 0 = some .eq ∧ FloatKind.f32.format.order d 0 = some .eq))
    (hq : ∀ (P : Program) (t : TypeId) (w : World), (binOp .quo t (.complex .f32 a b) (.complex .f32 c d)).run P w = .ok (.complex .f32 e f) w) (he : fin .f32 e = true) (hf : fin .f32 f = true) (w : World) :
    Calls Try.prog 65 #[.complex .f32 a b, .complex .f32 c d] w fun z w' => z = .returned (numV true e f) ∧ ∃ n, w' = w.drewN n := by
  have H1 := Lib.hid h1
  have H2 := Lib.hid h2
  have HZ := Lib.hid hz
  have HE := Lib.hid he
  have HF := Lib.hid hf
  clear h1 h2 hz he hf
  go_enter Try.func65, Try.ntmps65
  go_wp2_with fail
  refine (implFinite_any _ _ _).mono ?_
  rw [H1.out]
  rintro z w1 ⟨rfl, n, rfl⟩
  go_wp2_with fail
  refine (implFinite_any _ _ _).mono ?_
  rw [H2.out]
  rintro z w1 ⟨rfl, n2, rfl⟩
  go_wp2_with fail
  · exact absurd (by simpa using ‹(FloatKind.f32.format.order c 0 == some Ordering.eq) = true ∧ (FloatKind.f32.format.order d 0 == some Ordering.eq) = true›) HZ.out
  refine (ifFinite_of HE.out HF.out _).mono ?_
  rintro z w1 ⟨rfl, n3, rfl⟩
  go_wp2_with fail
  go_ret2
  exact ⟨rfl, _, rfl⟩

set_option maxHeartbeats 1000000 in
/-- A quotient that is not told: one of both is not finite, or the second one is 0. -/
theorem implQuotient_none {a b c d : Nat} (h : (fin .f32 a && fin .f32 b) = false ∨ ((fin .f32 a && fin .f32 b) = true ∧ ((fin .f32 c && fin .f32 d) = false ∨ ((fin .f32 c && fin .f32 d) = true ∧ FloatKind.f32.format.order c 0 = some .eq ∧ FloatKind.f32.format.order d 0 = some .eq)))) (w : World) :
    Calls Try.prog 65 #[.complex .f32 a b, .complex .f32 c d] w fun z w' => z = .returned (numV false 0 0) ∧ ∃ n, w' = w.drewN n := by
  rcases h with h | ⟨h, h' | ⟨h', o1, o2⟩⟩
  · have H1 := Lib.hid h
    clear h
    go_enter Try.func65, Try.ntmps65
    go_wp2_with fail
    refine (implFinite_any _ _ _).mono ?_
    rw [H1.out]
    rintro z w1 ⟨rfl, n, rfl⟩
    go_wp2_with fail
    go_ret2
    exact ⟨rfl, _, rfl⟩
  · have H1 := Lib.hid h
    have H2 := Lib.hid h'
    clear h h'
    go_enter Try.func65, Try.ntmps65
    go_wp2_with fail
    refine (implFinite_any _ _ _).mono ?_
    rw [H1.out]
    rintro z w1 ⟨rfl, n, rfl⟩
    go_wp2_with fail
    refine (implFinite_any _ _ _).mono ?_
    rw [H2.out]
    rintro z w1 ⟨rfl, n2, rfl⟩
    go_wp2_with fail
    go_ret2
    exact ⟨rfl, _, rfl⟩
  · have H1 := Lib.hid h
    have H2 := Lib.hid h'
    clear h h'
    go_enter Try.func65, Try.ntmps65
    go_wp2_with fail
    refine (implFinite_any _ _ _).mono ?_
    rw [H1.out]
    rintro z w1 ⟨rfl, n, rfl⟩
    go_wp2_with fail
    refine (implFinite_any _ _ _).mono ?_
    rw [H2.out]
    rintro z w1 ⟨rfl, n2, rfl⟩
    go_wp2_with fail
    go_ret2
    exact ⟨rfl, _, rfl⟩

theorem implProduct_w {a b c d e f : Nat} (h1 : Fin2 a b) (h2 : Fin2 c d) (h3 : Fin2 e f) (hm : MulW a b c d e f) (w : World) :
    Calls Try.prog 63 #[.complex .f32 a b, .complex .f32 c d] w fun z w' => z = .returned (.tuple #[.complex .f32 e f, .bool true]) ∧ ∃ n, w' = w.drewN n :=
  implProduct_of (fin2 h1).1 (fin2 h1).2 (fin2 h2).1 (fin2 h2).2 (fin2 h3).1 (fin2 h3).2 hm w

theorem implQuotient_w {a b c d e f : Nat} (h1 : Fin2 a b) (h2 : Fin2 c d) (h3 : Fin2 e f) (hz : Nz c d) (hm : QuoW a b c d e f) (w : World) :
    Calls Try.prog 65 #[.complex .f32 a b, .complex .f32 c d] w fun z w' => z = .returned (.tuple #[.complex .f32 e f, .bool true]) ∧ ∃ n, w' = w.drewN n :=
  implQuotient_of h1 h2 hz hm (fin2 h3).1 (fin2 h3).2 w

theorem ifFinite_w {a b : Nat} (h : Fin2 a b) (w : World) :
    Calls Try.prog 64 #[.complex .f32 a b] w fun x w' => x = .returned (.tuple #[.complex .f32 a b, .bool true]) ∧ ∃ n, w' = w.drewN n := ifFinite_of (fin2 h).1 (fin2 h).2 w

/-- The determinant's words. -/
structure DetW (a b c d e f g h p1 p2 r1 r2 : Nat) : Prop where
  f1 : Fin2 a b
  f2 : Fin2 c d
  f3 : Fin2 e f
  f4 : Fin2 g h
  m1 : MulW a b g h p1 p2
  m2 : MulW c d e f r1 r2
  k1 : Fin2 p1 p2
  k2 : Fin2 r1 r2
  s1 : SubOk p1 r1
  s2 : SubOk p2 r2
  k3 : Fin2 (subB p1 r1) (subB p2 r2)

set_option maxHeartbeats 1000000 in
theorem implDet_w {a b c d e f g h p1 p2 r1 r2 : Nat} (D : DetW a b c d e f g h p1 p2 r1 r2) (w : World) :
    Calls Try.prog 30 #[twoV a b c d e f g h] w fun z w' => z = .returned (.tuple #[.complex .f32 (subB p1 r1) (subB p2 r2), .bool true]) ∧ Calm w w' := by
  have HD := Lib.hid D
  obtain ⟨s1, s1'⟩ := D.s1
  obtain ⟨s2, s2'⟩ := D.s2
  clear D
  go_enter Try.func30, Try.ntmps30
  go_wp2_with fail
  refine (implProduct_w HD.out.f1 HD.out.f4 HD.out.k1 HD.out.m1 _).mono ?_
  rintro z w1 ⟨rfl, n1, rfl⟩
  go_wp2_with fail
  refine (implProduct_w HD.out.f2 HD.out.f3 HD.out.k2 HD.out.m2 _).mono ?_
  rintro z w1 ⟨rfl, n2, rfl⟩
  go_wp2_with fail
  refine (ifFinite_w HD.out.k3 _).mono ?_
  rintro z w1 ⟨rfl, n3, rfl⟩
  go_wp2_with fail
  go_ret2
  exact ⟨rfl, grown_drewN (World.grownBy_alloc w _ none) _⟩

end Go.Proofs.Yteikkbmmbnihaaa
