/-
  Contracts of what divides 1 by a number (gyrators and transformers), and of the products of given matrices, reckoned out.
-/
import Derived.Test.YteikkbmmbnihaaaC3b
import Derived.Test.YteikkbmmbnihaaaWSeriesPart
import Derived.Test.YteikkbmmbnihaaaInv
import Derived.Test.YteikkbmmbnihaaaCalc
namespace Go.Proofs.Yteikkbmmbnihaaa
open Go.RowKit Fl
open Ieee

/-! What is reckoned out. -/

def pAdd (p q : Nat × Nat) : Option (Nat × Nat) := (floatBits .add .f32 p.1 q.1).bind fun e => (floatBits .add .f32 p.2 q.2).bind fun f => some (e, f)
def pDot (a b c d a' b' c' d' : Nat) : Option (Nat × Nat) := (pMul a b c d).bind fun p => (pMul a' b' c' d').bind fun q => pAdd p q
def pCas (m n : Words) : Option Words := (pDot m.a m.b n.a n.b m.c m.d n.e n.f).bind fun A => (pDot m.a m.b n.c n.d m.c m.d n.g n.h).bind fun B =>
  (pDot m.e m.f n.a n.b m.g m.h n.e n.f).bind fun C => (pDot m.e m.f n.c n.d m.g m.h n.g n.h).bind fun D => some ⟨A.1, A.2, B.1, B.2, C.1, C.2, D.1, D.2⟩
def Words.ok (m : Words) : Bool := finTwo m.a m.b m.c m.d m.e m.f m.g m.h
def Words.eqB (m n : Words) : Bool := eqTwoB m.a m.b m.c m.d m.e m.f m.g m.h n.a n.b n.c n.d n.e n.f n.g n.h
/-- The product of both is a matrix that equals the third one. -/
def check (m n t : Words) : Bool := m.ok && n.ok && (match pCas m n with | some o => o.ok && o.eqB t | none => false)

theorem dot_of {a b c d a' b' c' d' p q : Nat} (ha : fin .f32 a = true) (hb : fin .f32 b = true) (hc : fin .f32 c = true) (hd : fin .f32 d = true) (ha' : fin .f32 a' = true) (hb' : fin .f32 b' = true) (hc' : fin .f32 c' = true) (hd' : fin .f32 d' = true)
    (h : pDot a b c d a' b' c' d' = some (p, q)) : ∃ x y x' y', (∀ (P : Program) (t : TypeId) (w : World), (binOp .mul t (.complex .f32 a b) (.complex .f32 c d)).run P w = .ok (.complex .f32 x y) w) ∧
      (∀ (P : Program) (t : TypeId) (w : World), (binOp .mul t (.complex .f32 a' b') (.complex .f32 c' d')).run P w = .ok (.complex .f32 x' y') w) ∧
      (∀ w, fres .add .f32 x x' w = p) ∧ fask .add .f32 x x' = 0 ∧ (∀ w, fres .add .f32 y y' w = q) ∧ fask .add .f32 y y' = 0 := by
  unfold pDot at h
  obtain ⟨⟨x, y⟩, h1, h⟩ := bind_some h
  obtain ⟨⟨x', y'⟩, h2, h⟩ := bind_some h
  unfold pAdd at h
  obtain ⟨e, h3, h⟩ := bind_some h
  obtain ⟨f, h4, h⟩ := bind_some h
  injection h with h
  injection h with g1 g2
  subst g1; subst g2
  exact ⟨x, y, x', y', run_pMul ha hb hc hd h1, run_pMul ha' hb' hc' hd' h2, fun w => fres_some w h3, fask_some h3, fun w => fres_some w h4, fask_some h4⟩

theorem Words.ok_fin {m : Words} (h : m.ok = true) : fin .f32 m.a = true ∧ fin .f32 m.b = true ∧ fin .f32 m.c = true ∧ fin .f32 m.d = true ∧ fin .f32 m.e = true ∧ fin .f32 m.f = true ∧ fin .f32 m.g = true ∧ fin .f32 m.h = true := by
  unfold Words.ok finTwo at h
  simp only [Bool.and_eq_true] at h
  obtain ⟨⟨⟨⟨a, b⟩, c, d⟩, e, f⟩, g, h⟩ := h
  exact ⟨a, b, c, d, e, f, g, h⟩

/-- Each number of both is equal. -/
def Words.Eqs (m n : Words) : Prop := Yteikkbmmbnihaaa.Eqs m.a m.b n.a n.b ∧ Yteikkbmmbnihaaa.Eqs m.c m.d n.c n.d ∧ Yteikkbmmbnihaaa.Eqs m.e m.f n.e n.f ∧ Yteikkbmmbnihaaa.Eqs m.g m.h n.g n.h
theorem Words.eqs_of {m n : Words} (h : m.eqB n = true) : m.Eqs n := by
  unfold Words.eqB eqTwoB at h
  simp only [Bool.and_eq_true, beq_iff_eq] at h
  exact h

theorem okTwo_true' {a b c d e f g h : Nat} (H : finTwo a b c d e f g h = true) : okTwo a b c d e f g h = .tuple #[twoV a b c d e f g h, .bool true] := by unfold okTwo; rw [H]; rfl

set_option maxHeartbeats 4000000 in
set_option maxRecDepth 8000 in
theorem cascade_of {m n o : Words} (hm : m.ok = true) (hn : n.ok = true) (ho : o.ok = true) (hp : pCas m n = some o) (w : World) :
    Calls Try.prog 91 #[m.v, n.v] w fun x w' => x = .returned (.tuple #[o.v, .bool true]) ∧ Calm w w' := by
  obtain ⟨m1, m2, m3, m4, m5, m6, m7, m8⟩ := Words.ok_fin hm
  obtain ⟨n1, n2, n3, n4, n5, n6, n7, n8⟩ := Words.ok_fin hn
  obtain ⟨a, b, c, d, e, f, g, h⟩ := m
  obtain ⟨a', b', c', d', e', f', g', h'⟩ := n
  unfold pCas at hp
  obtain ⟨⟨p1, q1⟩, d1, hp⟩ := bind_some hp
  obtain ⟨⟨p2, q2⟩, d2, hp⟩ := bind_some hp
  obtain ⟨⟨p3, q3⟩, d3, hp⟩ := bind_some hp
  obtain ⟨⟨p4, q4⟩, d4, hp⟩ := bind_some hp
  injection hp with hp
  subst hp
  obtain ⟨x1, y1, x2, y2, e1, e2, g1, g2, g3, g4⟩ := dot_of m1 m2 n1 n2 m3 m4 n5 n6 d1
  obtain ⟨x3, y3, x4, y4, e3, e4, g5, g6, g7, g8⟩ := dot_of m1 m2 n3 n4 m3 m4 n7 n8 d2
  obtain ⟨x5, y5, x6, y6, e5, e6, g9, g10, g11, g12⟩ := dot_of m5 m6 n1 n2 m7 m8 n5 n6 d3
  obtain ⟨x7, y7, x8, y8, e7, e8, g13, g14, g15, g16⟩ := dot_of m5 m6 n3 n4 m7 m8 n7 n8 d4
  have HO := Lib.hid (show finTwo p1 q1 p2 q2 p3 q3 p4 q4 = true from ho)
  dsimp only at e1 e2 e3 e4 e5 e6 e7 e8
  clear d1 d2 d3 d4 hm hn ho m1 m2 m3 m4 m5 m6 m7 m8 n1 n2 n3 n4 n5 n6 n7 n8
  unfold Words.v
  go_enter Try.func91, Try.ntmps91
  go_wp2_with fail
  refine (ifTwoOk_any _ _ _ _ _ _ _ _ _).mono ?_
  rintro z w1 ⟨rfl, C⟩
  rw [okTwo_true' HO.out]
  clear e1 e2 e3 e4 e5 e6 e7 e8 g1 g2 g3 g4 g5 g6 g7 g8 g9 g10 g11 g12 g13 g14 g15 g16
  have K := calm_trans (calm_allocR (calm_allocR (calm_new w _) _) _) C
  have R := (Blk.new ((w.alloc (.cells #[.complex .f32 a b, .complex .f32 c d, .complex .f32 e f, .complex .f32 g h] 39)).alloc (.cells #[.complex .f32 a' b', .complex .f32 c' d', .complex .f32 e' f', .complex .f32 g' h'] 39)) 0 0 0 0 0 0 0 0).calm C
  have hs : ((w.alloc (.cells #[.complex .f32 a b, .complex .f32 c d, .complex .f32 e f, .complex .f32 g h] 39)).alloc (.cells #[.complex .f32 a' b', .complex .f32 c' d', .complex .f32 e' f', .complex .f32 g' h'] 39)).heap.size = w.heap.size + 1 + 1 := by simp
  rw [hs] at R
  have r0 := R.c0
  have r1 := R.c1
  have r2 := R.c2
  have r3 := R.c3
  have q0 := R.fr 0
  have q1' := R.fr 1
  have q2' := R.fr 2
  have q3' := R.fr 3
  have HR := Lib.hid R
  have HK := Lib.hid K
  clear C R K hs
  go_wp2_with fail
  refine bodyPost_ret (results_two_tmp rfl _ rfl ((((HR.out.s0 _ _).s1 _ _).s2 _ _).s3 _ _)) rfl ?_
  exact ⟨rfl, calm_set4 HK.out (by omega) _ _ _ _⟩

theorem cascade_check {m n t : Words} (h : check m n t = true) (w : World) :
    Calls Try.prog 91 #[m.v, n.v] w fun x w' => (∃ o : Words, x = .returned (.tuple #[o.v, .bool true]) ∧ o.ok = true ∧ o.Eqs t) ∧ Calm w w' := by
  unfold check at h
  simp only [Bool.and_eq_true] at h
  obtain ⟨⟨hm, hn⟩, h⟩ := h
  cases ho : pCas m n with
  | none => rw [ho] at h; cases h
  | some o =>
    rw [ho] at h
    simp only [Bool.and_eq_true] at h
    refine (cascade_of hm hn h.1 ho w).mono ?_
    rintro e w' ⟨rfl, C⟩
    exact ⟨⟨o, rfl, h.1, Words.eqs_of h.2⟩, C⟩

/-! What divides 1. -/

/-- 1 divided by it is told, and is (e, f); or it is not. -/
def Inv (x y e f : Nat) (β : Bool) : Prop :=
  (β = false ∧ (fin .f32 x && fin .f32 y) = false) ∨
  (β = false ∧ (fin .f32 x && fin .f32 y) = true ∧ FloatKind.f32.format.order x 0 = some .eq ∧ FloatKind.f32.format.order y 0 = some .eq) ∨
  (β = true ∧ (fin .f32 x && fin .f32 y) = true ∧ ¬(FloatKind.f32.format.order x 0 = some .eq ∧ FloatKind.f32.format.order y 0 = some .eq) ∧
    (∀ (P : Program) (t : TypeId) (w : World), (binOp .quo t (.complex .f32 1065353216 0) (.complex .f32 x y)).run P w = .ok (.complex .f32 e f) w) ∧ fin .f32 e = true ∧ fin .f32 f = true)

def ifC (β : Bool) (e f : Nat) : Value := if β then .tuple #[.complex .f32 e f, .bool true] else .tuple #[.complex .f32 0 0, .bool false]

set_option maxHeartbeats 1000000 in
theorem implQuotient_inv {x y e f : Nat} {β : Bool} (hi : Inv x y e f β) (w : World) :
    Calls Try.prog 65 #[.complex .f32 1065353216 0, .complex .f32 x y] w fun z w' => z = .returned (ifC β e f) ∧ ∃ n, w' = w.drewN n := by
  unfold ifC
  have h1 : (fin .f32 1065353216 && fin .f32 0) = true := by decide
  have H1 := Lib.hid h1
  clear h1
  rcases hi with ⟨rfl, hf⟩ | ⟨rfl, hf, o1, o2⟩ | ⟨rfl, hf, hz, hq, he, hg⟩
  · have HF := Lib.hid hf
    clear hf
    go_enter Try.func65, Try.ntmps65
    go_wp2_with fail
    refine (implFinite_any _ _ _).mono ?_
    rw [H1.out]
    rintro z w1 ⟨rfl, n, rfl⟩
    go_wp2_with fail
    refine (implFinite_any _ _ _).mono ?_
    rw [HF.out]
    rintro z w1 ⟨rfl, n2, rfl⟩
    go_wp2_with fail
    go_ret2
    exact ⟨rfl, _, rfl⟩
  · have HF := Lib.hid hf
    clear hf
    go_enter Try.func65, Try.ntmps65
    go_wp2_with fail
    refine (implFinite_any _ _ _).mono ?_
    rw [H1.out]
    rintro z w1 ⟨rfl, n, rfl⟩
    go_wp2_with fail
    refine (implFinite_any _ _ _).mono ?_
    rw [HF.out]
    rintro z w1 ⟨rfl, n2, rfl⟩
    go_wp2_with fail
    go_ret2
    exact ⟨rfl, _, rfl⟩
  · have HF := Lib.hid hf
    have HE := Lib.hid he
    have HG := Lib.hid hg
    have HZ := Lib.hid hz
    clear hf he hg hz
    go_enter Try.func65, Try.ntmps65
    go_wp2_with fail
    refine (implFinite_any _ _ _).mono ?_
    rw [H1.out]
    rintro z w1 ⟨rfl, n, rfl⟩
    go_wp2_with fail
    refine (implFinite_any _ _ _).mono ?_
    rw [HF.out]
    rintro z w1 ⟨rfl, n2, rfl⟩
    go_wp2_with fail
    · exact absurd (by simpa using ‹(FloatKind.f32.format.order x 0 == some Ordering.eq) = true ∧ (FloatKind.f32.format.order y 0 == some Ordering.eq) = true›) HZ.out
    refine (ifFinite_of HE.out HG.out _).mono ?_
    rintro z w1 ⟨rfl, n3, rfl⟩
    go_wp2_with fail
    go_ret2
    exact ⟨rfl, _, rfl⟩

theorem ifC_true (e f : Nat) : ifC true e f = .tuple #[.complex .f32 e f, .bool true] := rfl
theorem ifC_false (e f : Nat) : ifC false e f = .tuple #[.complex .f32 0 0, .bool false] := rfl

end Go.Proofs.Yteikkbmmbnihaaa
