/-
  Contracts of chapter 3's functions, in the program and in the model, and of the statements' own comparisons of matrices.
-/
import Derived.Test.YthbebgnjidaokaaDoorWTwoOk
import Derived.Test.YthbebgnjidaokaaDoorSame
import Derived.Test.YthbebgnjidaokaaDoorTot
namespace Go.Proofs.YthbebgnjidaokaaDoor
open Go.RowKit Fl

theorem results_two_tmp {fn : Func} {p u : Tmp} (hr : fn.results = #[.cell p 37, .tmp u]) (tmps : Array Value) {w : World} {A a1 b1 c1 d1 e1 f1 g1 h1 : Nat}
    (hp : tmps.getD p undef = .pointer (some ⟨A, 0, none⟩)) (H : Blk w A a1 b1 c1 d1 e1 f1 g1 h1) :
    (results fn tmps).run Tryd.prog w = .ok (.tuple #[.agg #[.complex .f32 a1 b1, .complex .f32 c1 d1, .complex .f32 e1 f1, .complex .f32 g1 h1], tmps.getD u undef]) w := by
  have hp' : tmps[p]?.getD undef = .pointer (some ⟨A, 0, none⟩) := by simpa using hp
  have l1 := run_loadVar_row (P := Tryd.prog) w A 37 37 _ _ _ H Tryd.underlying37 rfl (by kernel_rfl)
  simp [results, hr, hp', asAddr, l1]

/-- A matrix of these words. -/
abbrev twoV (a b c d e f g h : Nat) : Value := .agg #[.complex .f32 a b, .complex .f32 c d, .complex .f32 e f, .complex .f32 g h]

/-- Four stores into a block that was not there. -/
theorem calm_set4 {w w1 : World} (h : Calm w w1) {B : Nat} (hB : w.heap.size ≤ B) (v0 v1 v2 v3 : Value) :
    Calm w ((((w1.setCell ⟨B, 0, none⟩ v0).setCell ⟨B, 1, none⟩ v1).setCell ⟨B, 2, none⟩ v2).setCell ⟨B, 3, none⟩ v3) :=
  grown_above (grown_above (grown_above (grown_above h hB 0 v0) hB 1 v1) hB 2 v2) hB 3 v3

theorem calm_trans {w w1 w2 : World} (h1 : Calm w w1) (h2 : Calm w1 w2) : Calm w w2 := Lib.grownBy_trans h1 h2
theorem calm_allocR {w w1 : World} (h : Calm w w1) (o : Obj) : Calm w (w1.alloc o) := Lib.grownBy_allocR h o
theorem calm_new (w : World) (o : Obj) : Calm w (w.alloc o) := World.grownBy_alloc w o none
theorem calm_refl (w : World) : Calm w w := grown_refl w none

/-- What a matrix, if it is one, comes to. -/
def okTwo (a b c d e f g h : Nat) : Value := if finTwo a b c d e f g h then .tuple #[twoV a b c d e f g h, .bool true] else .tuple #[twoV 0 0 0 0 0 0 0 0, .bool false]

/-- A matrix of these words, if it is told. -/
def ifV (β : Bool) (a b c d e f g h : Nat) : Value := if β then .tuple #[twoV a b c d e f g h, .bool true] else .tuple #[twoV 0 0 0 0 0 0 0 0, .bool false]

/-- Both parts are equal, as numbers are compared. -/
def Eqs (x y z t : Nat) : Prop := FloatKind.f32.format.order x z = some .eq ∧ FloatKind.f32.format.order y t = some .eq

/-- A complex number whose parts are these whole numbers. -/
def IsInt (x y : Nat) (i j : Int) : Prop := fin .f32 x = true ∧ fin .f32 y = true ∧ V FloatKind.f32.format x = (i : Rat) ∧ V FloatKind.f32.format y = (j : Rat)

theorem add32_exact {x y : Nat} {i j : Int} (hx : fin .f32 x = true) (hy : fin .f32 y = true) (vx : V FloatKind.f32.format x = (i : Rat)) (vy : V FloatKind.f32.format y = (j : Rat))
    (hb : (i + j).natAbs ≤ 16777216) : ∃ r, floatBits .add .f32 x y = some r ∧ fin .f32 r = true ∧ V FloatKind.f32.format r = ((i + j : Int) : Rat) := by
  have b1 : (-16777216 : Rat) ≤ ((i + j : Int) : Rat) := by simpa using rat_of_int (show -16777216 ≤ i + j by omega)
  have b2 : ((i + j : Int) : Rat) ≤ 16777216 := by simpa using rat_of_int (show i + j ≤ 16777216 by omega)
  have l := lim32.1
  have e : V FloatKind.f32.format x + V FloatKind.f32.format y = ((i + j : Int) : Rat) := by rw [vx, vy, Rat.intCast_add]
  obtain ⟨r, r1, r2, r3⟩ := add_spec .f32 (fin_num.1 hx) (fin_num.1 hy) (by rw [e]; grind) (by rw [e]; grind)
  rw [e] at r3
  exact ⟨r, r1, fin_num.2 r2, rndV_exact r3 (has_int (by decide) _ hb)⟩
theorem sub32_exact {x y : Nat} {i j : Int} (hx : fin .f32 x = true) (hy : fin .f32 y = true) (vx : V FloatKind.f32.format x = (i : Rat)) (vy : V FloatKind.f32.format y = (j : Rat))
    (hb : (i - j).natAbs ≤ 16777216) : ∃ r, floatBits .sub .f32 x y = some r ∧ fin .f32 r = true ∧ V FloatKind.f32.format r = ((i - j : Int) : Rat) := by
  have b1 : (-16777216 : Rat) ≤ ((i - j : Int) : Rat) := by simpa using rat_of_int (show -16777216 ≤ i - j by omega)
  have b2 : ((i - j : Int) : Rat) ≤ 16777216 := by simpa using rat_of_int (show i - j ≤ 16777216 by omega)
  have l := lim32.1
  have e : V FloatKind.f32.format x - V FloatKind.f32.format y = ((i - j : Int) : Rat) := by rw [vx, vy, Rat.intCast_sub]
  obtain ⟨r, r1, r2, r3⟩ := sub_spec .f32 (fin_num.1 hx) (fin_num.1 hy) (by rw [e]; grind) (by rw [e]; grind)
  rw [e] at r3
  exact ⟨r, r1, fin_num.2 r2, rndV_exact r3 (has_int (by decide) _ hb)⟩

theorem prod_le {p q : Int} (hp : p.natAbs ≤ 1000) (hq : q.natAbs ≤ 1000) : (p * q).natAbs ≤ 1000000 := by
  rw [Int.natAbs_mul]
  exact Nat.mul_le_mul hp hq

/-- The product of two whole numbers, none of whose parts is more than 1000. -/
theorem mul_int {a b c d : Nat} {i j k l : Int} (h1 : IsInt a b i j) (h2 : IsInt c d k l) (bi : i.natAbs ≤ 1000) (bj : j.natAbs ≤ 1000) (bk : k.natAbs ≤ 1000) (bl : l.natAbs ≤ 1000) :
    ∃ e f, (∀ (P : Program) (t : TypeId) (w : World), (binOp .mul t (.complex .f32 a b) (.complex .f32 c d)).run P w = .ok (.complex .f32 e f) w) ∧ IsInt e f (i * k - j * l) (i * l + j * k) ∧
      (i * k - j * l).natAbs ≤ 2000000 ∧ (i * l + j * k).natAbs ≤ 2000000 := by
  obtain ⟨ha, hb, va, vb⟩ := h1
  obtain ⟨hc, hd, vc, vd⟩ := h2
  have p1 := prod_le bi bk
  have p2 := prod_le bj bl
  have p3 := prod_le bi bl
  have p4 := prod_le bj bk
  obtain ⟨e, f, q1, q2, q3, q4, q5⟩ := mul_whole ha hb hc hd va vb vc vd (by omega) (by omega) (by omega) (by omega)
  exact ⟨e, f, q1, ⟨q2, q3, q4, q5⟩, by omega, by omega⟩

/-- The sum of two whole numbers. -/
theorem sum_int {a b c d : Nat} {i j k l : Int} (h1 : IsInt a b i j) (h2 : IsInt c d k l) (bi : i.natAbs ≤ 2000000) (bj : j.natAbs ≤ 2000000) (bk : k.natAbs ≤ 2000000) (bl : l.natAbs ≤ 2000000) :
    ∃ e f, (∀ w, fres .add .f32 a c w = e) ∧ fask .add .f32 a c = 0 ∧ (∀ w, fres .add .f32 b d w = f) ∧ fask .add .f32 b d = 0 ∧ IsInt e f (i + k) (j + l) := by
  obtain ⟨ha, hb, va, vb⟩ := h1
  obtain ⟨hc, hd, vc, vd⟩ := h2
  obtain ⟨e, e1, e2, e3⟩ := add32_exact ha hc va vc (by omega)
  obtain ⟨f, f1, f2, f3⟩ := add32_exact hb hd vb vd (by omega)
  exact ⟨e, f, fun w => fres_some w e1, fask_some e1, fun w => fres_some w f1, fask_some f1, e2, f2, e3, f3⟩

/-- A matrix of whole numbers. -/
structure Ints where
  a : Int
  b : Int
  c : Int
  d : Int
  e : Int
  f : Int
  g : Int
  h : Int
structure Words where
  a : Nat
  b : Nat
  c : Nat
  d : Nat
  e : Nat
  f : Nat
  g : Nat
  h : Nat
def Words.v (m : Words) : Value := twoV m.a m.b m.c m.d m.e m.f m.g m.h
def Words.Is (m : Words) (i : Ints) : Prop := IsInt m.a m.b i.a i.b ∧ IsInt m.c m.d i.c i.d ∧ IsInt m.e m.f i.e i.f ∧ IsInt m.g m.h i.g i.h
def Ints.small (i : Ints) : Prop := i.a.natAbs ≤ 1000 ∧ i.b.natAbs ≤ 1000 ∧ i.c.natAbs ≤ 1000 ∧ i.d.natAbs ≤ 1000 ∧ i.e.natAbs ≤ 1000 ∧ i.f.natAbs ≤ 1000 ∧ i.g.natAbs ≤ 1000 ∧ i.h.natAbs ≤ 1000
/-- The product of two matrices. -/
def Ints.mul (m n : Ints) : Ints :=
  ⟨m.a * n.a - m.b * n.b + (m.c * n.e - m.d * n.f), m.a * n.b + m.b * n.a + (m.c * n.f + m.d * n.e),
   m.a * n.c - m.b * n.d + (m.c * n.g - m.d * n.h), m.a * n.d + m.b * n.c + (m.c * n.h + m.d * n.g),
   m.e * n.a - m.f * n.b + (m.g * n.e - m.h * n.f), m.e * n.b + m.f * n.a + (m.g * n.f + m.h * n.e),
   m.e * n.c - m.f * n.d + (m.g * n.g - m.h * n.h), m.e * n.d + m.f * n.c + (m.g * n.h + m.h * n.g)⟩

theorem Words.Is.fin {m : Words} {i : Ints} (h : m.Is i) : finTwo m.a m.b m.c m.d m.e m.f m.g m.h = true := by
  obtain ⟨⟨a, b, _⟩, ⟨c, d, _⟩, ⟨e, f, _⟩, ⟨g, h, _⟩⟩ := h
  unfold finTwo
  rw [a, b, c, d, e, f, g, h]
  rfl

end Go.Proofs.YthbebgnjidaokaaDoor
