/-
  The parts of ladders put together are exact: chain matrices whose numbers are whole numbers of so many halves of halves.
-/
import Derived.Test.YteikkbmmbnihaaaDy
import Derived.Test.YteikkbmmbnihaaaOps
import Derived.Test.YteikkbmmbnihaaaTab
import Derived.Test.YteikkbmmbnihaaaC3
namespace Go.Proofs.Yteikkbmmbnihaaa
open Go.RowKit Fl

/-- The words hold these whole numbers, times 2^e. -/
def Words.IsD (m : Words) (i : Ints) (e : Int) : Prop := IsDy m.a m.b i.a i.b e ∧ IsDy m.c m.d i.c i.d e ∧ IsDy m.e m.f i.e i.f e ∧ IsDy m.g m.h i.g i.h e

/-- A sum of two products: all its words. -/
structure SumF (a b c d a' b' c' d' x y x' y' : Nat) : Prop where
  m1 : MulW a b c d x y
  m2 : MulW a' b' c' d' x' y'
  k1 : Fin2 x y
  k2 : Fin2 x' y'
  s1 : AddOk x x'
  s2 : AddOk y y'
  k3 : Fin2 (addB x x') (addB y y')

/-- A product of two matrices: all its words. -/
def CasF (m n o : Words) : Prop := ∃ x1 y1 x2 y2 x3 y3 x4 y4 x5 y5 x6 y6 x7 y7 x8 y8,
  SumF m.a m.b n.a n.b m.c m.d n.e n.f x1 y1 x2 y2 ∧ SumF m.a m.b n.c n.d m.c m.d n.g n.h x3 y3 x4 y4 ∧
  SumF m.e m.f n.a n.b m.g m.h n.e n.f x5 y5 x6 y6 ∧ SumF m.e m.f n.c n.d m.g m.h n.g n.h x7 y7 x8 y8 ∧
  o = ⟨addB x1 x2, addB y1 y2, addB x3 x4, addB y3 y4, addB x5 x6, addB y5 y6, addB x7 x8, addB y7 y8⟩

/-- None of the numbers is more than so much. -/
def Ints.le (i : Ints) (n : Nat) : Prop := i.a.natAbs ≤ n ∧ i.b.natAbs ≤ n ∧ i.c.natAbs ≤ n ∧ i.d.natAbs ≤ n ∧ i.e.natAbs ≤ n ∧ i.f.natAbs ≤ n ∧ i.g.natAbs ≤ n ∧ i.h.natAbs ≤ n

theorem natAbs_mul_le {p q : Int} {M N : Nat} (hp : p.natAbs ≤ M) (hq : q.natAbs ≤ N) : (p * q).natAbs ≤ M * N := by
  rw [Int.natAbs_mul]
  exact Nat.mul_le_mul hp hq

theorem sum_dy {a b c d a' b' c' d' : Nat} {i j k l i' j' k' l' e g : Int} {M N : Nat} (h1 : IsDy a b i j e) (h2 : IsDy c d k l g) (h1' : IsDy a' b' i' j' e) (h2' : IsDy c' d' k' l' g) (he : -149 ≤ e + g) (he0 : e + g ≤ 0)
    (bi : i.natAbs ≤ M) (bj : j.natAbs ≤ M) (bk : k.natAbs ≤ N) (bl : l.natAbs ≤ N) (bi' : i'.natAbs ≤ M) (bj' : j'.natAbs ≤ M) (bk' : k'.natAbs ≤ N) (bl' : l'.natAbs ≤ N) (hMN : M * N ≤ 4194304) :
    ∃ x y x' y', SumF a b c d a' b' c' d' x y x' y' ∧ IsDy (addB x x') (addB y y') (i * k - j * l + (i' * k' - j' * l')) (i * l + j * k + (i' * l' + j' * k')) (e + g) := by
  have p1 := natAbs_mul_le bi bk
  have p2 := natAbs_mul_le bj bl
  have p3 := natAbs_mul_le bi bl
  have p4 := natAbs_mul_le bj bk
  have q1 := natAbs_mul_le bi' bk'
  have q2 := natAbs_mul_le bj' bl'
  have q3 := natAbs_mul_le bi' bl'
  have q4 := natAbs_mul_le bj' bk'
  generalize M * N = X at *
  obtain ⟨x, y, m1, d1⟩ := mul_dy h1 h2 he he0 (by omega) (by omega)
  obtain ⟨x', y', m2, d2⟩ := mul_dy h1' h2' he he0 (by omega) (by omega)
  obtain ⟨s1, s2, d3⟩ := add_dy d1 d2 he he0 (by omega) (by omega)
  refine ⟨x, y, x', y', ⟨m1, m2, ?_, ?_, s1, s2, ?_⟩, d3⟩
  · show (_ && _) = true; rw [d1.1, d1.2.1]; rfl
  · show (_ && _) = true; rw [d2.1, d2.2.1]; rfl
  · show (_ && _) = true; rw [d3.1, d3.2.1]; rfl

theorem cas_dy {m n : Words} {i k : Ints} {e g : Int} {M N : Nat} (hm : m.IsD i e) (hn : n.IsD k g) (he : -149 ≤ e + g) (he0 : e + g ≤ 0) (bi : i.le M) (bk : k.le N) (hMN : M * N ≤ 4194304) :
    ∃ o, CasF m n o ∧ o.IsD (i.mul k) (e + g) := by
  obtain ⟨m1, m2, m3, m4⟩ := hm
  obtain ⟨n1, n2, n3, n4⟩ := hn
  obtain ⟨s1, s2, s3, s4, s5, s6, s7, s8⟩ := bi
  obtain ⟨t1, t2, t3, t4, t5, t6, t7, t8⟩ := bk
  obtain ⟨x1, y1, x2, y2, f1, o1⟩ := sum_dy m1 n1 m2 n3 he he0 s1 s2 t1 t2 s3 s4 t5 t6 hMN
  obtain ⟨x3, y3, x4, y4, f2, o2⟩ := sum_dy m1 n2 m2 n4 he he0 s1 s2 t3 t4 s3 s4 t7 t8 hMN
  obtain ⟨x5, y5, x6, y6, f3, o3⟩ := sum_dy m3 n1 m4 n3 he he0 s5 s6 t1 t2 s7 s8 t5 t6 hMN
  obtain ⟨x7, y7, x8, y8, f4, o4⟩ := sum_dy m3 n2 m4 n4 he he0 s5 s6 t3 t4 s7 s8 t7 t8 hMN
  exact ⟨_, ⟨_, _, _, _, _, _, _, _, _, _, _, _, _, _, _, _, f1, f2, f3, f4, rfl⟩, o1, o2, o3, o4⟩

theorem Words.IsD.ok {m : Words} {i : Ints} {e : Int} (h : m.IsD i e) : finTwo m.a m.b m.c m.d m.e m.f m.g m.h = true := by
  obtain ⟨⟨a, b, _⟩, ⟨c, d, _⟩, ⟨e, f, _⟩, ⟨g, h, _⟩⟩ := h
  unfold finTwo
  rw [a, b, c, d, e, f, g, h]
  rfl

theorem CasF.fin {m n o : Words} (h : CasF m n o) : finTwo o.a o.b o.c o.d o.e o.f o.g o.h = true := by
  obtain ⟨_, _, _, _, _, _, _, _, _, _, _, _, _, _, _, _, f1, f2, f3, f4, rfl⟩ := h
  have a := fin2 f1.k3
  have b := fin2 f2.k3
  have c := fin2 f3.k3
  have d := fin2 f4.k3
  unfold finTwo
  dsimp only
  rw [a.1, a.2, b.1, b.2, c.1, c.2, d.1, d.2]
  rfl

/-! The parts. -/

/-- Whether the part at a place, from 1 on, is across. -/
def crossB (c k : Nat) : Bool := (c == 112) == (k % 2 == 1)
/-- How many quarters a number of the table is. -/
def tabQ (d : Nat) : Int := [1, -1, 2, -2, 4, -4, 8, -8].getD d 0
/-- The matrix of a part. -/
def partW (b : Bool) (y : Nat) : Words := if b then ⟨1065353216, 0, 0, 0, 0, y, 1065353216, 0⟩ else ⟨1065353216, 0, 0, y, 0, 0, 1065353216, 0⟩
def partI (b : Bool) (q : Int) : Ints := if b then ⟨4, 0, 0, 0, 0, q, 4, 0⟩ else ⟨4, 0, 0, q, 0, 0, 4, 0⟩
def wireW : Words := ⟨1065353216, 0, 0, 0, 0, 0, 1065353216, 0⟩
def wireD : Ints := ⟨1, 0, 0, 0, 0, 0, 1, 0⟩

theorem tab_q : ∀ d : Fin 8, (decide (V FloatKind.f32.format (tabI d.val) = (tabQ d.val : Rat) * p2 (-2)) && decide ((tabQ d.val).natAbs ≤ 8)) = true := by decide +kernel
theorem one_q : V FloatKind.f32.format 1065353216 = ((4 : Int) : Rat) * p2 (-2) ∧ V FloatKind.f32.format 0 = ((0 : Int) : Rat) * p2 (-2) ∧ V FloatKind.f32.format 1065353216 = ((1 : Int) : Rat) * p2 0 ∧ V FloatKind.f32.format 0 = ((0 : Int) : Rat) * p2 0 :=
  ⟨by decide +kernel, by decide +kernel, by decide +kernel, by decide +kernel⟩

theorem part_isD (b : Bool) {d : Nat} (h : d < 8) : (partW b (tabI d)).IsD (partI b (tabQ d)) (-2) ∧ (partI b (tabQ d)).le 8 := by
  obtain ⟨o1, o2, _, _⟩ := one_q
  have ht := tab_q ⟨d, h⟩
  simp only [Bool.and_eq_true, decide_eq_true_eq] at ht
  have hf := part_fin ⟨d, h⟩
  have f1 : fin .f32 1065353216 = true := by decide
  have f0 : fin .f32 0 = true := by decide
  have one : IsDy 1065353216 0 4 0 (-2) := ⟨f1, f0, o1, o2⟩
  have zero : IsDy 0 0 0 0 (-2) := ⟨f0, f0, o2, o2⟩
  have part : IsDy 0 (tabI d) 0 (tabQ d) (-2) := ⟨f0, hf, o2, ht.1⟩
  have hb := ht.2
  cases b
  · exact ⟨⟨one, part, zero, one⟩, by unfold partI Ints.le; simp; omega⟩
  · exact ⟨⟨one, zero, part, one⟩, by unfold partI Ints.le; simp; omega⟩

theorem wire_isD : wireW.IsD wireD 0 ∧ wireD.le 1 := by
  obtain ⟨_, _, o1, o2⟩ := one_q
  have f1 : fin .f32 1065353216 = true := by decide
  have f0 : fin .f32 0 = true := by decide
  exact ⟨⟨⟨f1, f0, o1, o2⟩, ⟨f0, f0, o2, o2⟩, ⟨f0, f0, o2, o2⟩, ⟨f1, f0, o1, o2⟩⟩, by unfold wireD Ints.le; simp⟩

/-- The parts of a ladder, from its last digit to its first one; the first one is at the place k. -/
def partsFrom (c : Nat) : Nat → List Nat → List (Bool × Nat)
  | _, [] => []
  | k, d :: ds => partsFrom c (k + 1) ds ++ [(crossB c k, d)]

/-- The products of a matrix and of those of a list, one by one, word by word. -/
inductive ChainF : Words → List Words → Words → Prop
  | nil (m : Words) : ChainF m [] m
  | cons {m n o p : Words} {ns : List Words} : CasF m n o → ChainF o ns p → ChainF m (n :: ns) p

/-- The whole numbers. -/
def chainI : Ints → List (Bool × Nat) → Ints
  | i, [] => i
  | i, p :: ps => chainI (i.mul (partI p.1 (tabQ p.2))) ps

theorem four_le {a b c d : Int} {X : Nat} (ha : a.natAbs ≤ X) (hb : b.natAbs ≤ X) (hc : c.natAbs ≤ X) (hd : d.natAbs ≤ X) : (a - b + (c - d)).natAbs ≤ 4 * X ∧ (a + b + (c + d)).natAbs ≤ 4 * X := by omega
theorem mul_le {i k : Ints} {M N : Nat} (bi : i.le M) (bk : k.le N) : (i.mul k).le (4 * (M * N)) := by
  obtain ⟨s1, s2, s3, s4, s5, s6, s7, s8⟩ := bi
  obtain ⟨t1, t2, t3, t4, t5, t6, t7, t8⟩ := bk
  have P := fun {p q : Int} (hp : p.natAbs ≤ M) (hq : q.natAbs ≤ N) => natAbs_mul_le hp hq
  exact ⟨(four_le (P s1 t1) (P s2 t2) (P s3 t5) (P s4 t6)).1, (four_le (P s1 t2) (P s2 t1) (P s3 t6) (P s4 t5)).2, (four_le (P s1 t3) (P s2 t4) (P s3 t7) (P s4 t8)).1, (four_le (P s1 t4) (P s2 t3) (P s3 t8) (P s4 t7)).2,
    (four_le (P s5 t1) (P s6 t2) (P s7 t5) (P s8 t6)).1, (four_le (P s5 t2) (P s6 t1) (P s7 t6) (P s8 t5)).2, (four_le (P s5 t3) (P s6 t4) (P s7 t7) (P s8 t8)).1, (four_le (P s5 t4) (P s6 t3) (P s7 t8) (P s8 t7)).2⟩

/-- Each chain of at most three parts is there, and is exact. -/
theorem chain_dy : ∀ (ps : List (Bool × Nat)) (m : Words) (i : Ints) (e : Int) (M : Nat), (∀ p ∈ ps, p.2 < 8) → m.IsD i e → i.le M → M * 32 ^ ps.length ≤ 524288 → -40 + 2 * (ps.length : Int) ≤ e → e ≤ 0 →
    ∃ o, ChainF m (ps.map fun p => partW p.1 (tabI p.2)) o ∧ o.IsD (chainI i ps) (e - 2 * (ps.length : Int)) ∧ (chainI i ps).le (M * 32 ^ ps.length)
  | [], m, i, e, M, _, hm, hi, _, _, _ => ⟨m, .nil m, by simpa [chainI] using hm, by simpa [chainI] using hi⟩
  | p :: ps, m, i, e, M, hp, hm, hi, hM, he, he0 => by
    obtain ⟨h1, h2⟩ := part_isD p.1 (hp p (by simp))
    have hpow : 1 ≤ 32 ^ ps.length := Nat.one_le_pow _ _ (by decide)
    have hM' : M * 32 * 32 ^ ps.length ≤ 524288 := by
      rw [List.length_cons, Nat.pow_succ, Nat.mul_comm (32 ^ _) 32, ← Nat.mul_assoc] at hM
      exact hM
    have hMb : M * 32 ≤ 524288 := Nat.le_trans (Nat.le_mul_of_pos_right _ hpow) hM'
    have hl : ((p :: ps).length : Int) = ps.length + 1 := by simp
    rw [hl] at he
    obtain ⟨o, c1, d1⟩ := cas_dy hm h1 (by omega) (by omega) hi h2 (by omega)
    have hb := mul_le hi h2
    rw [show 4 * (M * 8) = M * 32 by omega] at hb
    obtain ⟨q, c2, d2, b2⟩ := chain_dy ps o _ (e + -2) (M * 32) (fun x hx => hp x (by simp [hx])) d1 hb hM' (by omega) (by omega)
    refine ⟨q, .cons c1 c2, ?_, ?_⟩
    · rw [hl]
      have : e - 2 * ((ps.length : Int) + 1) = e + -2 - 2 * (ps.length : Int) := by omega
      rw [this]
      exact d2
    · rw [List.length_cons, Nat.pow_succ, Nat.mul_comm (32 ^ _) 32, ← Nat.mul_assoc]
      exact b2

end Go.Proofs.Yteikkbmmbnihaaa
