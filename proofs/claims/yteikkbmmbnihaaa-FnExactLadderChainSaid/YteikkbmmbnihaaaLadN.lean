/-
  Ladders with 1 behind them: what is seen through the ladder, and through its chain; both are near the exact number.
-/
import Derived.Test.YteikkbmmbnihaaaCmN
import Derived.Test.YteikkbmmbnihaaaLadX
namespace Go.Proofs.Yteikkbmmbnihaaa
open Go.RowKit Fl
open Ieee

/-! All ladders, in whole numbers. -/

/-- The whole numbers of the chain of a ladder. -/
def ladI (c : Nat) (ns : List Nat) : Ints := chainI wireD (partsFrom c 1 ns)
/-- One divided by a number; a part across. -/
def invR (z : Rat × Rat) : Rat × Rat := (z.1 / (z.1 * z.1 + z.2 * z.2), -z.2 / (z.1 * z.1 + z.2 * z.2))
def tabR (d : Nat) : Rat := (tabQ d : Rat) / 4
/-- The exact number that is seen through a ladder. -/
def seenR (c : Nat) : Nat → List Nat → Rat × Rat → Rat × Rat
  | _, [], z => z
  | k, d :: ds, z => seenR c (k + 1) ds (if crossB c k then let y := invR z; invR (y.1, y.2 + tabR d) else (z.1, z.2 + tabR d))

/-- What is asked of a ladder's chain. -/
def ladOk (c : Nat) (ns : List Nat) : Bool :=
  let i := ladI c ns
  let n : Int := (16 ^ ns.length : Nat)
  let m : Int := (4 ^ ns.length : Nat)
  let z := seenR c 1 ns (1, 0)
  decide (i.b = 0) && decide (i.c = 0) && decide (i.e = 0) && decide (i.h = 0) && decide (i.a * i.g + i.d * i.f = n) &&
  decide (i.a.natAbs ≤ 1000) && decide (i.d.natAbs ≤ 1000) && decide (i.f.natAbs ≤ 1000) && decide (i.g.natAbs ≤ 1000) &&
  decide (i.a * i.a + i.d * i.d ≤ 170 * (m * m)) && decide (i.g * i.g + i.f * i.f ≤ 170 * (m * m)) && decide (m * m ≤ 4 * (i.g * i.g + i.f * i.f)) &&
  decide (z.1 * z.1 + z.2 * z.2 ≤ 121) && decide (z.1 * i.g - z.2 * i.f = i.a) && decide (z.1 * i.f + z.2 * i.g = i.d)

theorem lad_ok0 : (ladOk 115 [] && ladOk 112 []) = true := by decide +kernel
theorem lad_ok1 : ∀ i : Fin 8, (ladOk 115 [i.val] && ladOk 112 [i.val]) = true := by decide +kernel
theorem lad_ok2 : ∀ i j : Fin 8, (ladOk 115 [i.val, j.val] && ladOk 112 [i.val, j.val]) = true := by decide +kernel
theorem lad_ok3 : ∀ i j k : Fin 8, (ladOk 115 [i.val, j.val, k.val] && ladOk 112 [i.val, j.val, k.val]) = true := by decide +kernel

theorem lad_ok {c : Nat} {ns : List Nat} (hc : c = 115 ∨ c = 112) (hl : ns.length ≤ 3) (hn : ∀ n ∈ ns, n < 8) : ladOk c ns = true := by
  have key : ∀ b : Bool × Bool, (b.1 && b.2) = true → b.1 = true ∧ b.2 = true := fun b h => by simpa using h
  have both : ∀ l : List Nat, (ladOk 115 l && ladOk 112 l) = true → ladOk c l = true := by
    intro l h
    have := key (_, _) h
    rcases hc with rfl | rfl
    · exact this.1
    · exact this.2
  match ns, hl, hn with
  | [], _, _ => exact both _ lad_ok0
  | [a], _, h => exact both _ (lad_ok1 ⟨a, h a (by simp)⟩)
  | [a, b], _, h => exact both _ (lad_ok2 ⟨a, h a (by simp)⟩ ⟨b, h b (by simp)⟩)
  | [a, b, d], _, h => exact both _ (lad_ok3 ⟨a, h a (by simp)⟩ ⟨b, h b (by simp)⟩ ⟨d, h d (by simp)⟩)
  | _ :: _ :: _ :: _ :: _, h, _ => simp at h

/-! Step by step. -/

/-- All words of a part across. -/
structure AcrW (a b t e f o p : Nat) : Prop where
  fz : Fin2 a b
  nz : Nz a b
  q1 : QuoW 1065353216 0 a b e f
  k1 : Fin2 e f
  s1 : AddOk e 0
  s2 : AddOk f t
  k2 : Fin2 (addB e 0) (addB f t)
  nz2 : Nz (addB e 0) (addB f t)
  q2 : QuoW 1065353216 0 (addB e 0) (addB f t) o p
  k3 : Fin2 o p
/-- All words of a part in the way. -/
structure SerW (a b t : Nat) : Prop where
  fz : Fin2 a b
  s1 : AddOk a 0
  s2 : AddOk b t
  k : Fin2 (addB a 0) (addB b t)

/-- What is seen through the parts of a ladder from a place on, word by word. -/
inductive SeenW (c : Nat) : Nat → List Nat → Nat → Nat → Nat → Nat → Prop
  | nil {k a b : Nat} : SeenW c k [] a b a b
  | ser {k d a b o p : Nat} {ds : List Nat} : crossB c k = false → SerW a b (tabI d) → SeenW c (k + 1) ds (addB a 0) (addB b (tabI d)) o p → SeenW c k (d :: ds) a b o p
  | acr {k d a b e f x y o p : Nat} {ds : List Nat} : crossB c k = true → AcrW a b (tabI d) e f x y → SeenW c (k + 1) ds x y o p → SeenW c k (d :: ds) a b o p

def acrOk (z : Rat × Rat) (q m B K m2 B2 K2 : Rat) : Bool :=
  let y := invR z
  let s := (y.1, y.2 + q)
  let o := invR s
  decide (m * m ≤ z.1 * z.1 + z.2 * z.2) && decide (z.1 * z.1 + z.2 * z.2 ≤ B * B) && decide (y.1 * y.1 + y.2 * y.2 ≤ K * K) && decide (z.1 * y.1 - z.2 * y.2 = 1) && decide (z.1 * y.2 + z.2 * y.1 = 0) &&
  decide (m2 * m2 ≤ s.1 * s.1 + s.2 * s.2) && decide (s.1 * s.1 + s.2 * s.2 ≤ B2 * B2) && decide (o.1 * o.1 + o.2 * o.2 ≤ K2 * K2) && decide (s.1 * o.1 - s.2 * o.2 = 1) && decide (s.1 * o.2 + s.2 * o.1 = 0)

theorem tab_r : ∀ d : Fin 8, decide (V FloatKind.f32.format (tabI d.val) = tabR d.val) = true := by decide +kernel
theorem tab_cm {d : Nat} (h : d < 8) : Cm 0 (tabI d) 0 (tabR d) 0 := Cm.of (by decide) (part_fin ⟨d, h⟩) (by decide +kernel) (by simpa using tab_r ⟨d, h⟩)

theorem acr_at {a b d : Nat} {X Y ε : Rat} (h : Cm a b X Y ε) (hd : d < 8) (m B K m2 B2 K2 η1 η2 η3 : Rat) (hT : acrOk (X, Y) (tabR d) m B K m2 B2 K2 = true)
    (hB0 : 0 ≤ B) (hK0 : 0 ≤ K) (hB20 : 0 ≤ B2) (hK20 : 0 ≤ K2) (hε : ε < m) (hη2 : η2 < m2)
    (c1 : B + ε ≤ 1073741824) (c2 : 1 / 1000000 ≤ m - ε) (c3 : 0 + ε * K + 3 / 2 * ((1 + 0) * (1 / 2000000)) ≤ η1 * (m - ε)) (c4 : 0 ≤ η1)
    (d1 : p2 (-60) ≤ B2 + η1) (d2 : B2 + η1 ≤ 100000000000000000000) (d3 : η1 + 0 + 3 / 2 * ((B2 + η1) * p2 (-23)) ≤ η2)
    (e1 : B2 + η2 ≤ 1073741824) (e2 : 1 / 1000000 ≤ m2 - η2) (e3 : 0 + η2 * K2 + 3 / 2 * ((1 + 0) * (1 / 2000000)) ≤ η3 * (m2 - η2)) (e4 : 0 ≤ η3) :
    ∃ e f o p, AcrW a b (tabI d) e f o p ∧ Cm o p (invR ((invR (X, Y)).1, (invR (X, Y)).2 + tabR d)).1 (invR ((invR (X, Y)).1, (invR (X, Y)).2 + tabR d)).2 η3 := by
  unfold acrOk at hT
  simp only [Bool.and_eq_true, decide_eq_true_eq] at hT
  obtain ⟨⟨⟨⟨⟨⟨⟨⟨⟨t1, t2⟩, t3⟩, t4⟩, t5⟩, t6⟩, t7⟩, t8⟩, t9⟩, t10⟩ := hT
  generalize invR (X, Y) = y at *
  obtain ⟨U, T⟩ := y
  dsimp only at *
  generalize invR (U, T + tabR d) = w at *
  obtain ⟨U2, T2⟩ := w
  dsimp only at *
  have one : Md 1 0 1 := ⟨by decide +kernel, by decide +kernel⟩
  have h10 : (1 : Rat) / 1073741824 ≤ 1 + 0 := by decide +kernel
  have h11 : (1 : Rat) + 0 ≤ 268435456 := by decide +kernel
  obtain ⟨e, f, q1, n1⟩ := Cm.quo one_cm h (U := U) (T := T) 1 B K m η1 one ⟨hB0, t2⟩ ⟨hK0, t3⟩ t4 t5 t1 h10 h11 c1 c2 c3 c4
  obtain ⟨s1, s2, n2⟩ := Cm.add n1 (tab_cm hd) (B2 + η1) η2 ((show Md U (T + tabR d) B2 from ⟨hB20, t7⟩).to (by grind) rfl |>.le (by grind)) d1 d2 d3
  have n2' := n2.to (Z := U) (W := T + tabR d) (by grind) rfl
  obtain ⟨o, p, q2, n3⟩ := Cm.quo one_cm n2' (U := U2) (T := T2) 1 B2 K2 m2 η3 one ⟨hB20, t7⟩ ⟨hK20, t8⟩ t9 t10 t6 h10 h11 e1 e2 e3 e4
  exact ⟨e, f, o, p, ⟨h.f2, h.nz t1 hε, q1, n1.f2, s1, s2, n2.f2, n2'.nz t6 hη2, q2, n3.f2⟩, n3⟩

theorem ser_at {a b d : Nat} {X Y ε : Rat} (h : Cm a b X Y ε) (hd : d < 8) (B η : Rat) (hB : 0 ≤ B) (hT : X * X + (Y + tabR d) * (Y + tabR d) ≤ B * B) (d1 : p2 (-60) ≤ B + ε) (d2 : B + ε ≤ 100000000000000000000) (d3 : ε + 0 + 3 / 2 * ((B + ε) * p2 (-23)) ≤ η) :
    SerW a b (tabI d) ∧ Cm (addB a 0) (addB b (tabI d)) X (Y + tabR d) η := by
  obtain ⟨s1, s2, n2⟩ := Cm.add h (tab_cm hd) (B + ε) η ((show Md X (Y + tabR d) B from ⟨hB, hT⟩).to (by grind) rfl |>.le (by grind)) d1 d2 d3
  exact ⟨⟨h.f2, s1, s2, n2.f2⟩, n2.to (by grind) rfl⟩

end Go.Proofs.Yteikkbmmbnihaaa
