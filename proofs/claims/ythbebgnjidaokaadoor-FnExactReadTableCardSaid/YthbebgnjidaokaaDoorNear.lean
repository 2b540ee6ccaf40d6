/-
  Nearness, in the program and in the model.
-/
import Derived.Test.YthbebgnjidaokaaDoorMo
namespace Go.Proofs.YthbebgnjidaokaaDoor
open Go.RowKit Fl
open Ieee

theorem le_walk {k : FloatKind} {x y : Nat} (hx : num k.format x) (hy : num k.format y) : (k.format.order x y == some .lt || k.format.order x y == some .eq) = decide (V k.format x ≤ V k.format y) := by
  rw [lt_walk hx hy, eq_walk hx hy, Bool.eq_iff_iff]
  simp only [Bool.or_eq_true, decide_eq_true_eq]
  constructor
  · intro h; rcases h with h | h <;> grind
  · intro h
    by_cases he : V k.format x = V k.format y
    · exact .inr he
    · exact .inl (by grind)

/-- The word of a number with the other sign is the other word. -/
theorem V_word (f : Format) (s : Bool) {R : Nat} (h : R < f.infRung) : V f (f.word s R) = if s then -V f (f.word false R) else V f (f.word false R) := by
  unfold V
  rw [read_word f s R h, read_word f false R h]
  split <;> (cases s <;> simp [val])

theorem write_word (f : Format) (m : Nat) (e : Int) : ∃ R, R ≤ f.infRung ∧ ∀ s, f.write (.number s m e) = f.word s R := by
  by_cases hm : m = 0
  · exact ⟨0, Nat.zero_le _, fun s => by show f.nearest s m e = _; unfold Format.nearest; rw [if_pos hm]⟩
  · refine ⟨min ((max (e + ↑m.log2 - ↑f.fractionBits) f.leastPlace - f.leastPlace).toNat * f.binade +
      Toward.even.cut false (m <<< (e - max (e + ↑m.log2 - ↑f.fractionBits) f.leastPlace).toNat) (max (e + ↑m.log2 - ↑f.fractionBits) f.leastPlace - e).toNat) f.infRung, Nat.min_le_right _ _, fun s => ?_⟩
    show f.nearest s m e = _
    unfold Format.nearest
    rw [if_neg hm]
    cases s <;> rfl

theorem num_word {f : Format} {s : Bool} {R : Nat} (hfb : f.binade ≤ f.infRung) (h : R ≤ f.infRung) (hn : num f (f.word s R)) : R < f.infRung := by
  rcases Nat.lt_or_ge R f.infRung with h1 | h1
  · exact h1
  · exfalso
    have : R = f.infRung := by omega
    subst this
    have hi := f.infRung_lt
    have hlt : ¬ f.infRung < f.binade := by omega
    unfold num Format.read Format.word at hn
    cases s
    · simp only [Bool.false_eq_true, if_false] at hn
      rw [Nat.mod_eq_of_lt hi, if_neg hlt, if_neg (Nat.lt_irrefl _), if_pos rfl] at hn
      cases hn
    · simp only [if_true] at hn
      rw [Nat.add_mod_left, Nat.mod_eq_of_lt hi, if_neg hlt, if_neg (Nat.lt_irrefl _), if_pos rfl] at hn
      cases hn

/-- The difference of two parts, as float64. -/
def dW (a b : Nat) : Nat := (floatBits .sub .f64 (yW a) (yW b)).getD 0

theorem dW_spec {a b : Nat} (ha : fin .f32 a = true) (hb : fin .f32 b = true) :
    floatBits .sub .f64 (yW a) (yW b) = some (dW a b) ∧ num FloatKind.f64.format (dW a b) ∧ dW a b < 2 ^ 64 ∧
    RndV FloatKind.f64.format (V FloatKind.f32.format a - V FloatKind.f32.format b) (V FloatKind.f64.format (dW a b)) := by
  obtain ⟨a1, a2, a3⟩ := yW_spec ha
  obtain ⟨b1, b2, b3⟩ := yW_spec hb
  have h1 := V_bound FloatKind.f32.format (by decide) a
  have h2 := V_bound FloatKind.f32.format (by decide) b
  have h3 : p2 (2 ^ (FloatKind.f32.format.exponentBits - 1)) + p2 (2 ^ (FloatKind.f32.format.exponentBits - 1)) < lim FloatKind.f64.format := by decide +kernel
  obtain ⟨d, d1, d2, d3⟩ := sub_spec .f64 (fin_num.1 a2) (fin_num.1 b2) (by rw [a3, b3]; grind) (by rw [a3, b3]; grind)
  rw [a3, b3] at d3
  have e : dW a b = d := by unfold dW; rw [d1]; rfl
  rw [e]
  exact ⟨d1, d2, Format.sub_lt _ d1, d3⟩

theorem fmt_bin (k : FloatKind) : k.format.binade ≤ k.format.infRung := by cases k <;> decide

/-- Written with the other sign it stands for the negative. -/
theorem write_opp (k : FloatKind) {m : Nat} {e : Int} {s t : Bool} (h : num k.format (k.format.write (.number s m e))) :
    V k.format (k.format.write (.number t m e)) = if s = t then V k.format (k.format.write (.number s m e)) else -V k.format (k.format.write (.number s m e)) := by
  obtain ⟨R, hR, hw⟩ := write_word k.format m e
  rw [hw] at h
  have hlt := num_word (fmt_bin k) hR h
  rw [hw, hw, V_word _ s hlt, V_word _ t hlt]
  cases s <;> cases t <;> simp [Rat.neg_neg]

theorem signed_opp (s : Bool) (m u : Nat) : signed (!s) m u = -signed s m u := by cases s <;> simp [signed]

theorem sum_swap (s t : Bool) (m n : Nat) (i j : Int) : ∃ (M : Nat) (E : Int) (σ τ : Bool),
    Datum.sum (.number s m i) (.number (!t) n j) = some (.number σ M E) ∧ Datum.sum (.number t n j) (.number (!s) m i) = some (.number τ M E) ∧ (M = 0 ∨ σ = !τ) := by
  unfold Datum.sum
  simp only
  rw [Int.min_comm j i, signed_opp, signed_opp]
  generalize signed s m (i - min i j).toNat = A
  generalize signed t n (j - min i j).toNat = B
  have hT : B + -A = -(A + -B) := by omega
  rw [hT]
  generalize A + -B = T
  refine ⟨T.natAbs, min i j, _, _, rfl, by rw [Int.natAbs_neg], ?_⟩
  by_cases h0 : T = 0
  · left; omega
  · right
    rw [if_neg h0, if_neg (by omega)]
    by_cases h1 : T < 0
    · rw [decide_eq_true h1, decide_eq_false (show ¬ -T < 0 by omega)]; rfl
    · rw [decide_eq_false h1, decide_eq_true (show -T < 0 by omega)]; rfl

/-- Exchanged, the difference is the negative. -/
theorem dW_swap {a b : Nat} (ha : fin .f32 a = true) (hb : fin .f32 b = true) : V FloatKind.f64.format (dW b a) = -V FloatKind.f64.format (dW a b) := by
  obtain ⟨d1, d2, _, d4⟩ := dW_spec ha hb
  obtain ⟨c1, c2, _, c4⟩ := dW_spec hb ha
  obtain ⟨_, a2, _⟩ := yW_spec ha
  obtain ⟨_, b2, _⟩ := yW_spec hb
  obtain ⟨s, m, i, hx⟩ := num_read (fin_num.1 a2)
  obtain ⟨t, n, j, hy⟩ := num_read (fin_num.1 b2)
  obtain ⟨M, E, σ, τ, k1, k2, k3⟩ := sum_swap s t m n i j
  have e1 : dW a b = FloatKind.f64.format.write (.number σ M E) := by
    have : floatBits .sub .f64 (yW a) (yW b) = some (FloatKind.f64.format.write (.number σ M E)) := by
      show FloatKind.f64.format.sub _ _ = _
      unfold Format.sub
      rw [hx, hy]
      show (Datum.sum (.number s m i) (.number (!t) n j)).map _ = _
      rw [k1]; rfl
    rw [this] at d1; injection d1 with d1; exact d1.symm
  have e2 : dW b a = FloatKind.f64.format.write (.number τ M E) := by
    have : floatBits .sub .f64 (yW b) (yW a) = some (FloatKind.f64.format.write (.number τ M E)) := by
      show FloatKind.f64.format.sub _ _ = _
      unfold Format.sub
      rw [hx, hy]
      show (Datum.sum (.number t n j) (.number (!s) m i)).map _ = _
      rw [k2]; rfl
    rw [this] at c1; injection c1 with c1; exact c1.symm
  rcases k3 with h | h
  · -- nothing is left
    subst h
    have z : ∀ s, V FloatKind.f64.format (FloatKind.f64.format.write (.number s 0 E)) = 0 := by
      intro s
      have : FloatKind.f64.format.write (.number s 0 E) = FloatKind.f64.format.word s 0 := rfl
      rw [this]
      cases s <;> decide +kernel
    rw [e1, e2, z, z]; rfl
  · rw [e1] at d2
    rw [e1, e2, write_opp .f64 (t := τ) d2]
    subst h
    cases τ <;> simp

/-- Whether two numbers are near each other. -/
def nearP (a c d : Nat) : Bool := decide (absR (V FloatKind.f64.format (dW a c)) ≤ V FloatKind.f64.format d)
def nearB (a b c d bound : Nat) : Bool := fin .f32 a && fin .f32 b && (fin .f32 c && fin .f32 d) && (nearP a c bound && nearP b d bound)

theorem nearP_swap {a c bound : Nat} (ha : fin .f32 a = true) (hc : fin .f32 c = true) : nearP c a bound = nearP a c bound := by
  unfold nearP
  rw [dW_swap ha hc]
  congr 1
  generalize V FloatKind.f64.format (dW a c) = x
  have h1 := absR_cases x
  have h2 := absR_cases (-x)
  have : absR (-x) = absR x := by grind
  rw [this]

theorem nearB_swap (a b c d bound : Nat) : nearB c d a b bound = nearB a b c d bound := by
  unfold nearB
  cases ha : fin .f32 a <;> cases hb : fin .f32 b <;> cases hc : fin .f32 c <;> cases hd : fin .f32 d <;> simp
  rw [nearP_swap ha hc, nearP_swap hb hd]

theorem diff_walk {a b c d : Nat} (ha : fin .f32 a = true) (hb : fin .f32 b = true) (hc : fin .f32 c = true) (hd : fin .f32 d = true) (t : TypeId) (w : World) :
    (binOp .sub t (.complex .f64 (yW a) (yW b)) (.complex .f64 (yW c) (yW d))).run Tryd.prog w = .ok (.complex .f64 (dW a c) (dW b d)) w := by
  refine run_complex_sum w .sub (.inr rfl) t .f64 _ _ _ _ _ _ ?_
  unfold cSumBits
  rw [(dW_spec ha hc).1, (dW_spec hb hd).1]
  rfl

theorem nearP_impl {a c bound : Nat} (ha : fin .f32 a = true) (hc : fin .f32 c = true) (hb : fin .f64 bound = true) :
    (FloatKind.f64.format.order (dW a c % 2 ^ 63) bound == some .lt || FloatKind.f64.format.order (dW a c % 2 ^ 63) bound == some .eq) = nearP a c bound := by
  obtain ⟨_, d2, _, _⟩ := dW_spec ha hc
  obtain ⟨a1, a2⟩ := abs_spec .f64 d2
  rw [show FloatKind.f64.format.signWeight = 2 ^ 63 by decide] at a1 a2
  rw [le_walk a1 (fin_num.1 hb), a2]
  rfl

theorem nearP_spec {a c bound : Nat} (ha : fin .f32 a = true) (hc : fin .f32 c = true) (hb : fin .f64 bound = true) :
    ((FloatKind.f64.format.order (dW a c) bound == some .lt || FloatKind.f64.format.order (dW a c) bound == some .eq) &&
     (FloatKind.f64.format.order (Op.negFloat .f64 (dW a c)) bound == some .lt || FloatKind.f64.format.order (Op.negFloat .f64 (dW a c)) bound == some .eq)) = nearP a c bound := by
  obtain ⟨_, d2, d3, _⟩ := dW_spec ha hc
  obtain ⟨n1, n2⟩ := neg_spec .f64 (show dW a c < 2 ^ FloatKind.f64.format.width from d3) d2
  rw [le_walk d2 (fin_num.1 hb), le_walk n1 (fin_num.1 hb), n2]
  unfold nearP
  rw [Bool.eq_iff_iff]
  simp only [Bool.and_eq_true, decide_eq_true_eq]
  have := absR_cases (V FloatKind.f64.format (dW a c))
  grind

end Go.Proofs.YthbebgnjidaokaaDoor
