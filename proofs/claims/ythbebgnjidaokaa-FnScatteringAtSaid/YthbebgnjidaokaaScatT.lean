/-
  What ScatteringAt gives: on a row, between two rows, outside.
-/
import Derived.Test.YthbebgnjidaokaaBetS
import Derived.Test.YthbebgnjidaokaaSameTab
namespace Go.Proofs.Ythbebgnjidaokaa
open Go.RowKit Fl
open Ieee

/-- The part of the way. -/
def partB (n m : Int) : Nat := (floatBits .quo .f32 (floatOfInt .f32 n) (floatOfInt .f32 m)).getD 0
theorem int32 {n : Int} (h0 : 0 ≤ n) (h1 : n ≤ 9999999) : num FloatKind.f32.format (floatOfInt .f32 n) ∧ V FloatKind.f32.format (floatOfInt .f32 n) = (n : Rat) := by
  have hn0 : (0 : Rat) ≤ (n : Rat) := by simpa using Rat.intCast_le_intCast.2 h0
  have hn1 : (n : Rat) ≤ 9999999 := by
    have := Rat.intCast_le_intCast.2 h1
    simpa using this
  have l : (9999999 : Rat) < lim FloatKind.f32.format := by decide +kernel
  obtain ⟨a, b⟩ := ofInt_spec .f32 n (by grind) (by grind)
  refine ⟨a, rndV_exact b ⟨n, 0, ?_, by decide, by rw [p2_zero, Rat.mul_one]⟩⟩
  rw [show (2 : Nat) ^ (FloatKind.f32.format.fractionBits + 1) = 16777216 by decide]
  omega
theorem part_spec {n m : Int} (h0 : 0 ≤ n) (h1 : n ≤ m) (h2 : 1 ≤ m) (h3 : m ≤ 9999999) : floatBits .quo .f32 (floatOfInt .f32 n) (floatOfInt .f32 m) = some (partB n m) ∧ Part (partB n m) := by
  obtain ⟨a1, a2⟩ := int32 h0 (by omega)
  obtain ⟨b1, b2⟩ := int32 (n := m) (by omega) h3
  have hn0 : (0 : Rat) ≤ (n : Rat) := by simpa using Rat.intCast_le_intCast.2 h0
  have hm1 : (1 : Rat) ≤ (m : Rat) := by simpa using Rat.intCast_le_intCast.2 h2
  have hnm : (n : Rat) ≤ (m : Rat) := Rat.intCast_le_intCast.2 h1
  have hm0 : V FloatKind.f32.format (floatOfInt .f32 m) ≠ 0 := by rw [b2]; grind
  obtain ⟨X, hX⟩ : ∃ X : Rat, X * (m : Rat) = (n : Rat) := ⟨(n : Rat) / (m : Rat), Rat.div_mul_cancel (by grind)⟩
  have X0 : 0 ≤ X := by
    rcases Rat.le_total (a := 0) (b := X) with y | y
    · exact y
    · by_cases hx : X = 0
      · rw [hx]; exact Rat.le_refl
      · exfalso
        have := Rat.mul_pos (show 0 < -X by grind) (show (0 : Rat) < (m : Rat) by grind)
        grind
  have X1 : X ≤ 1 := by
    rcases Rat.le_total (a := X) (b := 1) with y | y
    · exact y
    · by_cases hx : X = 1
      · rw [hx]; exact Rat.le_refl
      · exfalso
        have := Rat.mul_pos (show 0 < X - 1 by grind) (show (0 : Rat) < (m : Rat) by grind)
        grind
  have l : (1 : Rat) < p2 (2 ^ (FloatKind.f32.format.exponentBits - 1) - 2) := by decide +kernel
  obtain ⟨r, r1, r2, r3⟩ := quo_spec .f32 a1 b1 hm0 X (by rw [a2, b2]; exact hX) (by grind) (by grind)
  have e : partB n m = r := by unfold partB; rw [r1]; rfl
  rw [e]
  refine ⟨r1, fin_num.2 r2, rndV_ge r3 ⟨0, 0, by decide, by decide, by simp⟩ X0, rndV_le r3 ⟨1, 0, by decide, by decide, by rw [p2_zero]; simp⟩ X1⟩

/-- What is between two matrices. -/
def betRow (q r : Words) (t : Nat) : Option Words :=
  match betB (q.a, q.b) (r.a, r.b) t, betB (q.c, q.d) (r.c, r.d) t, betB (q.e, q.f) (r.e, r.f) t, betB (q.g, q.h) (r.g, r.h) t with
  | some a, some b, some c, some d => some ⟨a.1, a.2, b.1, b.2, c.1, c.2, d.1, d.2⟩
  | _, _, _, _ => none
/-- The rows from one on, with the one ahead. -/
def scatR (f : Int) : Option RowW → List RowW → Option Words
  | _, [] => none
  | p, r :: rs => if r.f = f then some r.m else match p with
    | none => scatR f (some r) rs
    | some q => if f < q.f ∨ r.f < f then scatR f (some r) rs else betRow q.m r.m (partB (f - q.f) (r.f - q.f))
/-- What ScatteringAt gives. -/
def scatB (rs : List RowW) (f : Int) : Option Words := if tabB rs then scatR f none rs else none

theorem betB_fin {x y : Nat × Nat} {t : Nat} {o : Nat × Nat} (h : betB x y t = some o) : fin .f32 o.1 = true ∧ fin .f32 o.2 = true := by
  unfold betB at h
  split at h
  · split at h
    · rename_i hf
      injection h with h
      subst h
      simpa only [Bool.and_eq_true] using hf
    · cases h
  · cases h
theorem betRow_fin {q r m : Words} {t : Nat} (h : betRow q r t = some m) : finTwo m.a m.b m.c m.d m.e m.f m.g m.h = true := by
  unfold betRow at h
  split at h
  · rename_i a b c d h1 h2 h3 h4
    injection h with h
    subst h
    obtain ⟨a1, a2⟩ := betB_fin h1
    obtain ⟨b1, b2⟩ := betB_fin h2
    obtain ⟨c1, c2⟩ := betB_fin h3
    obtain ⟨d1, d2⟩ := betB_fin h4
    unfold finTwo
    dsimp only
    rw [a1, a2, b1, b2, c1, c2, d1, d2]
    rfl
  · cases h
theorem scatR_fin (f : Int) (rs : List RowW) : ∀ {p : Option RowW} {m : Words}, (∀ r ∈ rs, r.finB = true) → scatR f p rs = some m → finTwo m.a m.b m.c m.d m.e m.f m.g m.h = true := by
  induction rs with
  | nil => intro p m _ h; cases h
  | cons r rs ih =>
    intro p m hf h
    have hr := hf r (List.mem_cons_self ..)
    have hrs : ∀ x ∈ rs, x.finB = true := fun x hx => hf x (List.mem_cons_of_mem _ hx)
    unfold scatR at h
    split at h
    · injection h with h
      subst h
      exact hr
    · split at h
      · exact ih hrs h
      · split at h
        · exact ih hrs h
        · exact betRow_fin h

/-- The rows behind a frequency have greater ones. -/
theorem rowsB_after (rs : List RowW) : ∀ {q : Int}, rowsB (some q) rs = true → ∀ k, (h : k < rs.length) → q < rs[k].f := by
  induction rs with
  | nil => intro q _ k h; simp at h
  | cons r rs ih =>
    intro q hb k h
    have h' : (freqB r.f && r.finB && afterB (some q) r.f && rowsB (some r.f) rs) = true := hb
    simp only [Bool.and_eq_true] at h'
    have hq : q < r.f := by
      have := h'.1.2
      unfold afterB at this
      simpa using this
    cases k with
    | zero => exact hq
    | succ k =>
      have hk : k < rs.length := by simpa using h
      have := ih h'.2 k hk
      show q < (rs[k]'hk).f
      omega
theorem rows_mono {rs : List RowW} : ∀ {p : Option Int}, rowsB p rs = true → ∀ i j, (hij : i < j) → (hj : j < rs.length) → (rs[i]'(by omega)).f < rs[j].f := by
  induction rs with
  | nil => intro p _ i j _ hj; simp at hj
  | cons r rs ih =>
    intro p hb i j hij hj
    have h' : (freqB r.f && r.finB && afterB p r.f && rowsB (some r.f) rs) = true := hb
    simp only [Bool.and_eq_true] at h'
    cases j with
    | zero => omega
    | succ j =>
      have hj' : j < rs.length := by simpa using hj
      cases i with
      | zero => exact rowsB_after rs h'.2 j hj'
      | succ i => exact ih h'.2 i j (by omega) hj'
/-- On a row it is the row. -/
theorem scatR_row (rs : List RowW) : ∀ {p : Option RowW} {k : Nat} (h : k < rs.length), rowsB (p.map RowW.f) rs = true → scatR rs[k].f p rs = some rs[k].m := by
  induction rs with
  | nil => intro p k h; simp at h
  | cons r rs ih =>
    intro p k h hb
    have h' : (freqB r.f && r.finB && afterB (p.map RowW.f) r.f && rowsB (some r.f) rs) = true := hb
    simp only [Bool.and_eq_true] at h'
    cases k with
    | zero =>
      show scatR r.f p (r :: rs) = some r.m
      unfold scatR
      rw [if_pos rfl]
    | succ k =>
      have hk : k < rs.length := by simpa using h
      have e : (r :: rs)[k + 1] = rs[k] := rfl
      have hlt : r.f < rs[k].f := rowsB_after rs h'.2 k hk
      rw [e]
      unfold scatR
      rw [if_neg (by omega)]
      have := ih (p := some r) hk h'.2
      cases p with
      | none => exact this
      | some q =>
        dsimp only
        rw [if_pos (.inr hlt)]
        exact this

/-- Below the first row there is none. -/
theorem scatR_low (f : Int) (rs : List RowW) : ∀ {q : RowW}, f < q.f → rowsB (some q.f) rs = true → scatR f (some q) rs = none := by
  induction rs with
  | nil => intro q _ _; rfl
  | cons r rs ih =>
    intro q hq hb
    have hlt := rowsB_after (r :: rs) hb 0 (by simp)
    have hlt' : q.f < r.f := hlt
    have h' : (freqB r.f && r.finB && afterB (some q.f) r.f && rowsB (some r.f) rs) = true := hb
    simp only [Bool.and_eq_true] at h'
    unfold scatR
    rw [if_neg (by omega)]
    dsimp only
    rw [if_pos (.inl hq)]
    exact ih (by omega) h'.2
/-- Above the last row there is none. -/
theorem scatR_high (f : Int) (rs : List RowW) : ∀ {p : Option RowW}, (∀ r ∈ rs, r.f < f) → scatR f p rs = none := by
  induction rs with
  | nil => intro p _; rfl
  | cons r rs ih =>
    intro p h
    have hr := h r (List.mem_cons_self ..)
    have hrs := ih (p := some r) fun x hx => h x (List.mem_cons_of_mem _ hx)
    unfold scatR
    rw [if_neg (by omega)]
    cases p with
    | none => exact hrs
    | some q =>
      dsimp only
      rw [if_pos (.inr hr)]
      exact hrs
/-- Outside of the table there is none. -/
theorem scatB_in {rs : List RowW} {f : Int} {m : Words} (h : scatB rs f = some m) : ∃ (h0 : 0 < rs.length), rs[0].f ≤ f ∧ f ≤ (rs[rs.length - 1]'(by omega)).f := by
  unfold scatB at h
  cases ht : tabB rs
  · rw [ht] at h; cases h
  · rw [ht] at h
    have hb : rowsB none rs = true := by
      unfold tabB at ht
      simp only [Bool.and_eq_true] at ht
      exact ht.1
    have h0 := (tabB_len ht).1
    refine ⟨h0, ?_, ?_⟩
    · cases rs with
      | nil => simp at h0
      | cons r rs =>
        have h' : (freqB r.f && r.finB && afterB none r.f && rowsB (some r.f) rs) = true := hb
        simp only [Bool.and_eq_true] at h'
        show r.f ≤ f
        rcases Int.lt_or_le f r.f with g | g
        · exfalso
          have h2 : scatR f none (r :: rs) = some m := h
          unfold scatR at h2
          rw [if_neg (by omega)] at h2
          dsimp only at h2
          rw [scatR_low f rs g h'.2] at h2
          cases h2
        · exact g
    · rcases Int.lt_or_le (rs[rs.length - 1]'(by omega)).f f with g | g
      · exfalso
        have hall : ∀ r ∈ rs, r.f < f := by
          intro r hr
          obtain ⟨i, hi, rfl⟩ := List.getElem_of_mem hr
          rcases Nat.lt_or_ge i (rs.length - 1) with hlt | hge
          · have := rows_mono hb i (rs.length - 1) hlt (by omega)
            omega
          · have e : i = rs.length - 1 := by omega
            subst e
            exact g
        have h2 : scatR f none rs = some m := h
        rw [scatR_high f rs hall] at h2
        cases h2
      · exact g

/-- A finite number and a zero. -/
theorem add_zero32 {a e : Nat} (ha : fin .f32 a = true) (he : fin .f32 e = true) (h0 : V FloatKind.f32.format e = 0) : fin .f32 (adW a e) = true ∧ V FloatKind.f32.format (adW a e) = V FloatKind.f32.format a := by
  obtain ⟨m1, m2⟩ := fin_max ha
  obtain ⟨s, m, i, hx⟩ := num_read (fin_num.1 ha)
  obtain ⟨t, n, j, hy⟩ := num_read (fin_num.1 he)
  obtain ⟨s', m', e', hs, hv⟩ := sum_val s t m n i j
  have va : V FloatKind.f32.format a = val (.number s m i) := by unfold V; rw [hx]
  have ve : V FloatKind.f32.format e = val (.number t n j) := by unfold V; rw [hy]
  rw [← va, ← ve, h0, Rat.add_zero] at hv
  obtain ⟨g1, g2⟩ := write_max (s := s') (m := m') (e := e') (by rw [hv]; exact m1) (by rw [hv]; exact m2)
  have hf : floatBits .add .f32 a e = some (FloatKind.f32.format.write (.number s' m' e')) := by
    simp only [floatBits, Format.add, hx, hy, hs, Option.map_some]
  have er : adW a e = FloatKind.f32.format.write (.number s' m' e') := by unfold adW; rw [hf]; rfl
  rw [er]
  rw [hv] at g2
  exact ⟨fin_num.2 g1, rndV_exact g2 (has_V _ _)⟩
theorem sub_self32 {a : Nat} (ha : fin .f32 a = true) : fin .f32 (sbW a a) = true ∧ V FloatKind.f32.format (sbW a a) = 0 := by
  have l := lim_pos FloatKind.f32.format
  obtain ⟨r, r1, r2, r3⟩ := sub_spec .f32 (fin_num.1 ha) (fin_num.1 ha) (by rw [Rat.sub_self]; exact l) (by rw [Rat.sub_self]; grind)
  have e : sbW a a = r := by unfold sbW; rw [r1]; rfl
  rw [e]
  rw [Rat.sub_self] at r3
  exact ⟨fin_num.2 r2, rndV_exact r3 (has_zero _)⟩
/-- Between a number and itself it is the number. -/
theorem betB_same {a b t : Nat} (ha : fin .f32 a = true) (hb : fin .f32 b = true) (T : Part t) : ∃ u v, betB (a, b) (a, b) t = some (u, v) ∧ fin .f32 u = true ∧ fin .f32 v = true ∧ V FloatKind.f32.format u = V FloatKind.f32.format a ∧ V FloatKind.f32.format v = V FloatKind.f32.format b := by
  obtain ⟨d1, d2⟩ := sub_self32 ha
  obtain ⟨e1, e2⟩ := sub_self32 hb
  obtain ⟨p, q, hp, _, f1, f2, g1, g2⟩ := mul_part d1 e1 T.f T.lo T.hi
  rw [d2, Rat.zero_mul] at g1
  rw [e2, Rat.zero_mul] at g2
  have z1 := rndV_exact g1 (has_zero _)
  have z2 := rndV_exact g2 (has_zero _)
  obtain ⟨u1, u2⟩ := add_zero32 ha f1 z1
  obtain ⟨v1, v2⟩ := add_zero32 hb f2 z2
  have hpB : pB (sbW a a) (sbW b b) t = (p, q) := by unfold pB; rw [hp]; rfl
  refine ⟨adW a p, adW b q, ?_, u1, v1, u2, v2⟩
  unfold betB
  dsimp only
  rw [hpB, d1, e1]
  dsimp only
  rw [u1, v1]
  rfl
/-- Two matrices whose numbers are the same. -/
def SameV (m n : Words) : Prop := (V FloatKind.f32.format m.a = V FloatKind.f32.format n.a ∧ V FloatKind.f32.format m.b = V FloatKind.f32.format n.b) ∧ (V FloatKind.f32.format m.c = V FloatKind.f32.format n.c ∧ V FloatKind.f32.format m.d = V FloatKind.f32.format n.d) ∧ (V FloatKind.f32.format m.e = V FloatKind.f32.format n.e ∧ V FloatKind.f32.format m.f = V FloatKind.f32.format n.f) ∧ (V FloatKind.f32.format m.g = V FloatKind.f32.format n.g ∧ V FloatKind.f32.format m.h = V FloatKind.f32.format n.h)
theorem betRow_same {m : Words} {t : Nat} (h : finTwo m.a m.b m.c m.d m.e m.f m.g m.h = true) (T : Part t) : ∃ n, betRow m m t = some n ∧ SameV n m := by
  unfold finTwo at h
  simp only [Bool.and_eq_true] at h
  obtain ⟨⟨⟨⟨a, b⟩, c, d⟩, e, f⟩, g, i⟩ := h
  obtain ⟨u1, v1, h1, _, _, p1, q1⟩ := betB_same a b T
  obtain ⟨u2, v2, h2, _, _, p2, q2⟩ := betB_same c d T
  obtain ⟨u3, v3, h3, _, _, p3, q3⟩ := betB_same e f T
  obtain ⟨u4, v4, h4, _, _, p4, q4⟩ := betB_same g i T
  refine ⟨⟨u1, v1, u2, v2, u3, v3, u4, v4⟩, ?_, ⟨p1, q1⟩, ⟨p2, q2⟩, ⟨p3, q3⟩, p4, q4⟩
  unfold betRow
  rw [h1, h2, h3, h4]
/-- Between two rows with the same matrix it is this one. -/
theorem scatB_flat {m : Words} {f : Int} (h : finTwo m.a m.b m.c m.d m.e m.f m.g m.h = true) (h0 : 10 ≤ f) (h1 : f ≤ 20) : ∃ n, scatB [⟨10, m⟩, ⟨20, m⟩] f = some n ∧ SameV n m := by
  have hr : RowW.finB ⟨10, m⟩ = true := h
  have hr2 : RowW.finB ⟨20, m⟩ = true := h
  have ht : tabB [⟨10, m⟩, ⟨20, m⟩] = true := by
    unfold tabB rowsB rowsB rowsB
    rw [hr, hr2]
    rfl
  have refl : SameV m m := ⟨⟨rfl, rfl⟩, ⟨rfl, rfl⟩, ⟨rfl, rfl⟩, rfl, rfl⟩
  unfold scatB
  rw [ht, if_pos rfl]
  by_cases e1 : f = 10
  · exact ⟨m, by unfold scatR; rw [if_pos e1.symm], refl⟩
  · by_cases e2 : f = 20
    · refine ⟨m, ?_, refl⟩
      unfold scatR
      rw [if_neg (by show ¬ (10 : Int) = f; omega)]
      dsimp only
      unfold scatR
      rw [if_pos (by show (20 : Int) = f; omega)]
    · obtain ⟨n, hn, hs⟩ := betRow_same h (part_spec (n := f - 10) (m := 20 - 10) (by omega) (by omega) (by decide) (by decide)).2
      refine ⟨n, ?_, hs⟩
      unfold scatR
      rw [if_neg (by show ¬ (10 : Int) = f; omega)]
      dsimp only
      unfold scatR
      rw [if_neg (by show ¬ (20 : Int) = f; omega)]
      dsimp only
      rw [if_neg (by omega)]
      exact hn

end Go.Proofs.Ythbebgnjidaokaa
