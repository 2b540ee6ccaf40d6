/-
  Each ladder with 1 behind it: all words of what is seen through it, and through its chain; the determinant is 1; both are near each other.
-/
import Derived.Test.YteikkbmmbnihaaaLadN
namespace Go.Proofs.Yteikkbmmbnihaaa
open Go.RowKit Fl
open Ieee

theorem t_s1 : ∀ i : Fin 8, decide ((1 : Rat) * 1 + (0 + tabR i.val) * (0 + tabR i.val) ≤ 9 / 4 * (9 / 4)) = true := by decide +kernel
theorem t_p1 : ∀ i : Fin 8, acrOk (1, 0) (tabR i.val) 1 1 1 1 (9 / 4) 1 = true := by decide +kernel
/-- What is seen behind one part across. -/
def oneP (i : Nat) : Rat × Rat := invR ((invR (1, 0)).1, (invR (1, 0)).2 + tabR i)
/-- Behind a part in the way and a part across. -/
def twoS (i j : Nat) : Rat × Rat := invR ((invR (1, 0 + tabR i)).1, (invR (1, 0 + tabR i)).2 + tabR j)
theorem t_p2 : ∀ i j : Fin 8, acrOk (1, 0 + tabR i.val) (tabR j.val) 1 (9 / 4) 1 (22 / 100) 3 (9 / 2) = true := by decide +kernel
theorem t_s2 : ∀ i j : Fin 8, decide ((oneP i.val).1 * (oneP i.val).1 + ((oneP i.val).2 + tabR j.val) * ((oneP i.val).2 + tabR j.val) ≤ 13 / 5 * (13 / 5)) = true := by decide +kernel
theorem t_s3 : ∀ i j k : Fin 8, decide ((twoS i.val j.val).1 * (twoS i.val j.val).1 + ((twoS i.val j.val).2 + tabR k.val) * ((twoS i.val j.val).2 + tabR k.val) ≤ 57 / 10 * (57 / 10)) = true := by decide +kernel
theorem t_p3 : ∀ i j k : Fin 8, acrOk ((oneP i.val).1, (oneP i.val).2 + tabR j.val) (tabR k.val) (22 / 100) (13 / 5) (9 / 2) (92 / 1000) (57 / 10) (54 / 5) = true := by decide +kernel

/-- What is seen through a ladder with 1 behind it. -/
theorem seen_one {c : Nat} {ns : List Nat} (hc : c = 115 ∨ c = 112) (hl : ns.length ≤ 3) (hn : ∀ n ∈ ns, n < 8) :
    ∃ o p, SeenW c 1 ns 1065353216 0 o p ∧ Cm o p (seenR c 1 ns (1, 0)).1 (seenR c 1 ns (1, 0)).2 (70 / 10000) := by
  obtain ⟨k22, k23, k60⟩ := p22_num
  have s1 : ∀ i, i < 8 → SerW 1065353216 0 (tabI i) ∧ Cm (addB 1065353216 0) (addB 0 (tabI i)) 1 (0 + tabR i) (5 / 10000000) := fun i hi =>
    ser_at one_cm hi (9 / 4) _ (by decide +kernel) (by simpa using t_s1 ⟨i, hi⟩) (by decide +kernel) (by decide +kernel) (by rw [k23]; decide +kernel)
  have p1 : ∀ i, i < 8 → ∃ e f o p, AcrW 1065353216 0 (tabI i) e f o p ∧ Cm o p (oneP i).1 (oneP i).2 (21 / 10000000) := fun i hi =>
    acr_at one_cm hi 1 1 1 1 (9 / 4) 1 (8 / 10000000) (13 / 10000000) _ (t_p1 ⟨i, hi⟩) (by decide +kernel) (by decide +kernel) (by decide +kernel) (by decide +kernel) (by decide +kernel) (by decide +kernel)
      (by decide +kernel) (by decide +kernel) (by decide +kernel) (by decide +kernel) (by decide +kernel) (by decide +kernel) (by rw [k23]; decide +kernel) (by decide +kernel) (by decide +kernel) (by decide +kernel) (by decide +kernel)
  have p2' : ∀ {a b : Nat} {i j : Nat}, i < 8 → j < 8 → Cm a b 1 (0 + tabR i) (5 / 10000000) → ∃ e f o p, AcrW a b (tabI j) e f o p ∧ Cm o p (twoS i j).1 (twoS i j).2 (43 / 1000000) := fun {a b i j} hi hj h =>
    acr_at h hj 1 (9 / 4) 1 (22 / 100) 3 (9 / 2) (13 / 10000000) (19 / 10000000) _ (t_p2 ⟨i, hi⟩ ⟨j, hj⟩) (by decide +kernel) (by decide +kernel) (by decide +kernel) (by decide +kernel) (by decide +kernel) (by decide +kernel)
      (by decide +kernel) (by decide +kernel) (by decide +kernel) (by decide +kernel) (by decide +kernel) (by decide +kernel) (by rw [k23]; decide +kernel) (by decide +kernel) (by decide +kernel) (by decide +kernel) (by decide +kernel)
  have s2 : ∀ {a b : Nat} {i j : Nat}, i < 8 → j < 8 → Cm a b (oneP i).1 (oneP i).2 (21 / 10000000) → SerW a b (tabI j) ∧ Cm (addB a 0) (addB b (tabI j)) (oneP i).1 ((oneP i).2 + tabR j) (26 / 10000000) := fun {a b i j} hi hj h =>
    ser_at h hj (13 / 5) _ (by decide +kernel) (by simpa using t_s2 ⟨i, hi⟩ ⟨j, hj⟩) (by decide +kernel) (by decide +kernel) (by rw [k23]; decide +kernel)
  have s3 : ∀ {a b : Nat} {i j k : Nat}, i < 8 → j < 8 → k < 8 → Cm a b (twoS i j).1 (twoS i j).2 (43 / 1000000) → SerW a b (tabI k) ∧ Cm (addB a 0) (addB b (tabI k)) (twoS i j).1 ((twoS i j).2 + tabR k) (45 / 1000000) := fun {a b i j k} hi hj hk h =>
    ser_at h hk (57 / 10) _ (by decide +kernel) (by simpa using t_s3 ⟨i, hi⟩ ⟨j, hj⟩ ⟨k, hk⟩) (by decide +kernel) (by decide +kernel) (by rw [k23]; decide +kernel)
  have p3 : ∀ {a b : Nat} {i j k : Nat}, i < 8 → j < 8 → k < 8 → Cm a b (oneP i).1 ((oneP i).2 + tabR j) (26 / 10000000) → ∃ e f o p, AcrW a b (tabI k) e f o p ∧
      Cm o p (invR ((invR ((oneP i).1, (oneP i).2 + tabR j)).1, (invR ((oneP i).1, (oneP i).2 + tabR j)).2 + tabR k)).1 (invR ((invR ((oneP i).1, (oneP i).2 + tabR j)).1, (invR ((oneP i).1, (oneP i).2 + tabR j)).2 + tabR k)).2 (70 / 10000) := fun {a b i j k} hi hj hk h =>
    acr_at h hk (22 / 100) (13 / 5) (9 / 2) (92 / 1000) (57 / 10) (54 / 5) (57 / 1000000) (59 / 1000000) _ (t_p3 ⟨i, hi⟩ ⟨j, hj⟩ ⟨k, hk⟩) (by decide +kernel) (by decide +kernel) (by decide +kernel) (by decide +kernel) (by decide +kernel) (by decide +kernel)
      (by decide +kernel) (by decide +kernel) (by decide +kernel) (by decide +kernel) (by decide +kernel) (by decide +kernel) (by rw [k23]; decide +kernel) (by decide +kernel) (by decide +kernel) (by decide +kernel) (by decide +kernel)
  have le : ∀ {a b : Nat} {X Y ε : Rat}, Cm a b X Y ε → ε ≤ 70 / 10000 → Cm a b X Y (70 / 10000) := fun h g => h.le g
  match ns, hl, hn with
  | [], _, _ => exact ⟨_, _, .nil, le one_cm (by decide +kernel)⟩
  | [i], _, h =>
    have hi := h i (by simp)
    rcases hc with rfl | rfl
    · obtain ⟨a1, n1⟩ := s1 i hi
      exact ⟨_, _, .ser rfl a1 .nil, le n1 (by decide +kernel)⟩
    · obtain ⟨e, f, o, p, a1, n1⟩ := p1 i hi
      exact ⟨_, _, .acr rfl a1 .nil, le n1 (by decide +kernel)⟩
  | [i, j], _, h =>
    have hi := h i (by simp)
    have hj := h j (by simp)
    rcases hc with rfl | rfl
    · obtain ⟨a1, n1⟩ := s1 i hi
      obtain ⟨e, f, o, p, a2, n2⟩ := p2' hi hj n1
      exact ⟨_, _, .ser rfl a1 (.acr rfl a2 .nil), le n2 (by decide +kernel)⟩
    · obtain ⟨e, f, o, p, a1, n1⟩ := p1 i hi
      obtain ⟨a2, n2⟩ := s2 hi hj n1
      exact ⟨_, _, .acr rfl a1 (.ser rfl a2 .nil), le n2 (by decide +kernel)⟩
  | [i, j, k], _, h =>
    have hi := h i (by simp)
    have hj := h j (by simp)
    have hk := h k (by simp)
    rcases hc with rfl | rfl
    · obtain ⟨a1, n1⟩ := s1 i hi
      obtain ⟨e, f, o, p, a2, n2⟩ := p2' hi hj n1
      obtain ⟨a3, n3⟩ := s3 hi hj hk n2
      exact ⟨_, _, .ser rfl a1 (.acr rfl a2 (.ser rfl a3 .nil)), le n3 (by decide +kernel)⟩
    · obtain ⟨e, f, o, p, a1, n1⟩ := p1 i hi
      obtain ⟨a2, n2⟩ := s2 hi hj n1
      obtain ⟨e', f', o', p', a3, n3⟩ := p3 hi hj hk n2
      exact ⟨_, _, .acr rfl a1 (.ser rfl a2 (.acr rfl a3 .nil)), le n3 (by decide +kernel)⟩
  | _ :: _ :: _ :: _ :: _, h, _ => simp at h

end Go.Proofs.Yteikkbmmbnihaaa
