/-
  The noise of lists: without the last stage it is not more; with a still one first it is the same.
-/
import Derived.Test.YtjacmojmjicmjaaDrawNz
import Derived.Test.YtjacmojmjicmjaaWFirst
import Derived.Test.YtjacmojmjicmjaaImplNoise
namespace Go.Proofs.Ytjacmojmjicmjaa
open Go.RowKit Fl

theorem noise_shift (ps : List (Nat × Nat)) : ∀ {k j s g : Nat}, k ≠ 0 → j ≠ 0 → noiseR k s g ps = noiseR j s g ps := by
  induction ps with
  | nil => intro k j s g _ _; rfl
  | cons p ps ih =>
    intro k j s g hk hj
    unfold noiseR
    rw [if_neg hk, if_neg hj, ih (k := k + 1) (j := j + 1) (by omega) (by omega)]

theorem still_table : ∀ k : Fin 40, (decide (sB 4607182418800017408 (nzW k.val) (gB 4607182418800017408 4607182418800017408) = nzW k.val) && decide (gB 4607182418800017408 4607182418800017408 = 4607182418800017408)) = true := by decide +kernel
theorem one_mod : stB 4607182418800017408 4607182418800017408 = true := by decide
/-- With a still one first the noise is the same. -/
theorem noise_still {p : Nat × Nat} {ps : List (Nat × Nat)} (hp : StgOk p.1 p.2) : noiseR 0 0 4607182418800017408 ((4607182418800017408, 4607182418800017408) :: p :: ps) = noiseR 0 0 4607182418800017408 (p :: ps) := by
  cases hs : stB p.1 p.2
  · simp [noiseR, one_mod, hs]
  · obtain ⟨⟨k, hk, e⟩, _, _⟩ := stg_mod hp hs
    have ht := still_table ⟨k, hk⟩
    simp only [Bool.and_eq_true, decide_eq_true_eq] at ht
    obtain ⟨t1, t2⟩ := ht
    have e1 : sB 4607182418800017408 p.1 (gB 4607182418800017408 4607182418800017408) = p.1 := by rw [e]; exact t1
    have sh : noiseR 2 p.1 (gB 4607182418800017408 p.2) ps = noiseR 1 p.1 (gB 4607182418800017408 p.2) ps := noise_shift ps (by decide) (by decide)
    simp only [noiseR, one_mod, hs, if_true]
    show noiseR 2 (sB 4607182418800017408 p.1 (gB 4607182418800017408 4607182418800017408)) (gB (gB 4607182418800017408 4607182418800017408) p.2) ps = noiseR 1 p.1 (gB 4607182418800017408 p.2) ps
    rw [e1, t2]
    exact sh

/-- Behind the first stage the noise is never less. -/
theorem noise_up (ps : List (Nat × Nat)) : ∀ {k s g r : Nat}, k ≠ 0 → k + ps.length ≤ 10 → NzInv k s g → (∀ p ∈ ps, Okay p) → noiseR k s g ps = some r → fin .f64 r = true ∧ V FloatKind.f64.format s ≤ V FloatKind.f64.format r := by
  induction ps with
  | nil =>
    intro k s g r _ _ I _ h
    injection h with h
    subst h
    exact ⟨I.fs, Rat.le_refl⟩
  | cons p ps ih =>
    intro k s g r hk hl I ho h
    have hl' : k + (ps.length + 1) ≤ 10 := hl
    rcases ho p (List.mem_cons_self ..) with m | hb
    · simp only [noiseR, m.ok, if_true, if_neg hk] at h
      obtain ⟨_, f1, a, b⟩ := noise_step (by omega) I m
      obtain ⟨f, c⟩ := ih (by omega) (by omega) (inv_next (by omega) I m) (fun q hq => ho q (List.mem_cons_of_mem _ hq)) h
      exact ⟨f, Rat.le_trans a c⟩
    · simp [noiseR, hb] at h
/-- Without the last one it is told and not more. -/
theorem noise_less (ps : List (Nat × Nat)) (p : Nat × Nat) : ∀ {k s g r : Nat}, k ≠ 0 → k + ps.length ≤ 9 → NzInv k s g → (∀ q ∈ ps ++ [p], Okay q) → noiseR k s g (ps ++ [p]) = some r → ∃ r', noiseR k s g ps = some r' ∧ fin .f64 r' = true ∧ V FloatKind.f64.format r' ≤ V FloatKind.f64.format r := by
  induction ps with
  | nil =>
    intro k s g r hk hl I ho h
    obtain ⟨f, a⟩ := noise_up [p] hk (by simp at *; omega) I (by simpa using ho) h
    exact ⟨s, rfl, I.fs, a⟩
  | cons q ps ih =>
    intro k s g r hk hl I ho h
    have hl' : k + (ps.length + 1) ≤ 9 := hl
    rcases ho q (by simp) with m | hb
    · simp only [List.cons_append, noiseR, m.ok, if_true, if_neg hk] at h ⊢
      exact ih (by omega) (by omega) (inv_next (by omega) I m) (fun x hx => ho x (by simp at hx ⊢; exact .inr hx)) h
    · simp [noiseR, hb] at h

/-- What the law asks of a list of 1 to 6 stages whose noise is told. -/
structure NoiseW (ws : List (Nat × Nat)) (s : Nat) : Prop where
  fs : fin .f64 s = true
  lo : ∀ h : 0 < ws.length, (FloatKind.f64.format.order s ws[0].1 == some .lt) = false
  less : ∀ k, ws.length = k + 2 → ∃ r, noiseR 0 0 4607182418800017408 (ws.take (k + 1)) = some r ∧ (FloatKind.f64.format.order r s == some .gt) = false
  still : noiseR 0 0 4607182418800017408 ((4607182418800017408, 4607182418800017408) :: ws) = some s

theorem noiseW_of {ws : List (Nat × Nat)} {s : Nat} (h1 : 1 ≤ ws.length) (h6 : ws.length ≤ 6) (hok : ∀ p ∈ ws, StgOk p.1 p.2) (h : noiseR 0 0 4607182418800017408 ws = some s) : NoiseW ws s := by
  cases ws with
  | nil => simp at h1
  | cons p ps =>
    have h6' : ps.length + 1 ≤ 6 := h6
    have hp := hok p (List.mem_cons_self ..)
    cases hs : stB p.1 p.2
    · simp [noiseR, hs] at h
    · obtain ⟨_, _, m⟩ := stg_mod hp hs
      obtain ⟨_, I⟩ := gain_one m
      have ho : ∀ q ∈ ps, Okay q := fun q hq => stg_okay (hok q (List.mem_cons_of_mem _ hq))
      have h' : noiseR 1 p.1 (gB 4607182418800017408 p.2) ps = some s := by
        simpa only [noiseR, hs, if_true] using h
      obtain ⟨f, a⟩ := noise_up ps (by decide) (by omega) I ho h'
      refine ⟨f, ?_, ?_, by rw [noise_still hp]; exact h⟩
      · intro _
        show (FloatKind.f64.format.order s p.1 == some .lt) = false
        rw [lt_walk (fin_num.1 f) (fin_num.1 m.fn)]
        exact decide_eq_false (by grind)
      · intro k hk
        have hk' : ps.length = k + 1 := by simpa using hk
        obtain ⟨qs, q, rfl⟩ : ∃ qs q, ps = qs ++ [q] := by
          rcases List.eq_nil_or_concat ps with e | ⟨qs, q, e⟩
          · rw [e] at hk'; simp at hk'
          · exact ⟨qs, q, by simpa using e⟩
        have hq : qs.length = k := by simpa using hk'
        obtain ⟨r, r1, r2, r3⟩ := noise_less qs q (by decide) (by omega) I ho h'
        refine ⟨r, ?_, ?_⟩
        · have e : List.take (k + 1) (p :: (qs ++ [q])) = p :: qs := by
            rw [List.take_succ_cons, ← hq, List.take_left']
            rfl
          rw [e]
          simpa only [noiseR, hs, if_true] using r1
        · rw [gt_walk (fin_num.1 r2) (fin_num.1 f)]
          exact decide_eq_false (by grind)

/-- The rows of a slice of one's own. -/
theorem row2_of {w : World} {base g n cap : Nat} {e : TypeId} {ws : List (Nat × Nat)} (h : w.ownsRow base e 2 (.slice (some ⟨g, 0, none⟩) n cap) n (cells2 ws)) : Row2 w g ws := by
  rcases h.2 with ⟨h, _⟩ | ⟨g', cap', cur, hv, _, hb, hn, _, hsz, ht⟩
  · cases h
  · injection hv with hv1 hv2 hv3
    injection hv1 with hv1
    injection hv1 with hv1
    subst hv1
    intro i hi
    obtain ⟨a, b⟩ := cells2_at ws i hi
    have hl := cells2_length ws
    have key : ∀ j u, (cells2 ws)[j]? = some u → w.cell? ⟨g, j, none⟩ = some u := by
      intro j u hj
      have hj2 := hj
      rw [← ht, List.getElem?_take] at hj2
      split at hj2
      · have hj3 : cur[j]? = some u := by rw [← Array.getElem?_toList]; exact hj2
        exact At.cell (S := g) (T := e) (cs := cur) hb hj3
      · cases hj2
    exact ⟨key _ _ a, key _ _ b⟩

set_option maxHeartbeats 400000 in
theorem specNoise_no {a : Option Addr} {len cap : Nat} (h : len < 1 ∨ 6 < len) (w : World) :
    Calls Try.prog 34 #[.slice a len cap] w fun z w' => z = .returned (.tuple #[.float .f64 0, .bool false]) ∧ Calm w w' := by
  have hi : (decide ((1 : Int) ≤ (len : Int)) && decide ((len : Int) ≤ 6)) = false := by simp; omega
  have HI := Lib.hid hi
  clear hi
  go_enter Try.func34, Try.ntmps34
  go_wp2_with fail
  refine (l1In_any _ _ _ _).mono ?_
  rw [HI.out]
  rintro e w1 ⟨rfl, rfl⟩
  go_wp2_with fail
  go_ret2
  exact ⟨rfl, grown_refl _ _⟩

end Go.Proofs.Ytjacmojmjicmjaa
