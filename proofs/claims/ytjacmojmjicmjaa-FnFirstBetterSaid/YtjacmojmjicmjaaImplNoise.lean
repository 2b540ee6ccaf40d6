/-
  NoiseOf of moderate stages, in the program.
-/
import Derived.Test.YtjacmojmjicmjaaImplNoiseT
namespace Go.Proofs.Ytjacmojmjicmjaa
open Go.RowKit Fl

/-- Of moderate stages the noise is always a number. -/
theorem noiseT_eq (ws : List (Nat × Nat)) : ∀ {k s g : Nat}, 1 ≤ k → k + ws.length ≤ 10 → NzInv k s g → (∀ p ∈ ws, Okay p) → noiseT k s g ws = noiseR k s g ws := by
  induction ws with
  | nil =>
    intro k s g _ _ I _
    unfold noiseT noiseR
    rw [I.fs]
    rfl
  | cons p ps ih =>
    intro k s g hk hl I ho
    have hl' : k + (ps.length + 1) ≤ 10 := hl
    unfold noiseT noiseR
    rcases ho p (List.mem_cons_self ..) with m | hb
    · obtain ⟨N, _⟩ := noise_step (by omega) I m
      have h0 : (stB p.1 p.2 && !(FloatKind.f64.format.order g 0 == some .eq)) = true := by rw [m.ok]; simpa using N.g0
      rw [if_pos h0, if_pos m.ok, if_neg (by omega)]
      exact ih (by omega) (by omega) (inv_next (by omega) I m) fun q hq => ho q (List.mem_cons_of_mem _ hq)
    · rw [hb]
      rfl
theorem noiseT_of {ws : List (Nat × Nat)} (h1 : 1 ≤ ws.length) (h6 : ws.length ≤ 6) (ho : ∀ p ∈ ws, Okay p) : noiseT 0 0 4607182418800017408 ws = noiseR 0 0 4607182418800017408 ws := by
  cases ws with
  | nil => exact absurd h1 (by simp)
  | cons p ps =>
    have h6' : ps.length + 1 ≤ 6 := h6
    unfold noiseT noiseR
    rcases ho p (List.mem_cons_self ..) with m | hb
    · have h0 : (stB p.1 p.2 && !(FloatKind.f64.format.order 4607182418800017408 0 == some .eq)) = true := by rw [m.ok]; decide
      rw [if_pos h0, if_pos m.ok, if_pos rfl]
      exact noiseT_eq ps (by omega) (by omega) (gain_one m).2 fun q hq => ho q (List.mem_cons_of_mem _ hq)
    · rw [hb]
      rfl

theorem implNoise_of {S cap : Nat} {ws : List (Nat × Nat)} {w : World} (hR : Row2 w S ws) (h1 : 1 ≤ ws.length) (h6 : ws.length ≤ 6) (hc : ws.length ≤ cap) (hok : ∀ p ∈ ws, Okay p) :
    Calls Try.prog 33 #[.slice (some ⟨S, 0, none⟩) ws.length cap] w fun z w' => z = .returned (noiseV (noiseR 0 0 4607182418800017408 ws)) ∧ Calm w w' := by
  rw [← noiseT_of h1 h6 hok]
  exact implNoise_t hR h1 h6 hc

end Go.Proofs.Ytjacmojmjicmjaa
