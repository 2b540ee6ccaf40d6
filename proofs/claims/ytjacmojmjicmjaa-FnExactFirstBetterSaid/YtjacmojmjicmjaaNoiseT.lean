/-
  NoiseOf of any stages, in the model.
-/
import Derived.Test.YtjacmojmjicmjaaNzT
namespace Go.Proofs.Ytjacmojmjicmjaa
open Go.RowKit Fl

set_option maxRecDepth 8000 in
set_option maxHeartbeats 4000000 in
theorem specNoise_t {S cap : Nat} {ws : List (Nat × Nat)} {w : World} (hR : Row2 w S ws) (h1 : 1 ≤ ws.length) (h6 : ws.length ≤ 6) :
    Calls Try.prog 34 #[.slice (some ⟨S, 0, none⟩) ws.length cap] w fun z w' => z = .returned (noiseV (noiseT 0 0 4607182418800017408 ws)) ∧ Calm w w' := by
  have HR := Lib.hid hR
  clear hR
  have hi : (decide ((1 : Int) ≤ (ws.length : Int)) && decide ((ws.length : Int) ≤ 6)) = true := by simp; omega
  have HI := Lib.hid hi
  clear hi
  go_enter Try.func34, Try.ntmps34
  go_wp2_with fail
  refine (l1In_any _ _ _ _).mono ?_
  rw [HI.out]
  rintro e w1 ⟨rfl, rfl⟩
  go_wp2_with fail
  go_loopw [4, 5, 6] (fun sv gv kv wr => ∃ n s g : Nat, n ≤ ws.length ∧ kv = .int .i64 n ∧ sv = .float .f64 s ∧ gv = .float .f64 g ∧ Nn s ∧ Nn g ∧ noiseT n s g (ws.drop n) = noiseT 0 0 4607182418800017408 ws ∧ Calm w wr)
    (fun _ _ kv _ => ws.length - (intOf kv).toNat)
  case atStart => exact ⟨0, 0, _, by omega, rfl, rfl, rfl, read_small (by decide), read_small (by decide), rfl, grown_refl _ _⟩
  case round =>
    obtain ⟨n, s, g, hn, rfl, rfl, rfl, Is, Ig, hF, C⟩ := hrel
    have HC := Lib.hid C
    clear C
    by_cases hlt : n < ws.length
    · have hS := noiseT_cons hlt hF
      have hcell : ∀ w', Calm w w' → w'.cell? ⟨S, n * 2, none⟩ = some (.float .f64 ws[n].1) ∧ w'.cell? ⟨S, n * 2 + 1, none⟩ = some (.float .f64 ws[n].2) := by
        intro w' C
        have := HR.out.calm C n hlt
        rw [Nat.mul_comm] at this
        exact this
      generalize ws[n] = p at *
      obtain ⟨x, y⟩ := p
      dsimp only at hcell hS
      have HL := Lib.hid hcell
      clear hcell
      obtain ⟨a1, a2⟩ := HL.out _ HC.out
      have hSl := World.block_lt_of_cell? wr _ a1
      cases hst : stB x y
      · have HB := Lib.hid hst
        have HT := Lib.hid (show (stB x y && !(FloatKind.f64.format.order g 0 == some .eq)) = false by rw [hst]; rfl)
        have HN := Lib.hid hS
        clear Is Ig hF hS hst
        go_wp2_with fail
        refine (specStage_any _ _ _).mono ?_
        rw [HB.out]
        rintro z w2 ⟨rfl, C⟩
        have HC2 := Lib.hid (calm_trans HC.out C)
        clear a1 a2 hSl C
        go_wp2_with fail
        go_ret2
        exact ⟨by rw [HN.out, HT.out]; rfl, HC2.out⟩
      · by_cases hg0 : FloatKind.f64.format.order g 0 = some .eq
        · have HB := Lib.hid hst
          have HT := Lib.hid (show (stB x y && !(FloatKind.f64.format.order g 0 == some .eq)) = false by rw [hst, hg0]; rfl)
          have g0 : (FloatKind.f64.format.order g 0 == some .eq) = true := by simpa using hg0
          have HN := Lib.hid hS
          clear Is Ig hF hS hst hg0
          go_wp2_with fail
          refine (specStage_any _ _ _).mono ?_
          rw [HB.out]
          rintro z w2 ⟨rfl, C⟩
          have HC2 := Lib.hid (calm_trans HC.out C)
          clear a1 a2 hSl C
          go_wp2_with fail
          go_ret2
          exact ⟨by rw [HN.out, HT.out]; rfl, HC2.out⟩
        · have R : RoundT n s g x y := roundT_at Is Ig hst hg0
          have HST := Lib.hid hst
          have HT := Lib.hid (show (stB x y && !(FloatKind.f64.format.order g 0 == some .eq)) = true by rw [hst]; simpa using hg0)
          have HW := Lib.hid R
          have HN := Lib.hid hS
          have HG := Lib.hid hF
          have g0 : (FloatKind.f64.format.order g 0 == some .eq) = false := by simpa using hg0
          have gn := R.gn
          unfold GnStep at gn
          have u1 : ∀ w, fres .mul .f64 g y w = gB g y := fun w => fres_some w gn
          have u2 : fask .mul .f64 g y = 0 := fask_some gn
          clear Is Ig hF R hS gn hst hg0
          by_cases h0 : n = 0
          · subst h0
            go_wp2_with fail
            refine (specStage_any _ _ _).mono ?_
            rw [HST.out]
            rintro z w2 ⟨rfl, C⟩
            have HC2 := Lib.hid (calm_trans HC.out C)
            clear a1 a2 hSl C
            obtain ⟨a1, a2⟩ := HL.out _ HC2.out
            have hSl := World.block_lt_of_cell? w2 _ a1
            go_wp2_with fail
            exact ⟨⟨1, _, _, by omega, by go_num, rfl, rfl, by have := HW.out.ns; rw [if_pos rfl] at this; exact this, HW.out.ng, by rw [HN.out, HT.out]; rfl, HC2.out⟩, by simp [intOf]; omega⟩
          · have N := HW.out.nz h0
            have u3 : ∀ w, fres .sub .f64 x 4607182418800017408 w = tB x := fun w => fres_some w N.t
            have u4 : fask .sub .f64 x 4607182418800017408 = 0 := fask_some N.t
            have u5 : ∀ w, fres .quo .f64 (tB x) g w = qB x g := fun w => fres_some w N.q
            have u6 : fask .quo .f64 (tB x) g = 0 := fask_some N.q
            have u7 : ∀ w, fres .add .f64 s (qB x g) w = sB s x g := fun w => fres_some w N.s
            have u8 : fask .add .f64 s (qB x g) = 0 := fask_some N.s
            clear N
            go_wp2_with fail
            refine (specStage_any _ _ _).mono ?_
            rw [HST.out]
            rintro z w2 ⟨rfl, C⟩
            have HC2 := Lib.hid (calm_trans HC.out C)
            clear a1 a2 hSl C
            obtain ⟨a1, a2⟩ := HL.out _ HC2.out
            have hSl := World.block_lt_of_cell? w2 _ a1
            go_wp2_with fail
            exact ⟨⟨n + 1, _, _, by omega, by go_num, rfl, rfl, by have := HW.out.ns; rw [if_neg h0] at this; exact this, HW.out.ng, by rw [HN.out, HT.out, if_neg h0]; rfl, HC2.out⟩, by simp [intOf]; omega⟩
    · have hn' : n = ws.length := by omega
      subst hn'
      rw [List.drop_length] at hF
      have HG := Lib.hid hF
      cases hf : fin .f64 s
      all_goals
        have HS := Lib.hid hf
        have HT : Hid (noiseT ws.length s g [] = if fin .f64 s then some s else none) := Lib.hid rfl
        clear hF Is Ig hf
        go_wp2_with fail
        refine (specFin7_any _ _).mono ?_
        rw [HS.out]
        rintro z w2 ⟨rfl, m, rfl⟩
        go_wp2_with fail
        go_ret2
        exact ⟨by rw [← HG.out, HT.out, HS.out]; rfl, grown_drewN HC.out _⟩

end Go.Proofs.Ytjacmojmjicmjaa
