/-
  NoiseOf, in the model and in the program: the stages of a list.
-/
import Derived.Test.YtjacmojmjicmjaaNz
import Derived.Test.YtjacmojmjicmjaaC3
namespace Go.Proofs.Ytjacmojmjicmjaa
open Go.RowKit Fl

/-- The words of a list of stages, in a block. -/
def Row2 (w : World) (g : Nat) (ws : List (Nat × Nat)) : Prop := ∀ i, (h : i < ws.length) → w.cell? ⟨g, 2 * i, none⟩ = some (.float .f64 ws[i].1) ∧ w.cell? ⟨g, 2 * i + 1, none⟩ = some (.float .f64 ws[i].2)
theorem Row2.lt {w : World} {g : Nat} {ws : List (Nat × Nat)} (H : Row2 w g ws) {i : Nat} (hi : i < ws.length) : g < w.heap.size := World.block_lt_of_cell? w _ (H i hi).1
theorem Row2.calm {w w' : World} {g : Nat} {ws : List (Nat × Nat)} (H : Row2 w g ws) (C : Calm w w') : Row2 w' g ws := by
  intro i hi
  obtain ⟨a, b⟩ := H i hi
  have hb := C.block g (H.lt hi) (fun e => by cases e)
  exact ⟨by rw [World.cell?_of_block (w := w) hb]; exact a, by rw [World.cell?_of_block (w := w) hb]; exact b⟩

theorem noise_cons {k s g : Nat} {ws : List (Nat × Nat)} {n : Nat} (h : n < ws.length) {o : Option Nat} (F : noiseR k s g (ws.drop n) = o) :
    o = (if stB ws[n].1 ws[n].2 then noiseR (k + 1) (if k = 0 then ws[n].1 else sB s ws[n].1 g) (gB g ws[n].2) (ws.drop (n + 1)) else none) := by
  rw [List.drop_eq_getElem_cons h] at F
  rw [← F]
  rfl

set_option maxHeartbeats 400000 in
theorem specFin7_any (x : Nat) (w : World) :
    Calls Try.prog 55 #[.float .f64 x] w fun e w' => e = .returned (.bool (fin .f64 x)) ∧ ∃ n, w' = w.drewN n := by
  cases ha : fin .f64 x
  all_goals
    go_enter Try.func55, Try.ntmps55
    go_wp2
    go_ret
    exact ⟨by simp, _, rfl⟩

/-- What a round of the loop asks. -/
structure RoundW (k s g n h : Nat) : Prop where
  st : stB n h = true
  g0 : ¬FloatKind.f64.format.order g 0 = some .eq
  gn : GnStep g h
  nz : k ≠ 0 → NzStep s g n h
  nx : NzAt (k + 1) (if k = 0 then n else sB s n g) (gB g h)
theorem round_at {k s g n h : Nat} (hk : k ≤ 10) (I : NzAt k s g) (m : Mod n h) : RoundW k s g n h := by
  rcases I with ⟨rfl, rfl, rfl⟩ | ⟨h1, I⟩
  · obtain ⟨a, b⟩ := gain_one m
    exact ⟨m.ok, by decide, a, fun h => absurd rfl h, .inr ⟨by omega, b⟩⟩
  · obtain ⟨a, _⟩ := noise_step hk I m
    obtain ⟨b, _⟩ := gain_step hk I m
    have hk0 : k ≠ 0 := by omega
    exact ⟨m.ok, a.g0, b, fun _ => a, .inr ⟨by omega, by rw [if_neg hk0]; exact inv_next hk I m⟩⟩

set_option maxRecDepth 8000 in
set_option maxHeartbeats 4000000 in
theorem specNoise_of {S cap : Nat} {ws : List (Nat × Nat)} {w : World} (hR : Row2 w S ws) (h1 : 1 ≤ ws.length) (h6 : ws.length ≤ 6) (hok : ∀ p ∈ ws, Okay p) :
    Calls Try.prog 34 #[.slice (some ⟨S, 0, none⟩) ws.length cap] w fun z w' => z = .returned (noiseV (noiseR 0 0 4607182418800017408 ws)) ∧ Calm w w' := by
  have HR := Lib.hid hR
  have HK := Lib.hid hok
  clear hR hok
  have hi : (decide ((1 : Int) ≤ (ws.length : Int)) && decide ((ws.length : Int) ≤ 6)) = true := by simp; omega
  have HI := Lib.hid hi
  clear hi
  go_enter Try.func34, Try.ntmps34
  go_wp2_with fail
  refine (l1In_any _ _ _ _).mono ?_
  rw [HI.out]
  rintro e w1 ⟨rfl, rfl⟩
  go_wp2_with fail
  go_loopw [4, 5, 6] (fun sv gv kv wr => ∃ n s g : Nat, n ≤ ws.length ∧ kv = .int .i64 n ∧ sv = .float .f64 s ∧ gv = .float .f64 g ∧ NzAt n s g ∧ noiseR n s g (ws.drop n) = noiseR 0 0 4607182418800017408 ws ∧ Calm w wr)
    (fun _ _ kv _ => ws.length - (intOf kv).toNat)
  case atStart => exact ⟨0, 0, _, by omega, rfl, rfl, rfl, .inl ⟨rfl, rfl, rfl⟩, rfl, grown_refl _ _⟩
  case round =>
    obtain ⟨n, s, g, hn, rfl, rfl, rfl, I, hF, C⟩ := hrel
    have HC := Lib.hid C
    clear C
    by_cases hlt : n < ws.length
    · have hp := HK.out ws[n] (List.getElem_mem hlt)
      have hS := noise_cons hlt hF
      have hcell : ∀ w', Calm w w' → w'.cell? ⟨S, n * 2, none⟩ = some (.float .f64 ws[n].1) ∧ w'.cell? ⟨S, n * 2 + 1, none⟩ = some (.float .f64 ws[n].2) := by
        intro w' C
        have := HR.out.calm C n hlt
        rw [Nat.mul_comm] at this
        exact this
      generalize ws[n] = p at *
      obtain ⟨x, y⟩ := p
      dsimp only at hcell hS hp
      have HL := Lib.hid hcell
      clear hcell
      obtain ⟨a1, a2⟩ := HL.out _ HC.out
      have hSl := World.block_lt_of_cell? wr _ a1
      rcases hp with m | hb
      · have R := round_at (by omega) I m
        have HW := Lib.hid R
        have HN := Lib.hid hS
        have HG := Lib.hid hF
        have g0 : (FloatKind.f64.format.order g 0 == some .eq) = false := by simpa using R.g0
        have gn := R.gn
        unfold GnStep at gn
        have u1 : ∀ w, fres .mul .f64 g y w = gB g y := fun w => fres_some w gn
        have u2 : fask .mul .f64 g y = 0 := fask_some gn
        clear I hF m R hS gn
        by_cases h0 : n = 0
        · subst h0
          go_wp2_with fail
          refine (specStage_any _ _ _).mono ?_
          rw [HW.out.st]
          rintro z w2 ⟨rfl, C⟩
          have HC2 := Lib.hid (calm_trans HC.out C)
          clear a1 a2 hSl C
          obtain ⟨a1, a2⟩ := HL.out _ HC2.out
          have hSl := World.block_lt_of_cell? w2 _ a1
          go_wp2_with fail
          exact ⟨⟨1, _, _, by omega, by go_num, rfl, rfl, HW.out.nx, by rw [HN.out, HW.out.st]; rfl, HC2.out⟩, by simp [intOf]; omega⟩
        · have N := HW.out.nz h0
          have u3 : ∀ w, fres .sub .f64 x 4607182418800017408 w = tB x := fun w => fres_some w N.t
          have u4 : fask .sub .f64 x 4607182418800017408 = 0 := fask_some N.t
          have u5 : ∀ w, fres .quo .f64 (tB x) g w = qB x g := fun w => fres_some w N.q
          have u6 : fask .quo .f64 (tB x) g = 0 := fask_some N.q
          have u7 : ∀ w, fres .add .f64 s (qB x g) w = sB s x g := fun w => fres_some w N.s
          have u8 : fask .add .f64 s (qB x g) = 0 := fask_some N.s
          clear N
          go_wp2_with fail
          refine (specStage_any _ _ _).mono ?_
          rw [HW.out.st]
          rintro z w2 ⟨rfl, C⟩
          have HC2 := Lib.hid (calm_trans HC.out C)
          clear a1 a2 hSl C
          obtain ⟨a1, a2⟩ := HL.out _ HC2.out
          have hSl := World.block_lt_of_cell? w2 _ a1
          go_wp2_with fail
          exact ⟨⟨n + 1, _, _, by omega, by go_num, rfl, rfl, by have := HW.out.nx; rw [if_neg h0] at this; exact this, by rw [HN.out, HW.out.st, if_neg h0]; rfl, HC2.out⟩, by simp [intOf]; omega⟩
      · have HB := Lib.hid hb
        have HN := Lib.hid hS
        clear I hF hS hb
        go_wp2_with fail
        refine (specStage_any _ _ _).mono ?_
        rw [HB.out]
        rintro z w2 ⟨rfl, C⟩
        have HC2 := Lib.hid (calm_trans HC.out C)
        clear a1 a2 hSl C
        go_wp2_with fail
        go_ret2
        exact ⟨by rw [HN.out, HB.out]; rfl, HC2.out⟩
    · have hn' : n = ws.length := by omega
      subst hn'
      rw [List.drop_length] at hF
      have HG := Lib.hid hF
      have fs : fin .f64 s = true := by
        rcases I with ⟨h, _⟩ | ⟨_, I⟩
        · omega
        · exact I.fs
      have HS := Lib.hid fs
      clear hF I fs
      go_wp2_with fail
      refine (specFin7_any _ _).mono ?_
      rw [HS.out]
      rintro z w2 ⟨rfl, m, rfl⟩
      go_wp2_with fail
      go_ret2
      exact ⟨by rw [← HG.out]; rfl, grown_drewN HC.out _⟩

end Go.Proofs.Ytjacmojmjicmjaa
