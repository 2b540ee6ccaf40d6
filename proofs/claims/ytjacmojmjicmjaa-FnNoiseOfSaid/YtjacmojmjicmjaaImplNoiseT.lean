/-
  NoiseOf of any stages, in the program: all stages first, then the noises behind the first one; what is divided by gains of 0 stays infinite, or no number.
-/
import Derived.Test.YtjacmojmjicmjaaNzT
import Derived.Test.YtjacmojmjicmjaaNzI
import Derived.BigQuiet
namespace Go.Proofs.Ytjacmojmjicmjaa
open Go.RowKit Fl

/-- A list with what is no stage has no noise. -/
theorem noiseT_none (ws : List (Nat × Nat)) : ∀ {k s g : Nat}, (ws.all fun p => stB p.1 p.2) = false → noiseT k s g ws = none := by
  induction ws with
  | nil => intro k s g h; cases h
  | cons p ps ih =>
    intro k s g h
    rw [List.all_cons] at h
    unfold noiseT
    cases hp : stB p.1 p.2
    · rfl
    · rw [hp] at h
      rw [ih h]
      split <;> rfl

/-- The operations ask the numbers alone. -/
theorem noiseT_read {g g' : Nat} (h : FloatKind.f64.format.read g = FloatKind.f64.format.read g') (k s : Nat) (ws : List (Nat × Nat)) : noiseT k s g ws = noiseT k s g' ws := by
  cases ws with
  | nil => rfl
  | cons p ps =>
    have e1 : FloatKind.f64.format.order g 0 = FloatKind.f64.format.order g' 0 := by unfold Ieee.Format.order; rw [h]
    have e2 : gB g p.2 = gB g' p.2 := by unfold gB floatBits Ieee.Format.mul; simp only [h]
    have e3 : sB s p.1 g = sB s p.1 g' := by unfold sB qB floatBits Ieee.Format.div; simp only [h]
    unfold noiseT
    rw [e1, e2, e3]

/-- 1 times a gain is the gain. -/
theorem gain_read {n h : Nat} (hs : stB n h = true) : FloatKind.f64.format.read (gB 4607182418800017408 h) = FloatKind.f64.format.read h := by
  obtain ⟨_, _, _, _, m, e, hr, hm⟩ := stage_nn hs
  have hn : num FloatKind.f64.format h := by unfold num; rw [hr]; rfl
  obtain ⟨o1, o2⟩ := oneN
  have hl : V FloatKind.f64.format h ≤ 1000000 := by
    unfold stB at hs
    simp only [Bool.and_eq_true] at hs
    obtain ⟨_, _, h4⟩ := hs
    have m1 : num FloatKind.f64.format 4696837146684686336 := by unfold num; decide
    have m2 : V FloatKind.f64.format 4696837146684686336 = 1000000 := by decide +kernel
    have := order_spec _ hn m1
    rw [m2] at this
    unfold leB at h4
    simp only [Bool.or_eq_true, beq_iff_eq] at h4
    rcases h4 with h4 | h4
    · have := this.1.1 h4; grind
    · have := this.2.1.1 h4; grind
  have h0 : 0 < V FloatKind.f64.format h := by
    unfold V
    rw [hr, val_mag]
    simp only [Bool.false_eq_true, if_false]
    have hm' : (1 : Rat) ≤ (m : Rat) := by simpa using Rat.natCast_le_natCast.2 (show 1 ≤ m by omega)
    exact Rat.mul_pos (by grind) (p2_pos e)
  have l := lim64.1
  have l2 := lim64.2
  obtain ⟨r, r1, r2, r3⟩ := mul_spec .f64 (fin_num.1 o1) hn (by rw [o2]; grind) (by rw [o2]; grind)
  rw [o2, Rat.one_mul] at r3
  have v := rndV_exact r3 (has_V _ _)
  have eg : gB 4607182418800017408 h = r := by unfold gB; rw [r1]; rfl
  rw [eg]
  have hx := rung_num64 r2
  have hy := rung_num64 hn
  have rx := V_rung _ hx
  have ry := V_rung _ hy
  have px := rung_nonneg FloatKind.f64.format (r % FloatKind.f64.format.signWeight)
  have py := rung_nonneg FloatKind.f64.format (h % FloatKind.f64.format.signWeight)
  have key : r % FloatKind.f64.format.signWeight = h % FloatKind.f64.format.signWeight ∧ (r / FloatKind.f64.format.signWeight % 2 == 1) = (h / FloatKind.f64.format.signWeight % 2 == 1) := by
    cases hsx : (r / FloatKind.f64.format.signWeight % 2 == 1) <;> cases hsy : (h / FloatKind.f64.format.signWeight % 2 == 1)
    · rw [hsx] at rx; rw [hsy] at ry
      simp only [Bool.false_eq_true, if_false] at rx ry
      exact ⟨rung_inj FloatKind.f64.format (by grind), rfl⟩
    · rw [hsy] at ry
      simp only [if_true] at ry
      grind
    · rw [hsx] at rx
      simp only [if_true] at rx
      grind
    · rw [hsx] at rx
      simp only [if_true] at rx
      grind
  obtain ⟨k1, k2⟩ := key
  unfold Ieee.Format.read
  simp only [k1, k2]

/-- What is known of the loop: the noise so far is that of the model, or it is lost for good. -/
def NzGo (T : Option Nat) (rest : List (Nat × Nat)) (n s g : Nat) : Prop := (Nn s ∧ Nn g ∧ noiseT (n + 1) s g (rest.drop n) = T) ∨ (fin .f64 s = false ∧ T = none)

theorem NzGo.start {p : Nat × Nat} {rest : List (Nat × Nat)} (hs : stB p.1 p.2 = true) : NzGo (noiseT 0 0 4607182418800017408 (p :: rest)) rest 0 p.1 p.2 := by
  obtain ⟨_, _, _, ⟨m, e, hm⟩, m', e', hr, _⟩ := stage_nn hs
  refine .inl ⟨.inl ⟨m, e, hm⟩, .inl ⟨m', e', hr⟩, ?_⟩
  show noiseT 1 p.1 p.2 rest = _
  have h1 : (stB p.1 p.2 && !(FloatKind.f64.format.order 4607182418800017408 0 == some .eq)) = true := by rw [hs]; decide
  rw [show noiseT 0 0 4607182418800017408 (p :: rest) = noiseT 1 p.1 (gB 4607182418800017408 p.2) rest by
    unfold noiseT
    rw [if_pos h1]
    cases rest <;> rfl]
  exact (noiseT_read (gain_read hs) _ _ _).symm

/-- A round of the loop. -/
theorem NzGo.step {T : Option Nat} {rest : List (Nat × Nat)} {n s g : Nat} (I : NzGo T rest n s g) (h : n < rest.length) (hst : stB rest[n].1 rest[n].2 = true) (w w' w'' w3 : World) :
    NzGo T rest (n + 1) (fres .add .f64 s (fres .quo .f64 (fres .sub .f64 rest[n].1 4607182418800017408 w) g w') w'') (fres .mul .f64 g rest[n].2 w3) := by
  rcases I with ⟨Is, Ig, hT⟩ | ⟨hb, hT⟩
  · have hS := noiseT_cons h hT
    generalize rest[n] = p at *
    obtain ⟨x, y⟩ := p
    dsimp only at hS hst ⊢
    by_cases hg0 : FloatKind.f64.format.order g 0 = some .eq
    · right
      obtain ⟨a, b, c, _, _⟩ := stage_nn hst
      obtain ⟨t, t1, t2⟩ := sub_nn a b c
      rw [fres_some w t1]
      refine ⟨add_bad (.inr (quo_bad t2 hg0 w')) w'', ?_⟩
      rw [hS, hst, hg0]
      rfl
    · left
      have R : RoundT (n + 1) s g x y := roundT_at Is Ig hst hg0
      have N := R.nz (by omega)
      have ns := R.ns
      rw [if_neg (by omega)] at ns
      rw [fres_some w N.t, fres_some w' N.q, fres_some w'' N.s, fres_some w3 R.gn]
      refine ⟨ns, R.ng, ?_⟩
      have hT1 : (stB x y && !(FloatKind.f64.format.order g 0 == some .eq)) = true := by rw [hst]; simpa using hg0
      rw [hS, if_pos hT1, if_neg (by omega)]
  · exact .inr ⟨add_bad (.inl hb) _, hT⟩

/-- Behind the last one. -/
theorem NzGo.done {T : Option Nat} {rest : List (Nat × Nat)} {s g : Nat} (I : NzGo T rest rest.length s g) : noiseV T = if fin .f64 s then .tuple #[.float .f64 s, .bool true] else .tuple #[.float .f64 0, .bool false] := by
  rcases I with ⟨_, _, hT⟩ | ⟨hb, hT⟩
  · rw [List.drop_length] at hT
    rw [← hT]
    show noiseV (if fin .f64 s then some s else none) = _
    cases fin .f64 s <;> rfl
  · rw [hT, hb]
    rfl

set_option maxRecDepth 8000 in
set_option maxHeartbeats 1000000 in
theorem areStages_any {S cap : Nat} {ws : List (Nat × Nat)} {w : World} (hR : Row2 w S ws) (h1 : 1 ≤ ws.length) (h6 : ws.length ≤ 6) :
    Calls Try.prog 67 #[.slice (some ⟨S, 0, none⟩) ws.length cap] w fun z w' => z = .returned (.bool (ws.all fun p => stB p.1 p.2)) ∧ Calm w w' := by
  have HR := Lib.hid hR
  clear hR
  go_enter Try.func67, Try.ntmps67
  go_wp2_with fail
  go_loopw [15] (fun kv wr => ∃ n : Nat, n ≤ ws.length ∧ kv = .int .i64 n ∧ ((ws.drop n).all fun p => stB p.1 p.2) = (ws.all fun p => stB p.1 p.2) ∧ Calm w wr)
    (fun kv _ => ws.length - (intOf kv).toNat)
  case atStart => exact ⟨0, by omega, rfl, rfl, grown_refl _ _⟩
  case round =>
    obtain ⟨n, hn, rfl, hA, C⟩ := hrel
    have HA := Lib.hid hA
    have HC := Lib.hid C
    clear hA C
    by_cases hlt : n < ws.length
    · obtain ⟨a1, a2⟩ := HR.out.calm HC.out n hlt
      rw [Nat.mul_comm] at a1 a2
      have hd := List.drop_eq_getElem_cons hlt
      have hS : (stB ws[n].1 ws[n].2 && ((ws.drop (n + 1)).all fun p => stB p.1 p.2)) = (ws.all fun p => stB p.1 p.2) := by
        rw [← HA.out, hd, List.all_cons]
      generalize ws[n] = p at *
      obtain ⟨x, y⟩ := p
      dsimp only at a1 a2 hS
      have hSl := World.block_lt_of_cell? wr _ a1
      have HS := Lib.hid hS
      clear hS hd
      cases hst : stB x y
      · have HB := Lib.hid hst
        clear hst
        go_wp2_with fail
        refine (implStage_any _ _ _).mono ?_
        rw [HB.out]
        rintro z w2 ⟨rfl, C⟩
        have HC2 := Lib.hid (calm_trans (calm_allocR HC.out _) C)
        clear a1 a2 hSl C
        go_wp2_with fail
        go_ret
        exact ⟨by rw [← HS.out, HB.out]; rfl, HC2.out⟩
      · have HB := Lib.hid hst
        clear hst
        go_wp2_with fail
        refine (implStage_any _ _ _).mono ?_
        rw [HB.out]
        rintro z w2 ⟨rfl, C⟩
        have HC2 := Lib.hid (calm_trans (calm_allocR HC.out _) C)
        clear a1 a2 hSl C
        go_wp2_with fail
        exact ⟨⟨n + 1, by omega, by go_num, by have := HS.out; rw [HB.out] at this; exact this, HC2.out⟩, by simp [intOf]; omega⟩
    · have hn' : n = ws.length := by omega
      subst hn'
      go_wp2_with fail
      go_ret
      exact ⟨by rw [← HA.out, List.drop_length]; rfl, HC.out⟩

set_option maxRecDepth 8000 in
set_option maxHeartbeats 4000000 in
theorem implNoise_m {S cap n : Nat} {p : Nat × Nat} {rest : List (Nat × Nat)} {w : World} (hR : Row2 w S (p :: rest)) (hm : rest.length + 1 = n) (h6 : n ≤ 6) (hc : n ≤ cap) :
    Calls Try.prog 33 #[.slice (some ⟨S, 0, none⟩) n cap] w fun z w' => z = .returned (noiseV (noiseT 0 0 4607182418800017408 (p :: rest))) ∧ Calm w w' := by
  have h1 : 1 ≤ n := by omega
  obtain ⟨T, hT⟩ : ∃ T, noiseT 0 0 4607182418800017408 (p :: rest) = T := ⟨_, rfl⟩
  have hA : ∀ w', Calm w w' → Calls Try.prog 67 #[.slice (some ⟨S, 0, none⟩) n cap] w' fun z w2 => z = .returned (.bool ((p :: rest).all fun p => stB p.1 p.2)) ∧ Calm w' w2 := by
    intro w' C
    have := areStages_any (cap := cap) (hR.calm C) (by simp) (by simp; omega)
    rw [show (p :: rest).length = n from hm] at this
    exact this
  have HA := Lib.hid hA
  have HT := Lib.hid hT
  have HR := Lib.hid hR
  have HM := Lib.hid hm
  rw [hT]
  cases hall : ((p :: rest).all fun p => stB p.1 p.2)
  · have HB := Lib.hid hall
    have HN := Lib.hid (show T = none by rw [← hT]; exact noiseT_none _ hall)
    clear hA hT hR hm hall
    go_enter Try.func33, Try.ntmps33
    go_wp2_with fail
    refine (HA.out _ (grown_refl _ _)).mono ?_
    rw [HB.out]
    rintro z w1 ⟨rfl, C⟩
    go_wp2_with fail
    go_ret2
    exact ⟨by rw [HN.out]; rfl, C⟩
  · have hI : NzGo T rest 0 p.1 p.2 := by
      rw [← hT]
      rw [List.all_cons, Bool.and_eq_true] at hall
      exact NzGo.start hall.1
    have hst : ∀ n, (h : n < rest.length) → stB rest[n].1 rest[n].2 = true := by
      intro n h
      rw [List.all_eq_true] at hall
      exact hall _ (List.mem_cons_of_mem _ (List.getElem_mem h))
    have hcell : ∀ w', Calm w w' → ∀ n, (h : n < rest.length) → w'.cell? ⟨S, 2 + n * 2, none⟩ = some (.float .f64 rest[n].1) ∧ w'.cell? ⟨S, 2 + n * 2 + 1, none⟩ = some (.float .f64 rest[n].2) := by
      intro w' C n h
      have := hR.calm C (n + 1) (by simp; omega)
      simp only [List.getElem_cons_succ] at this
      rw [show 2 * (n + 1) = 2 + n * 2 by omega] at this
      exact this
    have hfirst : ∀ w', Calm w w' → w'.cell? ⟨S, 0, none⟩ = some (.float .f64 p.1) ∧ w'.cell? ⟨S, 1, none⟩ = some (.float .f64 p.2) := fun w' C => hR.calm C 0 (by simp)
    have HB := Lib.hid hall
    have HI := Lib.hid hI
    have HS := Lib.hid hst
    have HC := Lib.hid hcell
    have HF := Lib.hid hfirst
    clear hA hT hR hm hall hI hst hcell hfirst
    go_enter Try.func33, Try.ntmps33
    go_wp2_with fail
    refine (HA.out _ (grown_refl _ _)).mono ?_
    rw [HB.out]
    rintro z w1 ⟨rfl, C⟩
    obtain ⟨a0, a1⟩ := HF.out _ C
    have hSl := World.block_lt_of_cell? w1 _ a0
    have HK := Lib.hid C
    clear C
    go_wp2_with fail
    go_quiet (fail)
    go_wp2_with fail
    · have hl := HM.out
      go_loopw [4, 5, 23] (fun sv gv kv wr => ∃ k s g : Nat, k ≤ rest.length ∧ kv = .int .i64 k ∧ sv = .float .f64 s ∧ gv = .float .f64 g ∧ NzGo T rest k s g ∧ Calm w wr)
        (fun _ _ kv _ => rest.length - (intOf kv).toNat)
      case atStart => exact ⟨0, _, _, by omega, rfl, rfl, rfl, HI.out, grown_drewN HK.out _⟩
      case round =>
        obtain ⟨k, s, g, hk, rfl, rfl, rfl, I, C⟩ := hrel
        have HC2 := Lib.hid C
        clear C
        have hk' : k = rest.length := by omega
        subst hk'
        have hd := I.done
        obtain ⟨f, hf⟩ : ∃ f, fin .f64 s = f := ⟨_, rfl⟩
        rw [hf] at hd
        go_wp2_with fail
        refine (implFin7_t _ _).mono ?_
        rw [hf]
        rintro z w2 ⟨rfl, rfl⟩
        cases f
        all_goals
          simp only [if_true, Bool.false_eq_true, if_false] at hd ⊢
          go_wp2_with fail
          go_ret2
          exact ⟨by rw [hd]; rfl, HC2.out⟩
    · have hl := HM.out
      go_loopw [4, 5, 23] (fun sv gv kv wr => ∃ k s g : Nat, k ≤ rest.length ∧ kv = .int .i64 k ∧ sv = .float .f64 s ∧ gv = .float .f64 g ∧ NzGo T rest k s g ∧ Calm w wr)
        (fun _ _ kv _ => rest.length - (intOf kv).toNat)
      case atStart => exact ⟨0, _, _, by omega, rfl, rfl, rfl, HI.out, grown_drewN HK.out _⟩
      case round =>
        obtain ⟨k, s, g, hk, rfl, rfl, rfl, I, C⟩ := hrel
        have HC2 := Lib.hid C
        clear C
        by_cases hlt : k < rest.length
        · obtain ⟨b0, b1⟩ := HC.out _ HC2.out k hlt
          have hst := HS.out k hlt
          have hlt' : (k : Int) < ((n - 1 : Nat) : Int) := by omega
          have hSl2 := World.block_lt_of_cell? wr _ b0
          have hstep := I.step hlt hst
          clear I hst
          generalize rest[k] = q at *
          obtain ⟨x, y⟩ := q
          dsimp only at b0 b1 hstep
          have A0 := At.new wr (.cells #[.float .f64 x, .float .f64 y] 43)
          have C0 := calm_allocR HC2.out (.cells #[.float .f64 x, .float .f64 y] 43)
          have HA0 := Lib.hid A0
          have HC0 := Lib.hid C0
          clear A0 C0
          go_wp2_with fail
          have A0 := HA0.out
          have C0 := HC0.out
          clear HA0 HC0
          generalize wr.alloc (.cells #[.float .f64 x, .float .f64 y] 43) = W0 at *
          have HN := Lib.hid hstep
          have HC3 := Lib.hid C0
          have c1 : W0.cell? ⟨wr.heap.size, 1, none⟩ = some (.float .f64 y) := A0.cell (i := 1) rfl
          have cl := A0.lt
          clear A0 C0 hstep b0 b1 hSl2
          go_region
          all_goals
            go_wp2_with fail
            exact ⟨⟨k + 1, _, _, by omega, by go_num, rfl, rfl, HN.out _ _ _ _, grown_drewN HC3.out _⟩, by simp [intOf]; omega⟩
        · have hl := HM.out
          have hk' : k = rest.length := by omega
          subst hk'
          have hd := I.done
          obtain ⟨f, hf⟩ : ∃ f, fin .f64 s = f := ⟨_, rfl⟩
          rw [hf] at hd
          go_wp2_with fail
          refine (implFin7_t _ _).mono ?_
          rw [hf]
          rintro z w2 ⟨rfl, rfl⟩
          cases f
          all_goals
            simp only [if_true, Bool.false_eq_true, if_false] at hd ⊢
            go_wp2_with fail
            go_ret2
            exact ⟨by rw [hd]; rfl, HC2.out⟩

theorem implNoise_t {S cap : Nat} {ws : List (Nat × Nat)} {w : World} (hR : Row2 w S ws) (h1 : 1 ≤ ws.length) (h6 : ws.length ≤ 6) (hc : ws.length ≤ cap) :
    Calls Try.prog 33 #[.slice (some ⟨S, 0, none⟩) ws.length cap] w fun z w' => z = .returned (noiseV (noiseT 0 0 4607182418800017408 ws)) ∧ Calm w w' := by
  cases ws with
  | nil => exact absurd h1 (by simp)
  | cons p rest => exact implNoise_m hR rfl h6 hc

set_option maxHeartbeats 400000 in
theorem implNoise_no {a : Option Addr} {len cap : Nat} (h : len < 1 ∨ 6 < len) (w : World) :
    Calls Try.prog 33 #[.slice a len cap] w fun z w' => z = .returned (.tuple #[.float .f64 0, .bool false]) ∧ Calm w w' := by
  have hA : Calls Try.prog 67 #[.slice a len cap] w fun z w' => z = .returned (.bool false) ∧ Calm w w' := by
    rcases h with h | h
    all_goals
      go_enter Try.func67, Try.ntmps67
      go_wp2
      go_ret
      exact ⟨rfl, grown_refl _ _⟩
  have HA := Lib.hid hA
  clear hA h
  go_enter Try.func33, Try.ntmps33
  go_wp2_with fail
  refine HA.out.mono ?_
  rintro z w1 ⟨rfl, C⟩
  go_wp2_with fail
  go_ret2
  exact ⟨rfl, C⟩

end Go.Proofs.Ytjacmojmjicmjaa
