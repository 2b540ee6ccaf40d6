/-
  The walk of FnFirstBetter: it answers true.
-/
import Derived.Test.YtjacmojmjicmjaaFirst
namespace Go.Proofs.Ytjacmojmjicmjaa
open Go.RowKit Fl

/-- What quarterNoise reckons. -/
def q4W (k : Nat) : Nat := (floatBits .mul .f64 (nzW k) 4616189618054758400).getD 0
theorem q4_table : ∀ k : Fin 40, (decide (floatBits .mul .f64 (nzW k.val) 4616189618054758400 = some (q4W k.val)) && decide (floatToIntVal .f64 (q4W k.val) .i64 = some ((k.val : Int) + 4)) && geB (nzW k.val) 4607182418800017408 && leB (nzW k.val) 4652007308841189376 &&
    (FloatKind.f64.format.order (q4W k.val) (floatOfInt .f64 ((k.val : Int) + 4)) == some .eq)) = true := by decide +kernel

set_option maxHeartbeats 1000000 in
theorem quarterNoise_of {k : Nat} (hk : k < 40) (w : World) :
    Calls Try.prog 38 #[.float .f64 (nzW k)] w fun x w' => x = .returned (.bool true) ∧ ∃ n, w' = w.drewN n := by
  have ht := q4_table ⟨k, hk⟩
  simp only [Bool.and_eq_true, decide_eq_true_eq] at ht
  obtain ⟨⟨⟨⟨t1, t2⟩, t3⟩, t4⟩, t5⟩ := ht
  have u1 : ∀ w, fres .mul .f64 (nzW k) 4616189618054758400 w = q4W k := fun w => fres_some w t1
  have u2 : fask .mul .f64 (nzW k) 4616189618054758400 = 0 := fask_some t1
  have c1 := conv_int t2
  unfold geB at t3
  unfold leB at t4
  go_enter Try.func38, Try.ntmps38
  go_wp2_with fail
  go_ret
  exact ⟨rfl, _, rfl⟩

/-- A drawn stage that is one. -/
theorem gain_table : ∀ g ∈ gainL, fin .f64 g = true ∧ 1 / 16 ≤ V FloatKind.f64.format g ∧ V FloatKind.f64.format g ≤ 16 := by
  intro g hg
  have h : gainL.all (fun g => fin .f64 g && decide (1 / 16 ≤ V FloatKind.f64.format g) && decide (V FloatKind.f64.format g ≤ 16)) = true := by decide +kernel
  have := List.all_eq_true.1 h g hg
  simpa [and_assoc] using this
theorem nz_val {k : Nat} (hk : k < 40) : fin .f64 (nzW k) = true ∧ V FloatKind.f64.format (nzW k) = 1 + (k : Rat) / 4 := by
  have ht := nz_table ⟨k, hk⟩
  simp only [Bool.and_eq_true, decide_eq_true_eq] at ht
  exact ⟨ht.1.2, ht.2⟩
theorem st_none {g : Nat} : stB 4602678819172646912 g = false := by
  have : geB 4602678819172646912 4607182418800017408 = false := by decide
  unfold stB
  rw [this]
  rfl
theorem st_gain {n : Nat} : stB n 0 = false ∧ stB n 4701340746312056832 = false := by
  have h1 : (FloatKind.f64.format.order 0 0 == some .gt) = false := by decide
  have h2 : leB 4701340746312056832 4696837146684686336 = false := by decide
  unfold stB
  rw [h1, h2]
  simp
theorem stg_mod {n g : Nat} (h : StgOk n g) (hs : stB n g = true) : (∃ k < 40, n = nzW k) ∧ g ∈ gainL ∧ Mod n g := by
  obtain ⟨h1, h2⟩ := h
  rcases h1 with ⟨k, hk, rfl⟩ | rfl
  · rcases h2 with hg | rfl | rfl
    · obtain ⟨a, b⟩ := nz_val hk
      obtain ⟨c, d, e⟩ := gain_table g hg
      have hk' : (k : Rat) ≤ 39 := by simpa using Rat.natCast_le_natCast.2 (show k ≤ 39 by omega)
      have hk0 : (0 : Rat) ≤ (k : Rat) := Rat.natCast_nonneg
      exact ⟨⟨k, hk, rfl⟩, hg, hs, a, c, by rw [b]; grind, by rw [b]; grind, d, e⟩
    · rw [st_gain.1] at hs; cases hs
    · rw [st_gain.2] at hs; cases hs
  · rw [st_none] at hs; cases hs
theorem stg_okay {n g : Nat} (h : StgOk n g) : Okay (n, g) := by
  cases hs : stB n g
  · exact .inr hs
  · exact .inl (stg_mod h hs).2.2

/-- The noise of two stages that are stages. -/
theorem two_mod {a b : Nat × Nat} (ha : Mod a.1 a.2) (hb : Mod b.1 b.2) : two2 a b = some (sB a.1 b.1 (gB 4607182418800017408 a.2)) ∧ fin .f64 (sB a.1 b.1 (gB 4607182418800017408 a.2)) = true := by
  obtain ⟨_, I⟩ := gain_one ha
  obtain ⟨_, f, _⟩ := noise_step (by decide) I hb
  refine ⟨?_, f⟩
  unfold two2
  simp [noiseR, ha.ok, hb.ok]
theorem two_none {a b : Nat × Nat} (h : stB a.1 a.2 = false ∨ stB b.1 b.2 = false) : two2 a b = none := by
  unfold two2
  rcases h with h | h
  · simp [noiseR, h]
  · simp [noiseR, h]
theorem fb_none {a b : Nat × Nat} (h : stB a.1 a.2 = false ∨ stB b.1 b.2 = false) : fbB a b = false := by
  unfold fbB
  rw [two_none h]
  rfl
theorem lessO_some (x y : Nat) : lessO (some x) (some y) = (FloatKind.f64.format.order x y == some .lt) := rfl
/-- Not both ways round. -/
theorem fb_anti {a b : Nat × Nat} (ha : Okay a) (hb : Okay b) (h : fbB a b = true) : fbB b a = false := by
  rcases ha with ha | ha
  · rcases hb with hb | hb
    · obtain ⟨e1, f1⟩ := two_mod ha hb
      obtain ⟨e2, f2⟩ := two_mod hb ha
      unfold fbB at *
      rw [e1, e2, lessO_some] at h
      rw [e1, e2, lessO_some]
      rw [lt_walk (fin_num.1 f1) (fin_num.1 f2)] at h
      rw [lt_walk (fin_num.1 f2) (fin_num.1 f1)]
      simp only [decide_eq_true_eq] at h
      exact decide_eq_false (by grind)
    · exact fb_none (.inl hb)
  · exact fb_none (.inr ha)

/-- The noise of two stages with quarters, and the gain 2 or 4: exact. -/
theorem two_exact {j k h : Nat} (hj : j < 40) (hk : k < 40) (ma : Mod (nzW j) h) (_mb : Mod (nzW k) h) (hg : V FloatKind.f64.format h = 2 ∨ V FloatKind.f64.format h = 4) :
    V FloatKind.f64.format (sB (nzW j) (nzW k) (gB 4607182418800017408 h)) = 1 + (j : Rat) / 4 + (k : Rat) / 4 / V FloatKind.f64.format h := by
  obtain ⟨o1, o2⟩ := oneN
  obtain ⟨fj, vj⟩ := nz_val hj
  obtain ⟨fk, vk⟩ := nz_val hk
  have j39 : (j : Rat) ≤ 39 := by simpa using Rat.natCast_le_natCast.2 (show j ≤ 39 by omega)
  have k39 : (k : Rat) ≤ 39 := by simpa using Rat.natCast_le_natCast.2 (show k ≤ 39 by omega)
  have j0 : (0 : Rat) ≤ (j : Rat) := Rat.natCast_nonneg
  have k0 : (0 : Rat) ≤ (k : Rat) := Rat.natCast_nonneg
  have l := lim64.1
  have l2 := lim64.2
  have p4 : p2 (-4) = 1 / 16 := by decide +kernel
  have p2' : p2 (-2) = 1 / 4 := by decide +kernel
  have has : ∀ (i : Int) (e : Int), i.natAbs ≤ 1000 → -10 ≤ e → Has FloatKind.f64.format ((i : Rat) * p2 e) := by
    intro i e hi he
    have t : FloatKind.f64.format.leastPlace = -1074 := by decide
    exact ⟨i, e, Nat.le_trans hi (by decide), by rw [t]; omega, rfl⟩
  -- the gain
  obtain ⟨g, g1, g2, g3⟩ := mul_spec .f64 (fin_num.1 o1) (fin_num.1 ma.fh) (by rw [o2]; rcases hg with h | h <;> rw [h] <;> grind) (by rw [o2]; rcases hg with h | h <;> rw [h] <;> grind)
  rw [o2, Rat.one_mul] at g3
  have gv := rndV_exact g3 (has_V _ _)
  have eg : gB 4607182418800017408 h = g := by unfold gB; rw [g1]; rfl
  -- the noise less 1
  obtain ⟨t, t1, t2, t3⟩ := sub_spec .f64 (fin_num.1 fk) (fin_num.1 o1) (by rw [vk, o2]; grind) (by rw [vk, o2]; grind)
  rw [vk, o2] at t3
  have et : tB (nzW k) = t := by unfold tB; rw [t1]; rfl
  have tv : V FloatKind.f64.format t = (k : Rat) / 4 := by
    have e : 1 + (k : Rat) / 4 - 1 = ((k : Int) : Rat) * p2 (-2) := by rw [p2', Rat.intCast_natCast]; grind
    rw [e] at t3
    rw [rndV_exact t3 (has (k : Int) (-2) (by omega) (by decide)), p2', Rat.intCast_natCast]
    grind
  -- divided
  have hg0 : V FloatKind.f64.format g ≠ 0 := by rw [gv]; rcases hg with h | h <;> rw [h] <;> decide +kernel
  obtain ⟨X, hX, hXe, hXb⟩ : ∃ X : Rat, X * V FloatKind.f64.format g = V FloatKind.f64.format t ∧ (∃ c : Int, c.natAbs ≤ 78 ∧ X = (c : Rat) * p2 (-4)) ∧ (0 ≤ X ∧ X ≤ 5) := by
    rcases hg with h | h
    · refine ⟨(k : Rat) / 8, by rw [gv, tv, h]; grind, ⟨2 * (k : Int), by omega, by rw [p4, Rat.intCast_mul, Rat.intCast_natCast]; simp; grind⟩, by grind, by grind⟩
    · refine ⟨(k : Rat) / 16, by rw [gv, tv, h]; grind, ⟨(k : Int), by omega, by rw [p4, Rat.intCast_natCast]; grind⟩, by grind, by grind⟩
  obtain ⟨c, hc, rfl⟩ := hXe
  obtain ⟨q, q1, q2, q3⟩ := quo_spec .f64 t2 g2 hg0 _ hX (by grind) (by grind)
  have eq : qB (nzW k) g = q := by unfold qB; rw [et, q1]; rfl
  have qv := rndV_exact q3 (has c (-4) (by omega) (by decide))
  -- added
  obtain ⟨z, s1, s2, s3⟩ := add_spec .f64 (fin_num.1 fj) q2 (by rw [vj, qv]; grind) (by rw [vj, qv]; grind)
  have es : sB (nzW j) (nzW k) g = z := by unfold sB; rw [eq, s1]; rfl
  have sv : V FloatKind.f64.format z = 1 + (j : Rat) / 4 + (c : Rat) * p2 (-4) := by
    rw [vj, qv] at s3
    have e : 1 + (j : Rat) / 4 + (c : Rat) * p2 (-4) = ((16 + 4 * (j : Int) + c : Int) : Rat) * p2 (-4) := by
      rw [p4, Rat.intCast_add, Rat.intCast_add, Rat.intCast_mul, Rat.intCast_natCast]; simp; grind
    rw [e] at s3 ⊢
    exact rndV_exact s3 (has _ (-4) (by omega) (by decide))
  rw [eg, es, sv]
  have key : (c : Rat) * p2 (-4) = (k : Rat) / 4 / V FloatKind.f64.format h := by
    rw [tv, gv] at hX
    rcases hg with h | h <;> rw [h] at hX ⊢ <;> grind
  rw [key]

theorem first_exact {j k h : Nat} (hj : j < 40) (hk : k < 40) (ma : Mod (nzW j) h) (mb : Mod (nzW k) h) (hg : V FloatKind.f64.format h = 2 ∨ V FloatKind.f64.format h = 4) :
    fbB (nzW j, h) (nzW k, h) = (FloatKind.f64.format.order (nzW j) (nzW k) == some .lt) := by
  obtain ⟨e1, f1⟩ := two_mod (a := (nzW j, h)) (b := (nzW k, h)) ma mb
  obtain ⟨e2, f2⟩ := two_mod (a := (nzW k, h)) (b := (nzW j, h)) mb ma
  have v1 := two_exact hj hk ma mb hg
  have v2 := two_exact hk hj mb ma hg
  obtain ⟨fj, vj⟩ := nz_val hj
  obtain ⟨fk, vk⟩ := nz_val hk
  unfold fbB
  rw [e1, e2, lessO_some, lt_walk (fin_num.1 f1) (fin_num.1 f2), lt_walk (fin_num.1 fj) (fin_num.1 fk)]
  dsimp only
  rw [v1, v2, vj, vk]
  have key : (1 + (j : Rat) / 4 + (k : Rat) / 4 / V FloatKind.f64.format h < 1 + (k : Rat) / 4 + (j : Rat) / 4 / V FloatKind.f64.format h) ↔ (1 + (j : Rat) / 4 < 1 + (k : Rat) / 4) := by
    rcases hg with h | h <;> rw [h] <;> constructor <;> intro g <;> grind
  exact decide_eq_decide.2 key

theorem gain_val {g : Nat} (hg : g ∈ gainL) : (FloatKind.f64.format.order g 4611686018427387904 = some .eq → V FloatKind.f64.format g = 2) ∧ (FloatKind.f64.format.order g 4616189618054758400 = some .eq → V FloatKind.f64.format g = 4) := by
  obtain ⟨f, _⟩ := gain_table g hg
  have a : V FloatKind.f64.format 4611686018427387904 = 2 := by decide +kernel
  have b : V FloatKind.f64.format 4616189618054758400 = 4 := by decide +kernel
  exact ⟨fun h => by rw [(order_spec _ (fin_num.1 f) (fin_num.1 (by decide))).2.1.1 h, a], fun h => by rw [(order_spec _ (fin_num.1 f) (fin_num.1 (by decide))).2.1.1 h, b]⟩
/-- Equal gains of those drawn are the same word. -/
theorem gain_eq {g h : Nat} (hg : g ∈ gainL) (hh : h ∈ gainL) (e : FloatKind.f64.format.order g h = some .eq) : g = h := by
  have key : gainL.all (fun g => gainL.all (fun h => !(FloatKind.f64.format.order g h == some .eq) || g == h)) = true := by decide
  have h1 := List.all_eq_true.1 (List.all_eq_true.1 key g hg) h hh
  rw [e] at h1
  simpa using h1

theorem results_stg2 {fn : Func} {p q : Tmp} (hr : fn.results = #[.cell p 43, .cell q 43]) (tmps : Array Value) {w : World} {A B n h m i : Nat}
    (hp : tmps.getD p undef = .pointer (some ⟨A, 0, none⟩)) (hq : tmps.getD q undef = .pointer (some ⟨B, 0, none⟩)) (H : At w A (.cells #[.float .f64 n, .float .f64 h] 43)) (K : At w B (.cells #[.float .f64 m, .float .f64 i] 43)) :
    (results fn tmps).run Try.prog w = .ok (.tuple #[stgV n h, stgV m i]) w := by
  have hp' : tmps[p]?.getD undef = .pointer (some ⟨A, 0, none⟩) := by simpa using hp
  have hq' : tmps[q]?.getD undef = .pointer (some ⟨B, 0, none⟩) := by simpa using hq
  have l1 := run_loadVar_row (P := Try.prog) w A 43 43 _ _ _ H Try.underlying43 rfl (by kernel_rfl)
  have l2 := run_loadVar_row (P := Try.prog) w B 43 43 _ _ _ K Try.underlying43 rfl (by kernel_rfl)
  simp [results, hr, hp', hq', asAddr, l1, l2]

set_option maxRecDepth 8000 in
set_option maxHeartbeats 1000000 in
theorem drawFirst_any {a : Option Addr} {len cap : Nat} {zs : List Int} {w : World} (h : IsRow .u8 w a len cap zs) :
    Calls Try.prog 35 #[.slice a len cap] w (Got (fun v => ∃ n h m i, v = .tuple #[stgV n h, stgV m i] ∧ StgOk n h ∧ StgOk m i) w) := by
  have X0 := (At.new w (.cells #[.float .f64 0, .float .f64 0] 43)).alloc (.cells #[.float .f64 0, .float .f64 0] 43)
  have X1 := At.new (w.alloc (.cells #[.float .f64 0, .float .f64 0] 43)) (.cells #[.float .f64 0, .float .f64 0] 43)
  have hs1 : (w.alloc (.cells #[.float .f64 0, .float .f64 0] 43)).heap.size = w.heap.size + 1 := by simp
  have hs : ((w.alloc (.cells #[.float .f64 0, .float .f64 0] 43)).alloc (.cells #[.float .f64 0, .float .f64 0] 43)).heap.size = w.heap.size + 1 + 1 := by simp
  have B0 : Below w.heap.size w ((w.alloc (.cells #[.float .f64 0, .float .f64 0] 43)).alloc (.cells #[.float .f64 0, .float .f64 0] 43)) := ((Below.refl w.heap.size w).alloc (Nat.le_refl _) _).alloc (by simp) _
  rw [hs1] at X1
  have hrow := (h.alloc (.cells #[.float .f64 0, .float .f64 0] 43)).alloc (.cells #[.float .f64 0, .float .f64 0] 43)
  clear h
  go_enter Try.func35, Try.ntmps35
  go_wp2_with fail
  refine (open_any hrow).mono ?_
  rintro e w1 ⟨b, a1, len1, cap1, rfl, R1, hb, B1⟩
  rw [hs] at hb B1
  have A0 : At w1 w.heap.size (.cells #[.float .f64 0, .float .f64 0] 43) := by
    unfold At
    rw [B1.block w.heap.size (by omega)]
    exact X0
  have A1 : At w1 (w.heap.size + 1) (.cells #[.float .f64 0, .float .f64 0] 43) := by
    unfold At
    rw [B1.block (w.heap.size + 1) (by omega)]
    exact X1
  have B2 := B0.trans (B1.mono (B' := w.heap.size) (by omega))
  clear X0 X1 B0 B1 hs1 hs hrow
  go_wp2_with fail
  refine (stage_any R1 (by omega) (by omega) (by omega)).mono ?_
  rintro e w2 ⟨v, k2, ⟨n, h, rfl, hg1⟩, rfl, hk2, R2, G2⟩
  have A2 := A0.grown G2 (by omega)
  have A3 := A1.grown G2 (by omega)
  have B3 := below_drawn B2 (show w.heap.size ≤ b by omega) B2.size G2
  have HS1 := Lib.hid hg1
  clear hg1 R1 G2 B2 A0 A1
  go_wp2_with fail
  refine (stage_any R2 (by omega) (by omega) (by omega)).mono ?_
  rintro e w3 ⟨v, k3, ⟨m, i, rfl, hg2⟩, rfl, hk3, R3, G3⟩
  have A4 := A2.grown G3 (by omega)
  have A5 := A3.grown G3 (by omega)
  have B4 := Lib.hid (below_drawn B3 (show w.heap.size ≤ b by omega) B3.size G3)
  have HS2 := Lib.hid hg2
  have z0 : w3.cell? ⟨w.heap.size, 0, none⟩ = some (.float .f64 0) := A4.cell (i := 0) rfl
  have z1 : w3.cell? ⟨w.heap.size, 1, none⟩ = some (.float .f64 0) := A4.cell (i := 1) rfl
  have z2 : w3.cell? ⟨w.heap.size + 1, 0, none⟩ = some (.float .f64 0) := A5.cell (i := 0) rfl
  have z3 : w3.cell? ⟨w.heap.size + 1, 1, none⟩ = some (.float .f64 0) := A5.cell (i := 1) rfl
  have f0 := A4.fr 0
  have f1 := A4.fr 1
  have f2 := A5.fr 0
  have f3 := A5.fr 1
  have l4 := A4.lt
  have l5 := A5.lt
  have HA := Lib.hid A4
  have HB := Lib.hid A5
  clear hg2 R2 R3 G3 B3 A2 A3 A4 A5
  go_wp2_with fail
  refine bodyPost_ret (results_stg2 rfl _ rfl rfl ((HA.out.set2 _ _).other (r := ⟨w.heap.size + 1, 0, none⟩) (by show w.heap.size ≠ w.heap.size + 1; omega) _ |>.other (r := ⟨w.heap.size + 1, 1, none⟩) (by show w.heap.size ≠ w.heap.size + 1; omega) _)
    (((HB.out.other (r := ⟨w.heap.size, 0, none⟩) (by show w.heap.size + 1 ≠ w.heap.size; omega) _).other (r := ⟨w.heap.size, 1, none⟩) (by show w.heap.size + 1 ≠ w.heap.size; omega) _).set2 _ _)) rfl ?_
  exact ⟨_, ⟨n, h, m, i, rfl, HS1.out, HS2.out⟩, rfl, (((B4.out.setCell (p := ⟨w.heap.size, 0, none⟩) (Nat.le_refl _) _).setCell (p := ⟨w.heap.size, 1, none⟩) (Nat.le_refl _) _).setCell (p := ⟨w.heap.size + 1, 0, none⟩) (by show w.heap.size ≤ w.heap.size + 1; omega) _).setCell (p := ⟨w.heap.size + 1, 1, none⟩) (by show w.heap.size ≤ w.heap.size + 1; omega) _⟩

set_option maxRecDepth 8000 in
set_option maxHeartbeats 4000000 in
theorem FnFirstBetter_walk (a : Option Addr) (len cap : Nat) (zs : List Int) (w : World) (h : IsRow .u8 w a len cap zs) :
    Calls Try.prog 8 #[.slice a len cap] w fun e w' => e = .returned (.bool true) ∧ Below w.heap.size w w' := by
  by_cases hl : (1048576 : Int) < (len : Int)
  · go_enter Try.func8, Try.ntmps8
    go_wp2_with fail
    go_ret
    exact ⟨rfl, Below.refl _ _⟩
  · go_enter Try.func8, Try.ntmps8
    go_wp2_with fail
    refine (drawFirst_any h).mono ?_
    rename_i h_in
    clear h
    rintro e w1 ⟨v, ⟨n, h, m, i, rfl, hS, hT⟩, rfl, B1⟩
    have o1 := stg_okay hS
    have o2 := stg_okay hT
    have HO := Lib.hid (And.intro o1 o2)
    obtain ⟨β, hβ⟩ : ∃ β, fbB (n, h) (m, i) = β := ⟨_, rfl⟩
    have HF := Lib.hid hβ
    have HA := Lib.hid (show β = true → fbB (m, i) (n, h) = false from fun e => fb_anti o1 o2 (hβ.trans e))
    have HS := Lib.hid (And.intro hS hT)
    clear o1 o2 hβ hS hT
    have P := (At.new w1 (.cells #[.float .f64 n, .float .f64 h] 43)).alloc (.cells #[.float .f64 m, .float .f64 i] 43)
    have Q := At.new (w1.alloc (.cells #[.float .f64 n, .float .f64 h] 43)) (.cells #[.float .f64 m, .float .f64 i] 43)
    rw [show (w1.alloc (.cells #[.float .f64 n, .float .f64 h] 43)).heap.size = w1.heap.size + 1 by simp] at Q
    have B2 := (B1.alloc B1.size (.cells #[.float .f64 n, .float .f64 h] 43)).alloc (B1.alloc B1.size (.cells #[.float .f64 n, .float .f64 h] 43)).size (.cells #[.float .f64 m, .float .f64 i] 43)
    have HP := Lib.hid P
    have HQ := Lib.hid Q
    have HB2 := Lib.hid B2
    clear P Q B1 B2
    go_wp2_with fail
    refine (implFirst_of HO.out.1 HO.out.2 _).mono ?_
    rw [HF.out]
    rintro z w2 ⟨rfl, C⟩
    have P := HP.out.calm C
    have Q := HQ.out.calm C
    have B := below_calm HB2.out HB2.out.size C
    have s0 : w2.cell? ⟨w1.heap.size, 0, none⟩ = some (.float .f64 n) := P.cell (i := 0) rfl
    have s1 : w2.cell? ⟨w1.heap.size, 1, none⟩ = some (.float .f64 h) := P.cell (i := 1) rfl
    have s2 : w2.cell? ⟨w1.heap.size + 1, 0, none⟩ = some (.float .f64 m) := Q.cell (i := 0) rfl
    have s3 : w2.cell? ⟨w1.heap.size + 1, 1, none⟩ = some (.float .f64 i) := Q.cell (i := 1) rfl
    have sl := P.lt
    have sm := Q.lt
    have HP2 := Lib.hid P
    have HQ2 := Lib.hid Q
    have HB3 := Lib.hid B
    clear P Q B C HP HQ HB2
    go_wp2_with fail
    refine (specFirst_of HO.out.1 HO.out.2 _).mono ?_
    rw [HF.out]
    rintro z w3 ⟨rfl, C⟩
    have P := HP2.out.calm C
    have Q := HQ2.out.calm C
    have B := below_calm HB3.out HB3.out.size C
    clear s0 s1 s2 s3 sl sm
    have s0 : w3.cell? ⟨w1.heap.size, 0, none⟩ = some (.float .f64 n) := P.cell (i := 0) rfl
    have s1 : w3.cell? ⟨w1.heap.size, 1, none⟩ = some (.float .f64 h) := P.cell (i := 1) rfl
    have s2 : w3.cell? ⟨w1.heap.size + 1, 0, none⟩ = some (.float .f64 m) := Q.cell (i := 0) rfl
    have s3 : w3.cell? ⟨w1.heap.size + 1, 1, none⟩ = some (.float .f64 i) := Q.cell (i := 1) rfl
    have sl := P.lt
    have sm := Q.lt
    have HP3 := Lib.hid P
    have HQ3 := Lib.hid Q
    have HB4 := Lib.hid B
    clear P Q B C HP2 HQ2 HB3
    obtain ⟨σ, hσ⟩ : ∃ σ, stB n h = σ := ⟨_, rfl⟩
    obtain ⟨τ, hτ⟩ : ∃ τ, stB m i = τ := ⟨_, rfl⟩
    have H1 := Lib.hid hσ
    have H2 := Lib.hid hτ
    -- where one of both is no stage, neither is better
    have hno : σ = false ∨ τ = false → β = false := by
      intro e
      rw [← HF.out]
      exact fb_none (by rw [hσ, hτ]; exact e)
    -- equal gains, 2 or 4: exact
    have hex : σ = true → τ = true → FloatKind.f64.format.order h i = some .eq → (FloatKind.f64.format.order h 4611686018427387904 = some .eq ∨ FloatKind.f64.format.order h 4616189618054758400 = some .eq) →
        (∃ j < 40, n = nzW j) ∧ (∃ k < 40, m = nzW k) ∧ β = (FloatKind.f64.format.order n m == some .lt) := by
      intro e1 e2 e3 e4
      obtain ⟨⟨j, hj, rfl⟩, g1, m1⟩ := stg_mod HS.out.1 (hσ.trans e1)
      obtain ⟨⟨k, hk, rfl⟩, g2, m2⟩ := stg_mod HS.out.2 (hτ.trans e2)
      have e := gain_eq g1 g2 e3
      subst e
      refine ⟨⟨j, hj, rfl⟩, ⟨k, hk, rfl⟩, ?_⟩
      rw [← HF.out]
      refine first_exact hj hk m1 m2 ?_
      rcases e4 with e | e
      · exact .inl ((gain_val g1).1 e)
      · exact .inr ((gain_val g1).2 e)
    have HNo := Lib.hid hno
    have HEx := Lib.hid hex
    clear hσ hτ hno hex
    cases β
    rotate_left
    · go_wp2_with fail
      refine (implFirst_of HO.out.2 HO.out.1 _).mono ?_
      rw [HA.out (by first | trivial | rfl)]
      rintro z w3 ⟨rfl, C⟩
      have P := HP3.out.calm C
      have Q := HQ3.out.calm C
      have B := below_calm HB4.out HB4.out.size C
      clear s0 s1 s2 s3 sl sm
      have s0 : w3.cell? ⟨w1.heap.size, 0, none⟩ = some (.float .f64 n) := P.cell (i := 0) rfl
      have s1 : w3.cell? ⟨w1.heap.size, 1, none⟩ = some (.float .f64 h) := P.cell (i := 1) rfl
      have s2 : w3.cell? ⟨w1.heap.size + 1, 0, none⟩ = some (.float .f64 m) := Q.cell (i := 0) rfl
      have s3 : w3.cell? ⟨w1.heap.size + 1, 1, none⟩ = some (.float .f64 i) := Q.cell (i := 1) rfl
      have sl := P.lt
      have sm := Q.lt
      have HP4 := Lib.hid P
      have HQ4 := Lib.hid Q
      have HB5 := Lib.hid B
      clear P Q B C HP3 HQ3 HB4
      go_wp2_with fail
      refine (specStage_any _ _ _).mono ?_
      rw [H1.out]
      rintro z w4 ⟨rfl, C⟩
      have P := HP4.out.calm C
      have Q := HQ4.out.calm C
      have B := below_calm HB5.out HB5.out.size C
      clear s0 s1 s2 s3 sl sm
      have s0 : w4.cell? ⟨w1.heap.size, 0, none⟩ = some (.float .f64 n) := P.cell (i := 0) rfl
      have s1 : w4.cell? ⟨w1.heap.size, 1, none⟩ = some (.float .f64 h) := P.cell (i := 1) rfl
      have s2 : w4.cell? ⟨w1.heap.size + 1, 0, none⟩ = some (.float .f64 m) := Q.cell (i := 0) rfl
      have s3 : w4.cell? ⟨w1.heap.size + 1, 1, none⟩ = some (.float .f64 i) := Q.cell (i := 1) rfl
      have sl := P.lt
      have sm := Q.lt
      have HP5 := Lib.hid P
      have HQ5 := Lib.hid Q
      have HB6 := Lib.hid B
      clear P Q B C HP4 HQ4 HB5
      cases σ
      · exact absurd (HNo.out (.inl rfl)) (by decide)
      · go_wp2_with fail
        refine (specStage_any _ _ _).mono ?_
        rw [H2.out]
        rintro z w5 ⟨rfl, C⟩
        have P := HP5.out.calm C
        have Q := HQ5.out.calm C
        have B := below_calm HB6.out HB6.out.size C
        clear s0 s1 s2 s3 sl sm
        have s0 : w5.cell? ⟨w1.heap.size, 0, none⟩ = some (.float .f64 n) := P.cell (i := 0) rfl
        have s1 : w5.cell? ⟨w1.heap.size, 1, none⟩ = some (.float .f64 h) := P.cell (i := 1) rfl
        have s2 : w5.cell? ⟨w1.heap.size + 1, 0, none⟩ = some (.float .f64 m) := Q.cell (i := 0) rfl
        have s3 : w5.cell? ⟨w1.heap.size + 1, 1, none⟩ = some (.float .f64 i) := Q.cell (i := 1) rfl
        have sl := P.lt
        have sm := Q.lt
        have HP6 := Lib.hid P
        have HQ6 := Lib.hid Q
        have HB7 := Lib.hid B
        clear P Q B C HP5 HQ5 HB6
        cases τ
        · exact absurd (HNo.out (.inr rfl)) (by decide)
        · by_cases e1 : FloatKind.f64.format.order h i = some .eq
          · by_cases e24 : FloatKind.f64.format.order h 4611686018427387904 = some .eq ∨ FloatKind.f64.format.order h 4616189618054758400 = some .eq
            · obtain ⟨⟨j, hj, hn⟩, ⟨k, hk, hm⟩, hlt⟩ := HEx.out (by first | trivial | rfl) (by first | trivial | rfl) e1 e24
              have HJ := Lib.hid (And.intro hj hn)
              have HK := Lib.hid (And.intro hk hm)
              have hq1 : ∀ w : World, Calls Try.prog 38 #[.float .f64 n] w fun x w' => x = .returned (.bool true) ∧ ∃ n, w' = w.drewN n := by rw [hn]; exact quarterNoise_of hj
              have hq2 : ∀ w : World, Calls Try.prog 38 #[.float .f64 m] w fun x w' => x = .returned (.bool true) ∧ ∃ n, w' = w.drewN n := by rw [hm]; exact quarterNoise_of hk
              have HQ1 := Lib.hid hq1
              have HQ2 := Lib.hid hq2
              have HLt := Lib.hid hlt
              have hlt' := hlt.symm
              clear hj hn hk hm hq1 hq2 hlt HO HS HF HA HNo HEx
              rcases e24 with e2 | e4
              · go_wp2_with fail
                refine (HQ1.out _).mono ?_
                rintro z w8 ⟨rfl, q1, hw8⟩
                have P := HP6.out.drewN q1
                have Q := HQ6.out.drewN q1
                have B := below_drewN HB7.out q1
                rw [← hw8] at P Q B
                clear s0 s1 s2 s3 sl sm hw8
                have s0 : w8.cell? ⟨w1.heap.size, 0, none⟩ = some (.float .f64 n) := P.cell (i := 0) rfl
                have s1 : w8.cell? ⟨w1.heap.size, 1, none⟩ = some (.float .f64 h) := P.cell (i := 1) rfl
                have s2 : w8.cell? ⟨w1.heap.size + 1, 0, none⟩ = some (.float .f64 m) := Q.cell (i := 0) rfl
                have s3 : w8.cell? ⟨w1.heap.size + 1, 1, none⟩ = some (.float .f64 i) := Q.cell (i := 1) rfl
                have sl := P.lt
                have sm := Q.lt
                have HB8 := Lib.hid B
                have HP8 := Lib.hid P
                have HQ8 := Lib.hid Q
                clear P Q B
                go_wp2_with fail
                refine (HQ2.out _).mono ?_
                rintro z w9 ⟨rfl, q2, hw9⟩
                have P := HP8.out.drewN q2
                have Q := HQ8.out.drewN q2
                have B := below_drewN HB8.out q2
                rw [← hw9] at P Q B
                clear s0 s1 s2 s3 sl sm hw9
                have s0 : w9.cell? ⟨w1.heap.size, 0, none⟩ = some (.float .f64 n) := P.cell (i := 0) rfl
                have s1 : w9.cell? ⟨w1.heap.size, 1, none⟩ = some (.float .f64 h) := P.cell (i := 1) rfl
                have s2 : w9.cell? ⟨w1.heap.size + 1, 0, none⟩ = some (.float .f64 m) := Q.cell (i := 0) rfl
                have s3 : w9.cell? ⟨w1.heap.size + 1, 1, none⟩ = some (.float .f64 i) := Q.cell (i := 1) rfl
                have sl := P.lt
                have sm := Q.lt
                have HB9 := Lib.hid B
                clear P Q B
                go_wp2_with fail
                go_ret
                exact ⟨by first | rfl | (rw [← HLt.out]; rfl), HB9.out⟩
              · by_cases e2 : FloatKind.f64.format.order h 4611686018427387904 = some .eq
                · go_wp2_with fail
                  refine (HQ1.out _).mono ?_
                  rintro z w8 ⟨rfl, q1, hw8⟩
                  have P := HP6.out.drewN q1
                  have Q := HQ6.out.drewN q1
                  have B := below_drewN HB7.out q1
                  rw [← hw8] at P Q B
                  clear s0 s1 s2 s3 sl sm hw8
                  have s0 : w8.cell? ⟨w1.heap.size, 0, none⟩ = some (.float .f64 n) := P.cell (i := 0) rfl
                  have s1 : w8.cell? ⟨w1.heap.size, 1, none⟩ = some (.float .f64 h) := P.cell (i := 1) rfl
                  have s2 : w8.cell? ⟨w1.heap.size + 1, 0, none⟩ = some (.float .f64 m) := Q.cell (i := 0) rfl
                  have s3 : w8.cell? ⟨w1.heap.size + 1, 1, none⟩ = some (.float .f64 i) := Q.cell (i := 1) rfl
                  have sl := P.lt
                  have sm := Q.lt
                  have HB8 := Lib.hid B
                  have HP8 := Lib.hid P
                  have HQ8 := Lib.hid Q
                  clear P Q B
                  go_wp2_with fail
                  refine (HQ2.out _).mono ?_
                  rintro z w9 ⟨rfl, q2, hw9⟩
                  have P := HP8.out.drewN q2
                  have Q := HQ8.out.drewN q2
                  have B := below_drewN HB8.out q2
                  rw [← hw9] at P Q B
                  clear s0 s1 s2 s3 sl sm hw9
                  have s0 : w9.cell? ⟨w1.heap.size, 0, none⟩ = some (.float .f64 n) := P.cell (i := 0) rfl
                  have s1 : w9.cell? ⟨w1.heap.size, 1, none⟩ = some (.float .f64 h) := P.cell (i := 1) rfl
                  have s2 : w9.cell? ⟨w1.heap.size + 1, 0, none⟩ = some (.float .f64 m) := Q.cell (i := 0) rfl
                  have s3 : w9.cell? ⟨w1.heap.size + 1, 1, none⟩ = some (.float .f64 i) := Q.cell (i := 1) rfl
                  have sl := P.lt
                  have sm := Q.lt
                  have HB9 := Lib.hid B
                  clear P Q B
                  go_wp2_with fail
                  go_ret
                  exact ⟨by first | rfl | (rw [← HLt.out]; rfl), HB9.out⟩
                · go_wp2_with fail
                  refine (HQ1.out _).mono ?_
                  rintro z w8 ⟨rfl, q1, hw8⟩
                  have P := HP6.out.drewN q1
                  have Q := HQ6.out.drewN q1
                  have B := below_drewN HB7.out q1
                  rw [← hw8] at P Q B
                  clear s0 s1 s2 s3 sl sm hw8
                  have s0 : w8.cell? ⟨w1.heap.size, 0, none⟩ = some (.float .f64 n) := P.cell (i := 0) rfl
                  have s1 : w8.cell? ⟨w1.heap.size, 1, none⟩ = some (.float .f64 h) := P.cell (i := 1) rfl
                  have s2 : w8.cell? ⟨w1.heap.size + 1, 0, none⟩ = some (.float .f64 m) := Q.cell (i := 0) rfl
                  have s3 : w8.cell? ⟨w1.heap.size + 1, 1, none⟩ = some (.float .f64 i) := Q.cell (i := 1) rfl
                  have sl := P.lt
                  have sm := Q.lt
                  have HB8 := Lib.hid B
                  have HP8 := Lib.hid P
                  have HQ8 := Lib.hid Q
                  clear P Q B
                  go_wp2_with fail
                  refine (HQ2.out _).mono ?_
                  rintro z w9 ⟨rfl, q2, hw9⟩
                  have P := HP8.out.drewN q2
                  have Q := HQ8.out.drewN q2
                  have B := below_drewN HB8.out q2
                  rw [← hw9] at P Q B
                  clear s0 s1 s2 s3 sl sm hw9
                  have s0 : w9.cell? ⟨w1.heap.size, 0, none⟩ = some (.float .f64 n) := P.cell (i := 0) rfl
                  have s1 : w9.cell? ⟨w1.heap.size, 1, none⟩ = some (.float .f64 h) := P.cell (i := 1) rfl
                  have s2 : w9.cell? ⟨w1.heap.size + 1, 0, none⟩ = some (.float .f64 m) := Q.cell (i := 0) rfl
                  have s3 : w9.cell? ⟨w1.heap.size + 1, 1, none⟩ = some (.float .f64 i) := Q.cell (i := 1) rfl
                  have sl := P.lt
                  have sm := Q.lt
                  have HB9 := Lib.hid B
                  clear P Q B
                  go_wp2_with fail
                  go_ret
                  exact ⟨by first | rfl | (rw [← HLt.out]; rfl), HB9.out⟩
            · have e2 : ¬FloatKind.f64.format.order h 4611686018427387904 = some .eq := fun e => e24 (.inl e)
              have e4 : ¬FloatKind.f64.format.order h 4616189618054758400 = some .eq := fun e => e24 (.inr e)
              clear e24
              go_wp2_with fail
              go_ret
              exact ⟨rfl, HB7.out⟩
          · go_wp2_with fail
            go_ret
            exact ⟨rfl, HB7.out⟩
    · go_wp2_with fail
      refine (specStage_any _ _ _).mono ?_
      rw [H1.out]
      rintro z w4 ⟨rfl, C⟩
      have P := HP3.out.calm C
      have Q := HQ3.out.calm C
      have B := below_calm HB4.out HB4.out.size C
      clear s0 s1 s2 s3 sl sm
      have s0 : w4.cell? ⟨w1.heap.size, 0, none⟩ = some (.float .f64 n) := P.cell (i := 0) rfl
      have s1 : w4.cell? ⟨w1.heap.size, 1, none⟩ = some (.float .f64 h) := P.cell (i := 1) rfl
      have s2 : w4.cell? ⟨w1.heap.size + 1, 0, none⟩ = some (.float .f64 m) := Q.cell (i := 0) rfl
      have s3 : w4.cell? ⟨w1.heap.size + 1, 1, none⟩ = some (.float .f64 i) := Q.cell (i := 1) rfl
      have sl := P.lt
      have sm := Q.lt
      have HP5 := Lib.hid P
      have HQ5 := Lib.hid Q
      have HB6 := Lib.hid B
      clear P Q B C HP3 HQ3 HB4
      cases σ
      · go_wp2_with fail
        refine (alive_any _).mono ?_
        rintro e w5 ⟨rfl, rfl⟩
        go_wp2_with fail
        go_ret
        exact ⟨rfl, HB6.out⟩
      · go_wp2_with fail
        refine (specStage_any _ _ _).mono ?_
        rw [H2.out]
        rintro z w5 ⟨rfl, C⟩
        have P := HP5.out.calm C
        have Q := HQ5.out.calm C
        have B := below_calm HB6.out HB6.out.size C
        clear s0 s1 s2 s3 sl sm
        have s0 : w5.cell? ⟨w1.heap.size, 0, none⟩ = some (.float .f64 n) := P.cell (i := 0) rfl
        have s1 : w5.cell? ⟨w1.heap.size, 1, none⟩ = some (.float .f64 h) := P.cell (i := 1) rfl
        have s2 : w5.cell? ⟨w1.heap.size + 1, 0, none⟩ = some (.float .f64 m) := Q.cell (i := 0) rfl
        have s3 : w5.cell? ⟨w1.heap.size + 1, 1, none⟩ = some (.float .f64 i) := Q.cell (i := 1) rfl
        have sl := P.lt
        have sm := Q.lt
        have HP6 := Lib.hid P
        have HQ6 := Lib.hid Q
        have HB7 := Lib.hid B
        clear P Q B C HP5 HQ5 HB6
        cases τ
        · go_wp2_with fail
          refine (alive_any _).mono ?_
          rintro e w6 ⟨rfl, rfl⟩
          go_wp2_with fail
          go_ret
          exact ⟨rfl, HB7.out⟩
        · by_cases e1 : FloatKind.f64.format.order h i = some .eq
          · by_cases e24 : FloatKind.f64.format.order h 4611686018427387904 = some .eq ∨ FloatKind.f64.format.order h 4616189618054758400 = some .eq
            · obtain ⟨⟨j, hj, hn⟩, ⟨k, hk, hm⟩, hlt⟩ := HEx.out (by first | trivial | rfl) (by first | trivial | rfl) e1 e24
              have HJ := Lib.hid (And.intro hj hn)
              have HK := Lib.hid (And.intro hk hm)
              have hq1 : ∀ w : World, Calls Try.prog 38 #[.float .f64 n] w fun x w' => x = .returned (.bool true) ∧ ∃ n, w' = w.drewN n := by rw [hn]; exact quarterNoise_of hj
              have hq2 : ∀ w : World, Calls Try.prog 38 #[.float .f64 m] w fun x w' => x = .returned (.bool true) ∧ ∃ n, w' = w.drewN n := by rw [hm]; exact quarterNoise_of hk
              have HQ1 := Lib.hid hq1
              have HQ2 := Lib.hid hq2
              have HLt := Lib.hid hlt
              have hlt' := hlt.symm
              clear hj hn hk hm hq1 hq2 hlt HO HS HF HA HNo HEx
              rcases e24 with e2 | e4
              · go_wp2_with fail
                refine (HQ1.out _).mono ?_
                rintro z w8 ⟨rfl, q1, hw8⟩
                have P := HP6.out.drewN q1
                have Q := HQ6.out.drewN q1
                have B := below_drewN HB7.out q1
                rw [← hw8] at P Q B
                clear s0 s1 s2 s3 sl sm hw8
                have s0 : w8.cell? ⟨w1.heap.size, 0, none⟩ = some (.float .f64 n) := P.cell (i := 0) rfl
                have s1 : w8.cell? ⟨w1.heap.size, 1, none⟩ = some (.float .f64 h) := P.cell (i := 1) rfl
                have s2 : w8.cell? ⟨w1.heap.size + 1, 0, none⟩ = some (.float .f64 m) := Q.cell (i := 0) rfl
                have s3 : w8.cell? ⟨w1.heap.size + 1, 1, none⟩ = some (.float .f64 i) := Q.cell (i := 1) rfl
                have sl := P.lt
                have sm := Q.lt
                have HB8 := Lib.hid B
                have HP8 := Lib.hid P
                have HQ8 := Lib.hid Q
                clear P Q B
                go_wp2_with fail
                refine (HQ2.out _).mono ?_
                rintro z w9 ⟨rfl, q2, hw9⟩
                have P := HP8.out.drewN q2
                have Q := HQ8.out.drewN q2
                have B := below_drewN HB8.out q2
                rw [← hw9] at P Q B
                clear s0 s1 s2 s3 sl sm hw9
                have s0 : w9.cell? ⟨w1.heap.size, 0, none⟩ = some (.float .f64 n) := P.cell (i := 0) rfl
                have s1 : w9.cell? ⟨w1.heap.size, 1, none⟩ = some (.float .f64 h) := P.cell (i := 1) rfl
                have s2 : w9.cell? ⟨w1.heap.size + 1, 0, none⟩ = some (.float .f64 m) := Q.cell (i := 0) rfl
                have s3 : w9.cell? ⟨w1.heap.size + 1, 1, none⟩ = some (.float .f64 i) := Q.cell (i := 1) rfl
                have sl := P.lt
                have sm := Q.lt
                have HB9 := Lib.hid B
                clear P Q B
                go_wp2_with fail
                go_ret
                exact ⟨by first | rfl | (rw [← HLt.out]; rfl), HB9.out⟩
              · by_cases e2 : FloatKind.f64.format.order h 4611686018427387904 = some .eq
                · go_wp2_with fail
                  refine (HQ1.out _).mono ?_
                  rintro z w8 ⟨rfl, q1, hw8⟩
                  have P := HP6.out.drewN q1
                  have Q := HQ6.out.drewN q1
                  have B := below_drewN HB7.out q1
                  rw [← hw8] at P Q B
                  clear s0 s1 s2 s3 sl sm hw8
                  have s0 : w8.cell? ⟨w1.heap.size, 0, none⟩ = some (.float .f64 n) := P.cell (i := 0) rfl
                  have s1 : w8.cell? ⟨w1.heap.size, 1, none⟩ = some (.float .f64 h) := P.cell (i := 1) rfl
                  have s2 : w8.cell? ⟨w1.heap.size + 1, 0, none⟩ = some (.float .f64 m) := Q.cell (i := 0) rfl
                  have s3 : w8.cell? ⟨w1.heap.size + 1, 1, none⟩ = some (.float .f64 i) := Q.cell (i := 1) rfl
                  have sl := P.lt
                  have sm := Q.lt
                  have HB8 := Lib.hid B
                  have HP8 := Lib.hid P
                  have HQ8 := Lib.hid Q
                  clear P Q B
                  go_wp2_with fail
                  refine (HQ2.out _).mono ?_
                  rintro z w9 ⟨rfl, q2, hw9⟩
                  have P := HP8.out.drewN q2
                  have Q := HQ8.out.drewN q2
                  have B := below_drewN HB8.out q2
                  rw [← hw9] at P Q B
                  clear s0 s1 s2 s3 sl sm hw9
                  have s0 : w9.cell? ⟨w1.heap.size, 0, none⟩ = some (.float .f64 n) := P.cell (i := 0) rfl
                  have s1 : w9.cell? ⟨w1.heap.size, 1, none⟩ = some (.float .f64 h) := P.cell (i := 1) rfl
                  have s2 : w9.cell? ⟨w1.heap.size + 1, 0, none⟩ = some (.float .f64 m) := Q.cell (i := 0) rfl
                  have s3 : w9.cell? ⟨w1.heap.size + 1, 1, none⟩ = some (.float .f64 i) := Q.cell (i := 1) rfl
                  have sl := P.lt
                  have sm := Q.lt
                  have HB9 := Lib.hid B
                  clear P Q B
                  go_wp2_with fail
                  go_ret
                  exact ⟨by first | rfl | (rw [← HLt.out]; rfl), HB9.out⟩
                · go_wp2_with fail
                  refine (HQ1.out _).mono ?_
                  rintro z w8 ⟨rfl, q1, hw8⟩
                  have P := HP6.out.drewN q1
                  have Q := HQ6.out.drewN q1
                  have B := below_drewN HB7.out q1
                  rw [← hw8] at P Q B
                  clear s0 s1 s2 s3 sl sm hw8
                  have s0 : w8.cell? ⟨w1.heap.size, 0, none⟩ = some (.float .f64 n) := P.cell (i := 0) rfl
                  have s1 : w8.cell? ⟨w1.heap.size, 1, none⟩ = some (.float .f64 h) := P.cell (i := 1) rfl
                  have s2 : w8.cell? ⟨w1.heap.size + 1, 0, none⟩ = some (.float .f64 m) := Q.cell (i := 0) rfl
                  have s3 : w8.cell? ⟨w1.heap.size + 1, 1, none⟩ = some (.float .f64 i) := Q.cell (i := 1) rfl
                  have sl := P.lt
                  have sm := Q.lt
                  have HB8 := Lib.hid B
                  have HP8 := Lib.hid P
                  have HQ8 := Lib.hid Q
                  clear P Q B
                  go_wp2_with fail
                  refine (HQ2.out _).mono ?_
                  rintro z w9 ⟨rfl, q2, hw9⟩
                  have P := HP8.out.drewN q2
                  have Q := HQ8.out.drewN q2
                  have B := below_drewN HB8.out q2
                  rw [← hw9] at P Q B
                  clear s0 s1 s2 s3 sl sm hw9
                  have s0 : w9.cell? ⟨w1.heap.size, 0, none⟩ = some (.float .f64 n) := P.cell (i := 0) rfl
                  have s1 : w9.cell? ⟨w1.heap.size, 1, none⟩ = some (.float .f64 h) := P.cell (i := 1) rfl
                  have s2 : w9.cell? ⟨w1.heap.size + 1, 0, none⟩ = some (.float .f64 m) := Q.cell (i := 0) rfl
                  have s3 : w9.cell? ⟨w1.heap.size + 1, 1, none⟩ = some (.float .f64 i) := Q.cell (i := 1) rfl
                  have sl := P.lt
                  have sm := Q.lt
                  have HB9 := Lib.hid B
                  clear P Q B
                  go_wp2_with fail
                  go_ret
                  exact ⟨by first | rfl | (rw [← HLt.out]; rfl), HB9.out⟩
            · have e2 : ¬FloatKind.f64.format.order h 4611686018427387904 = some .eq := fun e => e24 (.inl e)
              have e4 : ¬FloatKind.f64.format.order h 4616189618054758400 = some .eq := fun e => e24 (.inr e)
              clear e24
              go_wp2_with fail
              go_ret
              exact ⟨rfl, HB7.out⟩
          · go_wp2_with fail
            go_ret
            exact ⟨rfl, HB7.out⟩

end Go.Proofs.Ytjacmojmjicmjaa
