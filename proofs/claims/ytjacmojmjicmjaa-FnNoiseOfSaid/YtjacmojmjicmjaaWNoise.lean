/-
  The walk of FnNoiseOf: it answers true.
-/
import Derived.Test.YtjacmojmjicmjaaNzL
namespace Go.Proofs.Ytjacmojmjicmjaa
open Go.RowKit Fl

theorem own_cap {w : World} {base g n cap : Nat} {e : TypeId} {size : Nat} {xs : List Value} (h : w.ownsRow base e size (.slice (some ⟨g, 0, none⟩) n cap) n xs) : n ≤ cap := by
  rcases h.2 with ⟨h, _⟩ | ⟨g', cap', cur, hv, _, hb, hn, _⟩
  · cases h
  · injection hv with _ _ hv3
    omega

section
variable {S cap n : Nat} {ws : List (Nat × Nat)} {w : World} {s : Nat}
theorem implNoise_some (hR : Row2 w S ws) (hn : ws.length = n) (h1 : 1 ≤ n) (h6 : n ≤ 6) (hc : n ≤ cap) (hok : ∀ p ∈ ws, Okay p) (hs : noiseR 0 0 4607182418800017408 ws = some s) :
    Calls Try.prog 33 #[.slice (some ⟨S, 0, none⟩) n cap] w fun z w' => z = .returned (.tuple #[.float .f64 s, .bool true]) ∧ Calm w w' := by
  subst hn
  have := implNoise_of (cap := cap) hR h1 h6 hc hok
  rw [hs] at this
  exact this
theorem implNoise_none (hR : Row2 w S ws) (h1 : 1 ≤ ws.length) (h6 : ws.length ≤ 6) (hc : ws.length ≤ cap) (hok : ∀ p ∈ ws, Okay p) (hs : noiseR 0 0 4607182418800017408 ws = none) :
    Calls Try.prog 33 #[.slice (some ⟨S, 0, none⟩) ws.length cap] w fun z w' => z = .returned (.tuple #[.float .f64 0, .bool false]) ∧ Calm w w' := by
  have := implNoise_of (cap := cap) hR h1 h6 hc hok
  rw [hs] at this
  exact this
theorem specNoise_some (hR : Row2 w S ws) (h1 : 1 ≤ ws.length) (h6 : ws.length ≤ 6) (hok : ∀ p ∈ ws, Okay p) (hs : noiseR 0 0 4607182418800017408 ws = some s) :
    Calls Try.prog 34 #[.slice (some ⟨S, 0, none⟩) ws.length cap] w fun z w' => z = .returned (.tuple #[.float .f64 s, .bool true]) ∧ Calm w w' := by
  have := specNoise_of (cap := cap) hR h1 h6 hok
  rw [hs] at this
  exact this
theorem specNoise_none (hR : Row2 w S ws) (h1 : 1 ≤ ws.length) (h6 : ws.length ≤ 6) (hok : ∀ p ∈ ws, Okay p) (hs : noiseR 0 0 4607182418800017408 ws = none) :
    Calls Try.prog 34 #[.slice (some ⟨S, 0, none⟩) ws.length cap] w fun z w' => z = .returned (.tuple #[.float .f64 0, .bool false]) ∧ Calm w w' := by
  have := specNoise_of (cap := cap) hR h1 h6 hok
  rw [hs] at this
  exact this
end

/-- What NoiseOf gives for a drawn list, both ways. -/
theorem noise_both {w : World} {S cap : Nat} {ws : List (Nat × Nat)} (hR : Row2 w S ws) (hc : ws.length ≤ cap) (hd : NzDrawn ws) :
    (∀ w', Calm w w' → Calls Try.prog 33 #[.slice (some ⟨S, 0, none⟩) ws.length cap] w' fun z w2 => z = .returned (.tuple #[.float .f64 0, .bool false]) ∧ Calm w' w2) ∧
    (∀ w', Calm w w' → Calls Try.prog 34 #[.slice (some ⟨S, 0, none⟩) ws.length cap] w' fun z w2 => z = .returned (.tuple #[.float .f64 0, .bool false]) ∧ Calm w' w2) ∨
    (1 ≤ ws.length ∧ ws.length ≤ 6 ∧ (∀ p ∈ ws, StgOk p.1 p.2) ∧ ∃ s, noiseR 0 0 4607182418800017408 ws = some s) := by
  by_cases hn : ws.length < 1 ∨ 6 < ws.length
  · exact .inl ⟨fun w' _ => implNoise_no hn w', fun w' _ => specNoise_no hn w'⟩
  · obtain ⟨h7, hd | hd⟩ := hd
    · obtain ⟨h6, hok⟩ := hd
      have ho : ∀ p ∈ ws, Okay p := fun p hp => stg_okay (hok p hp)
      cases hs : noiseR 0 0 4607182418800017408 ws with
      | none => exact .inl ⟨fun w' C => implNoise_none (hR.calm C) (by omega) h6 hc ho hs, fun w' C => specNoise_none (hR.calm C) (by omega) h6 ho hs⟩
      | some s => exact .inr ⟨by omega, h6, hok, s, rfl⟩
    · exfalso
      rw [hd] at hn
      simp at hn

theorem row2_take {w : World} {g : Nat} {ws : List (Nat × Nat)} (H : Row2 w g ws) (n : Nat) : Row2 w g (ws.take n) := by
  intro i hi
  rw [List.getElem_take]
  exact H i (by rw [List.length_take] at hi; omega)
theorem own_still {base : Nat} (w : World) (hb : base ≤ w.heap.size) : (w.alloc (.cells #[.float .f64 4607182418800017408, .float .f64 4607182418800017408] 43)).ownsRow base 43 2 (.slice (some ⟨w.heap.size, 0, none⟩) 1 1) 1 (cells2 [(4607182418800017408, 4607182418800017408)]) :=
  ⟨rfl, .inr ⟨w.heap.size, 1, _, rfl, hb, heap_alloc_new w _, Nat.le_refl _, by unfold maxLen; decide, rfl, rfl⟩⟩
theorem cells2_one (ws : List (Nat × Nat)) : ∀ u ∈ cells2 ws, u.oneCell' = true := by
  intro u hu
  unfold cells2 at hu
  simp only [List.mem_flatMap, List.mem_cons, List.not_mem_nil, or_false] at hu
  obtain ⟨p, _, rfl | rfl⟩ := hu <;> rfl
theorem okay_still {ws : List (Nat × Nat)} (h : ∀ p ∈ ws, Okay p) : ∀ p ∈ ((4607182418800017408, 4607182418800017408) :: ws), Okay p := by
  intro p hp
  rcases List.mem_cons.1 hp with rfl | hp
  · obtain ⟨o1, o2⟩ := oneN
    exact .inl ⟨one_mod, o1, o1, by rw [o2]; grind, by rw [o2]; grind, by rw [o2]; grind, by rw [o2]; grind⟩
  · exact h p hp
theorem HB6pre {w w1 : World} (W : World) (B : Below w.heap.size w w1) (C : Calm w1 W) : Below w.heap.size w (W.alloc (.cells #[.float .f64 4607182418800017408, .float .f64 4607182418800017408] 43)) :=
  (below_calm B B.size C).alloc (below_calm B B.size C).size _

set_option maxRecDepth 8000 in
set_option maxHeartbeats 1000000 in
theorem FnNoiseOf_walk (a : Option Addr) (len cap : Nat) (zs : List Int) (w : World) (h : IsRow .u8 w a len cap zs) :
    Calls Try.prog 7 #[.slice a len cap] w fun e w' => e = .returned (.bool true) ∧ Below w.heap.size w w' := by
  by_cases hl : (1048576 : Int) < (len : Int)
  · go_enter Try.func7, Try.ntmps7
    go_wp2_with fail
    go_ret
    exact ⟨rfl, Below.refl _ _⟩
  · go_enter Try.func7, Try.ntmps7
    go_wp2_with fail
    refine (drawNoise_any h).mono ?_
    rintro e w1 ⟨g, c, ws, rfl, hd, O, B1⟩
    clear h
    have hR := row2_of O
    have HB := Lib.hid B1
    have hlb : ws.length ≤ 7 := hd.1
    obtain ⟨i0, hi, hz0, hz1, hz2⟩ := info_parts Try.infoStage
    rcases noise_both (cap := c) hR (own_cap O) hd with ⟨n1, n2⟩ | ⟨h1, h6, hok, s, hs⟩
    · have N1 := Lib.hid n1
      have N2 := Lib.hid n2
      clear n1 n2 hR O B1 hd
      go_wp2_with fail
      refine (N1.out _ (grown_refl _ _)).mono ?_
      rintro z w2 ⟨rfl, C2⟩
      go_wp2_with fail
      refine (N2.out _ C2).mono ?_
      rintro z w3 ⟨rfl, C3⟩
      have HC := Lib.hid (calm_trans C2 C3)
      clear C2 C3 N1 N2
      go_wp2_with fail
      refine (samePart_eq _ _ _ (by decide)).mono ?_
      rintro z w4 ⟨rfl, m, hw4⟩
      have B4 := below_drewN (below_calm HB.out HB.out.size HC.out) m
      rw [← hw4] at B4
      have HB4 := Lib.hid B4
      clear hw4 B4 HC HB
      go_wp2_with fail
      refine (alive_any _).mono ?_
      rintro e w5 ⟨rfl, rfl⟩
      go_wp2_with fail
      go_ret
      exact ⟨rfl, HB4.out⟩
    · have W := noiseW_of h1 h6 hok hs
      have ho : ∀ p ∈ ws, Okay p := fun p hp => stg_okay (hok p hp)
      have HO := Lib.hid ho
      have HW := Lib.hid W
      have HS := Lib.hid hs
      have HR := Lib.hid hR
      have HOw := Lib.hid O
      clear hR O B1 hd W ho hs hok
      go_wp2_with fail
      refine (implNoise_some HR.out rfl h1 h6 (own_cap HOw.out) HO.out HS.out).mono ?_
      rintro z w2 ⟨rfl, C2⟩
      have HC2 := Lib.hid C2
      clear C2
      go_wp2_with fail
      refine (specNoise_some (HR.out.calm HC2.out) h1 h6 HO.out HS.out).mono ?_
      rintro z w3 ⟨rfl, C3⟩
      have HC3 := Lib.hid (calm_trans HC2.out C3)
      clear C3 HC2
      go_wp2_with fail
      refine (samePart_eq _ _ _ (order_self _ (fin_not_nan HW.out.fs))).mono ?_
      rintro z w4 ⟨rfl, m, hw4⟩
      have C4 : Calm w1 w4 := by rw [hw4]; exact grown_drewN HC3.out m
      have HC4 := Lib.hid C4
      clear hw4 C4 HC3
      go_wp2_with fail
      go_loopw [8, 9] (fun pv kv wr => ∃ (n : Nat) (β : Bool), n ≤ ws.length ∧ kv = .int .i64 n ∧ pv = .bool β ∧ (β = true → ws.length ≤ 5) ∧ Calm w1 wr)
        (fun _ kv _ => ws.length - (intOf kv).toNat)
      case atStart => exact ⟨0, decide ((ws.length : Int) ≤ 5), by omega, rfl, rfl, fun e => by have := of_decide_eq_true e; omega, HC4.out⟩
      case round =>
        obtain ⟨n, β, hn, rfl, rfl, hβ, C⟩ := hrel
        have HP := Lib.hid hβ
        have HC := Lib.hid C
        clear hβ C
        by_cases hlt : n < ws.length
        · have hc := (HR.out.calm HC.out n hlt).2
          rw [Nat.mul_comm] at hc
          have hgl := World.block_lt_of_cell? wr _ hc
          generalize ws[n].2 = y at hc
          cases β
          · go_wp2_with fail
            exact ⟨⟨n + 1, false, by omega, by go_num, rfl, (fun e => by simp at e), HC.out⟩, by simp [intOf]; omega⟩
          · go_wp2_with fail
            all_goals exact ⟨⟨n + 1, _, by omega, by go_num, rfl, (fun _ => HP.out rfl), HC.out⟩, by simp [intOf]; omega⟩
        · have hn' : n = ws.length := by omega
          subst hn'
          have h0 : 0 < ws.length := by omega
          have hc : wr.cell? ⟨g, 0, none⟩ = some (.float .f64 ws[0].1) := (HR.out.calm HC.out 0 h0).1
          have hgl := World.block_lt_of_cell? wr _ hc
          have hlo := HW.out.lo h0
          generalize ws[0].1 = x0 at hc hlo
          have hcap := own_cap HOw.out
          have hc0 : ¬(c = 0) := by omega
          rcases Nat.lt_or_ge 1 ws.length with h2 | h2
          · obtain ⟨k, hk⟩ : ∃ k, ws.length = k + 2 := ⟨ws.length - 2, by omega⟩
            obtain ⟨r, r1, r2⟩ := HW.out.less k hk
            have Hr := Lib.hid r1
            clear r1
            have h2' : (1 : Int) < (ws.length : Int) := by omega
            have h3' : (1 : Int) ≤ (ws.length : Int) ∧ (ws.length : Int) - 1 ≤ (c : Int) := by omega
            go_wp2_with fail
            refine (implNoise_some (ws := ws.take (k + 1)) (n := k + 1) (row2_take (HR.out.calm HC.out) (k + 1)) (by simp; omega) (by omega) (by omega) (by omega) (fun p hp => HO.out p (List.mem_of_mem_take hp)) Hr.out).mono ?_
            rintro z w5 ⟨rfl, C5⟩
            have HC5 := Lib.hid (calm_trans HC.out C5)
            clear C5 hc hgl
            cases β
            · go_wp2_with fail
              go_ret
              exact ⟨rfl, below_calm HB.out HB.out.size HC5.out⟩
            · skip
              have hx := ((HOw.out.kept HC5.out (.inr (by simp [Value.ownBlock]))).alloc (.cells #[.float .f64 4607182418800017408, .float .f64 4607182418800017408] 43))
              have hxc := hx.cells rfl
              have A0 := own_still (base := w5.heap.size) w5 (Nat.le_refl _)
              have hl5 := HP.out rfl
              have heq : FloatKind.f64.format.order s s = some .eq := order_self _ (fin_not_nan HW.out.fs)
              have HX := Lib.hid hxc
              have hcl : (cells2 ws).length = (k + 2) * 2 := by rw [cells2_length]; omega
              clear hx hxc
              go_wp2_with (first | (at_builtin; refine wpList_append_own _ rfl _ _ 46 rfl w5.heap.size 43 i0 (.agg #[.float .f64 0, .float .f64 0]) 2 16 Try.underlying46 hi hz0 hz1 hz2 rfl (by decide) _ _ _ rfl A0 ⟨g, 0, none⟩ (k + 2) c (cells2 ws) rfl hcl HX.out (cells2_one ws) (by unfold maxLen; omega) (by omega) (by simp) ?_) | fail)
              intro v6 w6 O6 G6 hnil
              have hnn : v6 ≠ .slice none 0 0 := by intro e; first | exact hnil e | (have := (hnil.1 e).1; cases this)
              obtain ⟨n6, hn6⟩ : ∃ n6, 1 + (k + 2) = n6 := ⟨_, rfl⟩
              rw [hn6] at O6
              obtain ⟨g6, c6, rfl, hg6⟩ := own_form O6 hnn
              have B6 : Below w.heap.size w w6 := (HB6pre w5 HB.out HC5.out).grown G6 (HB6pre w5 HB.out HC5.out).size (fun k e => by injection e with e; subst e; exact (below_calm HB.out HB.out.size HC5.out).size)
              have R6 : Row2 w6 g6 ((4607182418800017408, 4607182418800017408) :: ws) := row2_of O6
              have HB6 := Lib.hid B6
              have HR6 := Lib.hid R6
              have HN6 := Lib.hid hn6
              have HC6 := Lib.hid (own_cap O6)
              clear O6 G6 hnil hnn B6 R6 A0 hn6 hcl
              go_wp2_with fail
              refine (implNoise_some (n := n6) HR6.out (by have := HN6.out; simp; omega) (by have := HN6.out; omega) (by have := HN6.out; omega) HC6.out (okay_still HO.out) HW.out.still).mono ?_
              rintro z w7 ⟨rfl, C7⟩
              have HB7 := Lib.hid (below_calm HB6.out HB6.out.size C7)
              clear C7
              go_wp2_with fail
              go_ret
              exact ⟨rfl, HB7.out⟩
          · have h2' : ¬(1 : Int) < (ws.length : Int) := by omega
            cases β
            · go_wp2_with fail
              go_ret
              exact ⟨rfl, below_calm HB.out HB.out.size HC.out⟩
            · skip
              have hx := ((HOw.out.kept HC.out (.inr (by simp [Value.ownBlock]))).alloc (.cells #[.float .f64 4607182418800017408, .float .f64 4607182418800017408] 43))
              have hxc := hx.cells rfl
              have A0 := own_still (base := wr.heap.size) wr (Nat.le_refl _)
              have hl5 := HP.out rfl
              have heq : FloatKind.f64.format.order s s = some .eq := order_self _ (fin_not_nan HW.out.fs)
              have HX := Lib.hid hxc
              have hcl : (cells2 ws).length = (ws.length) * 2 := cells2_length ws
              clear hx hxc
              go_wp2_with (first | (at_builtin; refine wpList_append_own _ rfl _ _ 46 rfl wr.heap.size 43 i0 (.agg #[.float .f64 0, .float .f64 0]) 2 16 Try.underlying46 hi hz0 hz1 hz2 rfl (by decide) _ _ _ rfl A0 ⟨g, 0, none⟩ (ws.length) c (cells2 ws) rfl hcl HX.out (cells2_one ws) (by unfold maxLen; omega) (by omega) (by simp) ?_) | fail)
              intro v6 w6 O6 G6 hnil
              have hnn : v6 ≠ .slice none 0 0 := by intro e; first | exact hnil e | (have := (hnil.1 e).1; cases this)
              obtain ⟨n6, hn6⟩ : ∃ n6, 1 + (ws.length) = n6 := ⟨_, rfl⟩
              rw [hn6] at O6
              obtain ⟨g6, c6, rfl, hg6⟩ := own_form O6 hnn
              have B6 : Below w.heap.size w w6 := (HB6pre wr HB.out HC.out).grown G6 (HB6pre wr HB.out HC.out).size (fun k e => by injection e with e; subst e; exact (below_calm HB.out HB.out.size HC.out).size)
              have R6 : Row2 w6 g6 ((4607182418800017408, 4607182418800017408) :: ws) := row2_of O6
              have HB6 := Lib.hid B6
              have HR6 := Lib.hid R6
              have HN6 := Lib.hid hn6
              have HC6 := Lib.hid (own_cap O6)
              clear O6 G6 hnil hnn B6 R6 A0 hn6 hcl
              go_wp2_with fail
              refine (implNoise_some (n := n6) HR6.out (by have := HN6.out; simp; omega) (by have := HN6.out; omega) (by have := HN6.out; omega) HC6.out (okay_still HO.out) HW.out.still).mono ?_
              rintro z w7 ⟨rfl, C7⟩
              have HB7 := Lib.hid (below_calm HB6.out HB6.out.size C7)
              clear C7
              go_wp2_with fail
              go_ret
              exact ⟨rfl, HB7.out⟩

end Go.Proofs.Ytjacmojmjicmjaa
