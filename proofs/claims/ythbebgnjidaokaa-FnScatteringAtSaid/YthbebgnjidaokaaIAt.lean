/-
  ScatteringAt in the program.
-/
import Derived.Test.YthbebgnjidaokaaIAround
import Derived.Test.YthbebgnjidaokaaIBetw
import Derived.Deep.RegionWith
namespace Go.Proofs.Ythbebgnjidaokaa
open Go.RowKit Fl

set_option maxRecDepth 8000 in
set_option maxHeartbeats 4000000 in
theorem implAt_any {g n cap : Nat} {rs : List RowW} {f : Int} {w : World} (hR : Row5 w g rs) (hn : rs.length = n) (hl : n ≤ 9) (hc : n ≤ cap) :
    Calls Try.prog 20 #[.slice (some ⟨g, 0, none⟩) n cap, .int .i64 f] w fun z w' => z = .returned (scV (scatB rs f)) ∧ Calm w w' := by
  have HR := Lib.hid hR
  clear hR
  subst hn
  have HZ0 := Lib.hid (Blk.new w 0 0 0 0 0 0 0 0)
  have HC0 := Lib.hid (calm_new w (.cells #[.complex .f32 0 0, .complex .f32 0 0, .complex .f32 0 0, .complex .f32 0 0] 41))
  obtain ⟨β, hβ⟩ : ∃ β, tabB rs = β := ⟨_, rfl⟩
  have HT := Lib.hid (fun w' (C : Calm w w') => implTableOk_any (cap := cap) (w := w') (HR.out.calm C) rfl (by omega))
  rw [hβ] at HT
  have HB := Lib.hid hβ
  clear hβ
  cases β
  · have HX : Hid (scatB rs f = none) := Lib.hid (by unfold scatB; rw [HB.out]; rfl)
    go_enter Try.func20, Try.ntmps20
    go_wp2_with fail
    refine (HT.out _ HC0.out).mono ?_
    rintro z w2 ⟨rfl, C⟩
    have HZ := Lib.hid (HZ0.out.calm C)
    have HC := Lib.hid (calm_trans HC0.out C)
    clear C
    have z0 := HZ.out.c0
    have z1 := HZ.out.c1
    have z2 := HZ.out.c2
    have z3 := HZ.out.c3
    have f0 := HZ.out.fr 0
    have f1 := HZ.out.fr 1
    have f2 := HZ.out.fr 2
    have f3 := HZ.out.fr 3
    go_wp2_with fail
    refine bodyPost_ret (results_two_tmp rfl _ rfl ((((HZ.out.s0 _ _).s1 _ _).s2 _ _).s3 _ _)) rfl ?_
    exact ⟨by rw [HX.out]; rfl, calm_set4 HC.out (Nat.le_refl _) _ _ _ _⟩
  · have HX : Hid (scatB rs f = scatR f none rs) := Lib.hid (by unfold scatB; rw [HB.out]; rfl)
    have HAr := Lib.hid (fun w' (C : Calm w w') => rowsAround_any (f := f) (cap := cap) (w := w') (HR.out.calm C) rfl hc HB.out)
    go_enter Try.func20, Try.ntmps20
    go_wp2_with fail
    refine (HT.out _ HC0.out).mono ?_
    rintro z w2 ⟨rfl, C⟩
    have HZ := Lib.hid (HZ0.out.calm C)
    have HC := Lib.hid (calm_trans HC0.out C)
    clear C
    go_wp2_with fail
    refine (HAr.out _ HC.out).mono ?_
    rintro z w3 ⟨⟨v, rfl, hv⟩, C⟩
    have HZ3 := Lib.hid (HZ.out.calm C)
    have HC3 := Lib.hid (calm_trans HC.out C)
    clear C HZ HC HZ0 HC0 HT HAr
    have z0 := HZ3.out.c0
    have z1 := HZ3.out.c1
    have z2 := HZ3.out.c2
    have z3 := HZ3.out.c3
    have f0 := HZ3.out.fr 0
    have f1 := HZ3.out.fr 1
    have f2 := HZ3.out.fr 2
    have f3 := HZ3.out.fr 3
    have zl := HZ3.out.lt
    cases hv with
    | no hs =>
      have HS := Lib.hid hs
      clear hs
      go_wp2_with fail
      refine bodyPost_ret (results_two_tmp rfl _ rfl ((((HZ3.out.s0 _ _).s1 _ _).s2 _ _).s3 _ _)) rfl ?_
      exact ⟨by rw [HX.out, HS.out]; rfl, calm_set4 HC3.out (Nat.le_refl _) _ _ _ _⟩
    | one k hk hs =>
      obtain ⟨a0, a1, a2, a3, a4⟩ := HR.out.calm HC3.out k hk
      generalize rs[k] = r at *
      have HS := Lib.hid hs
      clear hs
      have hgl := World.block_lt_of_cell? w3 _ a0
      dsimp only at a0 a1 a2 a3 a4 hgl
      go_wp2_with fail
      refine bodyPost_ret (results_two_tmp rfl _ rfl ((((HZ3.out.s0 _ _).s1 _ _).s2 _ _).s3 _ _)) rfl ?_
      exact ⟨by rw [HX.out, HS.out]; rfl, calm_set4 HC3.out (Nat.le_refl _) _ _ _ _⟩
    | two k hk h1 h2 hs =>
      obtain ⟨a0, a1, a2, a3, a4⟩ := HR.out.calm HC3.out k (by omega)
      obtain ⟨b0, b1, b2, b3, b4⟩ := HR.out.calm HC3.out (k + 1) hk
      have HF1 := Lib.hid (tabB_freq HB.out rs[k] (List.getElem_mem _))
      have HF2 := Lib.hid (tabB_freq HB.out rs[k + 1] (List.getElem_mem _))
      have HN1 := Lib.hid (tabB_finS HB.out rs[k] (List.getElem_mem _))
      have HN2 := Lib.hid (tabB_finS HB.out rs[k + 1] (List.getElem_mem _))
      generalize rs[k] = q at *
      generalize rs[k + 1] = r at *
      have HS := Lib.hid hs
      have HBt := Lib.hid (fun w' => implBetween_any (w := w') HN1.out HN2.out HF1.out.1 h1 h2 HF2.out.2)
      obtain ⟨x1, y1, x2, y2, x3, y3, x4, y4, β, hsc⟩ := scV_two (betRow q.m r.m (partB (f - q.f) (r.f - q.f)))
      rw [hsc] at HBt
      have HV := Lib.hid (show scV (scatB rs f) = .tuple #[twoV x1 y1 x2 y2 x3 y3 x4 y4, .bool β] by rw [HX.out, HS.out, hsc])
      clear hs hsc
      have hgl := World.block_lt_of_cell? w3 _ a0
      dsimp only at a0 a1 a2 a3 a4 b0 b1 b2 b3 b4 hgl
      have e5 : (k + 1) * 5 = k * 5 + 5 := by omega
      rw [e5] at b0 b1 b2 b3 b4
      go_wp2_with fail
      go_region_with (first
        | (go_at_call 39; refine Calls.mono (HBt.out _) ?_; rintro e w5 ⟨rfl, C'⟩; have HZ5 := Lib.hid (HZ3.out.calm (calm_trans (grown_drew (grown_refl w3 none)) C')); have HC5 := Lib.hid (calm_trans HC3.out (calm_trans (grown_drew (grown_refl w3 none)) C')); have c0 := HZ5.out.c0; have c1 := HZ5.out.c1; have c2 := HZ5.out.c2; have c3 := HZ5.out.c3; have p0 := HZ5.out.fr 0; have p1 := HZ5.out.fr 1; have p2 := HZ5.out.fr 2; have p3 := HZ5.out.fr 3; clear C'))
      all_goals
        go_wp2_with fail
        refine bodyPost_ret (results_two_tmp rfl _ rfl ((((HZ5.out.s0 _ _).s1 _ _).s2 _ _).s3 _ _)) rfl ?_
        exact ⟨by rw [HV.out]; rfl, calm_set4 HC5.out (Nat.le_refl _) _ _ _ _⟩

end Go.Proofs.Ythbebgnjidaokaa
