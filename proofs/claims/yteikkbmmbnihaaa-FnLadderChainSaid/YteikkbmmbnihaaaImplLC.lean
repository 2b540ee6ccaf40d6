/-
  LadderChain in the program.
-/
import Derived.Test.YteikkbmmbnihaaaImplSeen
namespace Go.Proofs.Yteikkbmmbnihaaa
open Go.RowKit Fl

set_option maxRecDepth 8000 in
set_option maxHeartbeats 4000000 in
theorem implChainPart_f {β : Bool} {t : Nat} {m : Words} (hm : partW β t = m) (ht : (fin .f32 0 && fin .f32 t) = true) (w : World) :
    Calls Try.prog 58 #[.complex .f32 0 t, .bool (!β)] w fun z w' => z = .returned (.tuple #[twoV m.a m.b m.c m.d m.e m.f m.g m.h, .bool true]) ∧ Calm w w' := by
  have HT := Lib.hid ht
  have H0 := Lib.hid (calm_new w (.cells #[.complex .f32 0 0, .complex .f32 0 0, .complex .f32 0 0, .complex .f32 0 0] 39))
  have HB := Lib.hid (Blk.new w 0 0 0 0 0 0 0 0)
  clear ht
  subst hm
  cases β
  · go_enter Try.func58, Try.ntmps58
    go_wp2_with fail
    refine (implSeries_any _ _ _).mono ?_
    rw [HT.out, ifV_true]
    rintro z v ⟨rfl, C⟩
    have B := HB.out.calm C
    have r0 := B.c0
    have r1 := B.c1
    have r2 := B.c2
    have r3 := B.c3
    have k0 := B.fr 0
    have k1 := B.fr 1
    have k2 := B.fr 2
    have k3 := B.fr 3
    have kl := B.lt
    have HB2 := Lib.hid B
    have HK := Lib.hid (calm_trans H0.out C)
    clear B C HB H0
    go_wp2_with fail
    refine bodyPost_ret (results_two_tmp rfl _ rfl (HB2.out.set4' _ _ _ _ _ _ _ _)) rfl ?_
    exact ⟨rfl, calm_set4 HK.out (Nat.le_refl _) _ _ _ _⟩
  · go_enter Try.func58, Try.ntmps58
    go_wp2_with fail
    refine (implShunt_any _ _ _).mono ?_
    rw [HT.out, ifV_true]
    rintro z v ⟨rfl, C⟩
    have B := HB.out.calm C
    have r0 := B.c0
    have r1 := B.c1
    have r2 := B.c2
    have r3 := B.c3
    have k0 := B.fr 0
    have k1 := B.fr 1
    have k2 := B.fr 2
    have k3 := B.fr 3
    have kl := B.lt
    have HB2 := Lib.hid B
    have HK := Lib.hid (calm_trans H0.out C)
    clear B C HB H0
    go_wp2_with fail
    refine bodyPost_ret (results_two_tmp rfl _ rfl (HB2.out.set4' _ _ _ _ _ _ _ _)) rfl ?_
    exact ⟨rfl, calm_set4 HK.out (Nat.le_refl _) _ _ _ _⟩

set_option maxRecDepth 8000 in
set_option maxHeartbeats 4000000 in
theorem chained_nil (w : World) :
    Calls Try.prog 83 #[.slice none 0 0] w fun z w' => z = .returned (.tuple #[wireW.v, .bool true]) ∧ Calm w w' := by
  have HH := Lib.hid (hold_start (w := w) (g := 0) (ws := []) (fun i hi => by simp at hi))
  go_enter Try.func83, Try.ntmps83
  go_wp2_with fail
  go_loopw [12] (fun k wr => k = .int .i64 0 ∧ Hold w wr w.heap.size (w.heap.size + 1) 0 wireW [])
    (fun k _ => 0)
  case atStart => exact ⟨rfl, HH.out⟩
  case round =>
    obtain ⟨rfl, H⟩ := hrel
    have o0 := H.o.c0
    have o1 := H.o.c1
    have o2 := H.o.c2
    have o3 := H.o.c3
    have ol := H.o.lt
    have r0 := H.z.c0
    have r1 := H.z.c1
    have r2 := H.z.c2
    have r3 := H.z.c3
    have k0 := H.z.fr 0
    have k1 := H.z.fr 1
    have k2 := H.z.fr 2
    have k3 := H.z.fr 3
    have kl := H.z.lt
    have HH1 := Lib.hid H
    clear H
    go_wp2_with fail
    refine bodyPost_ret (results_two_tmp rfl _ rfl (HH1.out.z.set4' _ _ _ _ _ _ _ _)) rfl ?_
    exact ⟨rfl, calm_set4 HH1.out.c (by omega) _ _ _ _⟩

set_option maxRecDepth 8000 in
set_option maxHeartbeats 4000000 in
theorem implAll_nil (w : World) :
    Calls Try.prog 59 #[.slice none 0 0] w fun z w' => z = .returned (.tuple #[wireW.v, .bool true]) ∧ Calm w w' := by
  have HC : Hid (Calls Try.prog 83 #[.slice none 0 0] (w.alloc (.cells #[.complex .f32 0 0, .complex .f32 0 0, .complex .f32 0 0, .complex .f32 0 0] 39)) fun z w' => z = .returned (.tuple #[twoV wireW.a wireW.b wireW.c wireW.d wireW.e wireW.f wireW.g wireW.h, .bool true]) ∧ Calm (w.alloc (.cells #[.complex .f32 0 0, .complex .f32 0 0, .complex .f32 0 0, .complex .f32 0 0] 39)) w') :=
    Lib.hid (chained_nil _)
  have H0 := Lib.hid (calm_new w (.cells #[.complex .f32 0 0, .complex .f32 0 0, .complex .f32 0 0, .complex .f32 0 0] 39))
  have HB := Lib.hid (Blk.new w 0 0 0 0 0 0 0 0)
  go_enter Try.func59, Try.ntmps59
  go_wp2_with fail
  refine HC.out.mono ?_
  rintro z v ⟨rfl, C⟩
  have B := HB.out.calm C
  have r0 := B.c0
  have r1 := B.c1
  have r2 := B.c2
  have r3 := B.c3
  have k0 := B.fr 0
  have k1 := B.fr 1
  have k2 := B.fr 2
  have k3 := B.fr 3
  have kl := B.lt
  have HB2 := Lib.hid B
  have HK := Lib.hid (calm_trans H0.out C)
  clear B C HB H0 HC
  go_wp2_with fail
  refine bodyPost_ret (results_two_tmp rfl _ rfl (HB2.out.set4' _ _ _ _ _ _ _ _)) rfl ?_
  exact ⟨rfl, calm_set4 HK.out (Nat.le_refl _) _ _ _ _⟩

/-- What the loop over a ladder's digits holds in the program: the list, which is none at first, and the result's place. -/
structure OwnN (w0 w : World) (v : Value) (ws : List Words) : Prop where
  own : w.ownsRow (w0.heap.size + 1) 39 4 v ws.length (cellsL ws)
  z : Blk w w0.heap.size 0 0 0 0 0 0 0 0
  c : Calm w0 w
theorem OwnN.calm {w0 w w' : World} {v : Value} {ws : List Words} (H : OwnN w0 w v ws) (C : Calm w w') : OwnN w0 w' v ws :=
  ⟨H.own.kept C (by cases v.ownBlock <;> simp), H.z.calm C, calm_trans H.c C⟩
theorem OwnN.alloc {w0 w : World} {v : Value} {ws : List Words} (H : OwnN w0 w v ws) (o : Obj) : OwnN w0 (w.alloc o) v ws := H.calm (World.grownBy_alloc w o none)
theorem OwnN.lt {w0 w : World} {v : Value} {ws : List Words} (H : OwnN w0 w v ws) : w0.heap.size < w.heap.size := H.z.lt
theorem OwnN.app {w0 w w' : World} {v v' : Value} {ws : List Words} {m : Words} (H : OwnN w0 w v ws) (O : w'.ownsRow (w0.heap.size + 1) 39 4 v' (ws.length + 1) (cellsL ws ++ m.cells)) (G : w.grownBy w' v.ownBlock) : OwnN w0 w' v' (ws ++ [m]) := by
  refine ⟨by rw [cellsL_add, List.length_append]; exact O, ?_, ?_⟩
  · show Blk w' _ _ _ _ _ _ _ _ _
    unfold Blk
    rw [G.block w0.heap.size H.lt (fun h => by have := (H.own.lt _ h.symm).1; omega)]
    exact H.z
  · refine ⟨G.os.trans H.c.os, G.tape.trans H.c.tape, G.output.trans H.c.output, Nat.le_trans H.c.size G.size, ?_⟩
    intro k hk hne
    have := H.c.size
    rw [G.block k (by omega) (fun h => by have := (H.own.lt _ h.symm).1; omega)]
    exact H.c.block k hk hne

/-- ChainAll of the list that a ladder's loop leaves. -/
theorem implAll_own {w0 w : World} {v : Value} {ws : List Words} {o : Words} (H : OwnN w0 w v ws) (hn : ws.length ≤ 3) (F : ChainF wireW ws o) :
    Calls Try.prog 59 #[v] w fun z w' => z = .returned (.tuple #[twoV o.a o.b o.c o.d o.e o.f o.g o.h, .bool true]) ∧ Calm w w' := by
  by_cases hv : v = .slice none 0 0
  · have h0 : ws.length = 0 := by
      rcases H.own.2 with ⟨_, h⟩ | ⟨g, cap, cur, h, _⟩
      · exact h
      · rw [hv] at h; cases h
    have hw : ws = [] := List.length_eq_zero_iff.1 h0
    subst hw hv
    have ho : wireW = o := by cases F; rfl
    subst ho
    exact implAll_nil w
  · obtain ⟨g, cap, rfl, R⟩ := own_row (ws := ws) H.own hv
    exact implAll_f R hn F

set_option maxRecDepth 8000 in
set_option maxHeartbeats 4000000 in
theorem implLad_f {s : ByteArray} {c : Nat} {ns : List Nat} {o : Words} (L : LadS s c ns) (hl : ladB s = true) (F : ChainF wireW (gath c ns 0) o) (w : World) :
    Calls Try.prog 26 #[.string s] w fun z w' => z = .returned (.tuple #[o.v, .bool true]) ∧ Calm w w' := by
  have hsz := L.size
  have hln := L.len
  have HL := Lib.hid hl
  have HS := Lib.hid L
  have HF := Lib.hid F
  clear F hl
  go_enter Try.func26, Try.ntmps26
  go_wp2_with fail
  refine (implLadder_any s (by omega) _).mono ?_
  rw [HL.out]
  rintro z w1 ⟨rfl, hw1⟩
  subst hw1
  obtain ⟨i0, hi, hz0, hz1, hz2⟩ := info_parts Try.infoTwo
  go_wp2_with fail
  have H0 : Hid (OwnN w (w.alloc (.cells #[.complex .f32 0 0, .complex .f32 0 0, .complex .f32 0 0, .complex .f32 0 0] 39)) (.slice none 0 0) (gath c ns ns.length)) := Lib.hid (by
    rw [gath_end]
    exact ⟨World.ownsRow_nil _ _ _ _, Blk.new w 0 0 0 0 0 0 0 0, calm_new w _⟩)
  go_loopw [4, 5] (fun v k wr => ∃ n : Nat, n ≤ ns.length ∧ k = .int .i64 n ∧ OwnN w wr v (gath c ns n))
    (fun _ k _ => (intOf k).toNat)
  case atStart => exact ⟨ns.length, Nat.le_refl _, rfl, H0.out⟩
  case round =>
    obtain ⟨n, hn, rfl, H⟩ := hrel
    clear H0
    by_cases h0 : 0 < n
    · obtain ⟨j, rfl⟩ : ∃ j, n = j + 1 := ⟨n - 1, by omega⟩
      have hj : j < ns.length := by omega
      obtain ⟨d, hd⟩ : ∃ d, ns.getD j 0 = d := ⟨_, rfl⟩
      have hd8 : d < 8 := by
        rw [← hd, List.getD_eq_getElem?_getD, List.getElem?_eq_getElem hj]
        exact HS.out.lt _ (List.getElem_mem hj)
      have HPA := implPartAt_any L hj
      rw [hd] at HPA
      have HPA := Lib.hid HPA
      have HT := Lib.hid (show (fin .f32 0 && fin .f32 (tabI d)) = true by rw [part_fin ⟨d, hd8⟩]; rfl)
      obtain ⟨m, hm⟩ : ∃ m, partW (crossB c (j + 1)) (tabI d) = m := ⟨_, rfl⟩
      have HG : Hid (gath c ns j = gath c ns (j + 1) ++ [m]) := Lib.hid (by rw [gath_step c ns hj, hd, hm])
      have HM := Lib.hid (implChainPart_f hm HT.out)
      have HH := Lib.hid H
      clear H hd hm
      go_wp2_with fail
      refine (HPA.out _).mono ?_
      rintro z w1 ⟨rfl, C1⟩
      go_wp2_with fail
      refine (implWay_any HS.out (j + 1) _).mono ?_
      rintro z w2 ⟨rfl, hw2⟩
      subst hw2
      go_wp2_with fail
      refine (HM.out _).mono ?_
      rintro z w2 ⟨rfl, C2⟩
      have H2 := Lib.hid ((HH.out.calm C1).calm C2)
      have H3 := Lib.hid (H2.out.alloc (.cells #[.complex .f32 m.a m.b, .complex .f32 m.c m.d, .complex .f32 m.e m.f, .complex .f32 m.g m.h] 39))
      have M3 := Lib.hid (Blk.new w2 m.a m.b m.c m.d m.e m.f m.g m.h)
      have hlt2 := H2.out.lt
      clear C1 C2 HH H2
      have m0 := M3.out.c0
      have m1 := M3.out.c1
      have m2 := M3.out.c2
      have m3 := M3.out.c3
      have ml := M3.out.lt
      have hgl := gath_length c ns (j + 1)
      have hlt3 := H3.out.lt
      have H4 := Lib.hid (H3.out.alloc (.cells #[.complex .f32 m.a m.b, .complex .f32 m.c m.d, .complex .f32 m.e m.f, .complex .f32 m.g m.h] 39))
      have hown := H4.out.own
      go_wp2_with (first | (at_builtin; refine wpList_append_own _ rfl _ _ 75 rfl (w.heap.size + 1) 39 i0 (.agg #[.complex .f32 0 0, .complex .f32 0 0, .complex .f32 0 0, .complex .f32 0 0]) 4 32 Try.underlying75 hi hz0 hz1 hz2 rfl (by decide) _ _ _ rfl hown ⟨w2.heap.size + 1, 0, none⟩ 1 1 [.complex .f32 m.a m.b, .complex .f32 m.c m.d, .complex .f32 m.e m.f, .complex .f32 m.g m.h] rfl rfl ?c1s ?c2s ?c3s ?c4s ?c5s ?_) | fail)
      case c1s =>
        have hat := At.new (w2.alloc (.cells #[.complex .f32 m.a m.b, .complex .f32 m.c m.d, .complex .f32 m.e m.f, .complex .f32 m.g m.h] 39)) (.cells #[.complex .f32 m.a m.b, .complex .f32 m.c m.d, .complex .f32 m.e m.f, .complex .f32 m.g m.h] 39)
        rw [show (w2.alloc (.cells #[.complex .f32 m.a m.b, .complex .f32 m.c m.d, .complex .f32 m.e m.f, .complex .f32 m.g m.h] 39)).heap.size = w2.heap.size + 1 by simp] at hat
        exact at_news hat
      case c2s => intro u hu; simp at hu; rcases hu with rfl | rfl | rfl | rfl <;> rfl
      case c3s => rw [hgl]; unfold maxLen; omega
      case c4s => rw [hgl]; omega
      case c5s => simp; omega
      intro v' w5 O' G' hnil
      have H5 : Hid (OwnN w w5 v' (gath c ns j)) := Lib.hid (by
        rw [HG.out]
        exact H4.out.app (m := m) (by rw [gath_length]; exact O') G')
      clear O' G' hnil hown H4 H3 M3 m0 m1 m2 m3 ml HG
      go_wp2_with fail
      exact ⟨⟨j, by omega, by go_num, H5.out⟩, by simp [intOf]⟩
    · have hn0 : n = 0 := by omega
      subst hn0
      have hgl : (gath c ns 0).length ≤ 3 := by rw [gath_length]; omega
      have HC := Lib.hid (implAll_own H hgl HF.out)
      have HH := Lib.hid H
      clear H hgl
      go_wp2_with fail
      refine HC.out.mono ?_
      rintro z w1 ⟨rfl, C⟩
      have B := HH.out.z.calm C
      have r0 := B.c0
      have r1 := B.c1
      have r2 := B.c2
      have r3 := B.c3
      have k0 := B.fr 0
      have k1 := B.fr 1
      have k2 := B.fr 2
      have k3 := B.fr 3
      have kl := B.lt
      have HB2 := Lib.hid B
      have HK := Lib.hid (calm_trans HH.out.c C)
      clear B C HH HC
      go_wp2_with fail
      refine bodyPost_ret (results_two_tmp rfl _ rfl (HB2.out.set4' _ _ _ _ _ _ _ _)) rfl ?_
      exact ⟨rfl, calm_set4 HK.out (Nat.le_refl _) _ _ _ _⟩

end Go.Proofs.Yteikkbmmbnihaaa
