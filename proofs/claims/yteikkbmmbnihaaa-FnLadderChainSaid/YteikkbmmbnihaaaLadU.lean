/-
  LadderChain in the model.
-/
import Derived.Test.YteikkbmmbnihaaaLadS
namespace Go.Proofs.Yteikkbmmbnihaaa
open Go.RowKit Fl

theorem Try.infoTwo : (Try.prog.info? 39).map (fun i => (i.zero, i.size, i.bytes)) = some (some (.agg #[.complex .f32 0 0, .complex .f32 0 0, .complex .f32 0 0, .complex .f32 0 0]), 4, 32) := by kernel_rfl

/-- What the loop over a ladder's digits holds: the list, the result's place. -/
structure Own (w0 w : World) (v : Value) (ws : List Words) : Prop where
  own : w.ownsRow (w0.heap.size + 1) 39 4 v ws.length (cellsL ws)
  nn : v ≠ .slice none 0 0
  z : Blk w w0.heap.size 0 0 0 0 0 0 0 0
  c : Calm w0 w
theorem Own.calm {w0 w w' : World} {v : Value} {ws : List Words} (H : Own w0 w v ws) (C : Calm w w') : Own w0 w' v ws :=
  ⟨H.own.kept C (by cases v.ownBlock <;> simp), H.nn, H.z.calm C, calm_trans H.c C⟩
theorem Own.alloc {w0 w : World} {v : Value} {ws : List Words} (H : Own w0 w v ws) (o : Obj) : Own w0 (w.alloc o) v ws := H.calm (World.grownBy_alloc w o none)
theorem Own.set {w0 w : World} {v : Value} {ws : List Words} (H : Own w0 w v ws) {X : Nat} (hX : w0.heap.size < X) (hv : v.ownBlock ≠ some X) (i : Nat) (u : Value) : Own w0 (w.setCell ⟨X, i, none⟩ u) v ws := by
  have G : w.grownBy (w.setCell ⟨X, i, none⟩ u) (some X) := Lib.grownBy_setB (grown_refl _ _) i _
  refine ⟨H.own.kept G (.inr hv), H.nn, ?_, grown_above H.c (by omega) _ _⟩
  exact H.z.other (r := ⟨X, i, none⟩) (by show w0.heap.size ≠ X; omega) u
theorem Own.free {w0 w : World} {v : Value} {ws : List Words} (H : Own w0 w v ws) {X : Nat} (hX : w.heap.size ≤ X) : v.ownBlock ≠ some X := by
  intro h
  have := (H.own.lt X h).2
  omega
theorem Own.lt {w0 w : World} {v : Value} {ws : List Words} (H : Own w0 w v ws) : w0.heap.size < w.heap.size := H.z.lt
theorem Own.app {w0 w w' : World} {v v' : Value} {ws : List Words} {m : Words} (H : Own w0 w v ws) (O : w'.ownsRow (w0.heap.size + 1) 39 4 v' (ws.length + 1) (cellsL ws ++ m.cells)) (G : w.grownBy w' v.ownBlock) (hn : v' ≠ .slice none 0 0) : Own w0 w' v' (ws ++ [m]) := by
  refine ⟨by rw [cellsL_add, List.length_append]; exact O, hn, ?_, ?_⟩
  · show Blk w' _ _ _ _ _ _ _ _ _
    unfold Blk
    rw [G.block w0.heap.size H.lt (fun h => by have := (H.own.lt _ h.symm).1; omega)]
    exact H.z
  · refine ⟨G.os.trans H.c.os, G.tape.trans H.c.tape, G.output.trans H.c.output, Nat.le_trans H.c.size G.size, ?_⟩
    intro k hk hne
    have := H.c.size
    rw [G.block k (by omega) (fun h => by have := (H.own.lt _ h.symm).1; omega)]
    exact H.c.block k hk hne

theorem at_news {w : World} {g : Nat} {cs : List Value} {T : TypeId} (H : At w g (.cells cs.toArray T)) : ∀ j u, cs[j]? = some u → w.cell? ((⟨g, 0, none⟩ : Addr).add j) = some u := by
  intro j u hu
  have e : (⟨g, 0, none⟩ : Addr).add j = ⟨g, j, none⟩ := by
    simp [Addr.add]
    try omega
  rw [e]
  exact H.cell (by simpa using hu)

theorem part_row {d : Nat} (h : d < 8) : partB (d : Int) = tabI d := by
  unfold partB
  rw [okP_iff.2 ⟨by omega, by omega⟩]
  rfl

theorem partsFrom_lt {c : Nat} : ∀ (l : List Nat) (j : Nat), (∀ n ∈ l, n < 8) → ∀ p ∈ partsFrom c j l, p.2 < 8
  | [], _, _, p, hp => by simp [partsFrom] at hp
  | x :: xs, j, h, p, hp => by
    simp only [partsFrom, List.mem_append, List.mem_singleton] at hp
    rcases hp with hp | rfl
    · exact partsFrom_lt xs (j + 1) (fun n hn => h n (by simp [hn])) p hp
    · exact h x (by simp)
theorem gath_ok {c : Nat} {ns : List Nat} (h : ∀ n ∈ ns, n < 8) (k : Nat) : ∀ p ∈ gath c ns k, p.okB := by
  intro p hp
  unfold gath at hp
  obtain ⟨q, hq, rfl⟩ := List.mem_map.1 hp
  exact (part_isD q.1 (partsFrom_lt _ _ (fun n hn => h n (List.mem_of_mem_drop hn)) q hq)).1.ok

set_option maxRecDepth 8000 in
set_option maxHeartbeats 4000000 in
theorem specLad_f {s : ByteArray} {c : Nat} {ns : List Nat} {o : Words} (L : LadS s c ns) (hl : ladB s = true) (F : ChainF wireW (gath c ns 0) o) (w : World) :
    Calls Try.prog 27 #[.string s] w fun z w' => z = .returned (.tuple #[o.v, .bool true]) ∧ Calm w w' := by
  have hsz := L.size
  have hln := L.len
  have HL := Lib.hid hl
  have HS := Lib.hid L
  have HF := Lib.hid F
  clear F hl
  go_enter Try.func27, Try.ntmps27
  go_wp2_with fail
  refine (specLadder_any s (by omega) _).mono ?_
  rw [HL.out]
  rintro z w1 ⟨rfl, hw1⟩
  subst hw1
  go_wp2_with fail
  obtain ⟨i0, hi, hz0, hz1, hz2⟩ := info_parts Try.infoTwo
  have H0 : Hid (Own w ((w.alloc (.cells #[.complex .f32 0 0, .complex .f32 0 0, .complex .f32 0 0, .complex .f32 0 0] 39)).alloc (.cells #[] 39)) (.slice (some ⟨w.heap.size + 1, 0, none⟩) 0 0) (gath c ns ns.length)) := Lib.hid (by
    rw [gath_end]
    have hs : (w.alloc (.cells #[.complex .f32 0 0, .complex .f32 0 0, .complex .f32 0 0, .complex .f32 0 0] 39)).heap.size = w.heap.size + 1 := by simp
    have O := World.ownsRow_made (base := w.heap.size + 1) (e := 39) (size := 4) (w.alloc (.cells #[.complex .f32 0 0, .complex .f32 0 0, .complex .f32 0 0, .complex .f32 0 0] 39)) #[] 0 (by omega) (by decide) rfl
    rw [hs] at O
    exact ⟨O, by simp, (Blk.new w 0 0 0 0 0 0 0 0).alloc _, calm_allocR (calm_new w _) _⟩)
  go_loopw [4, 5] (fun v k wr => ∃ n : Nat, n ≤ ns.length ∧ k = .int .i64 n ∧ Own w wr v (gath c ns n))
    (fun _ k _ => (intOf k).toNat)
  case atStart => exact ⟨ns.length, Nat.le_refl _, rfl, H0.out⟩
  case round =>
    obtain ⟨n, hn, rfl, H⟩ := hrel
    clear H0
    by_cases h0 : 0 < n
    · obtain ⟨j, rfl⟩ : ∃ j, n = j + 1 := ⟨n - 1, by omega⟩
      have hj : j < ns.length := by omega
      obtain ⟨d, hd⟩ : ∃ d, ns.getD j 0 = d := ⟨_, rfl⟩
      have hb := HS.out.dig j (by omega)
      rw [hd] at hb
      have hd8 : d < 8 := by
        rw [← hd, List.getD_eq_getElem?_getD, List.getElem?_eq_getElem hj]
        exact HS.out.lt _ (List.getElem_mem hj)
      have HG := Lib.hid (gath_step c ns hj)
      have HD := Lib.hid hd
      have HP := Lib.hid (part_row hd8)
      have HT := Lib.hid (show (fin .f32 0 && fin .f32 (tabI d)) = true by rw [part_fin ⟨d, hd8⟩]; rfl)
      have HH := Lib.hid H
      clear H hd
      go_wp2_with fail
      rw [show (48 + (d : Int) - 48) = d by omega]
      refine (specPart_any _ _).mono ?_
      rw [HP.out]
      rintro z w1 ⟨rfl, C1⟩
      go_wp2_with fail
      refine (specSeries_any _ _ _).mono ?_
      rw [HT.out, ifV_true]
      rintro z w2 ⟨rfl, C2⟩
      have H2 := Lib.hid ((HH.out.calm C1).calm C2)
      have hfree := H2.out.free (X := w2.heap.size) (Nat.le_refl _)
      have hlt2 := H2.out.lt
      have H3 := Lib.hid (H2.out.alloc (.cells #[.complex .f32 1065353216 0, .complex .f32 0 (tabI d), .complex .f32 0 0, .complex .f32 1065353216 0] 39))
      have M3 := Lib.hid (Blk.new w2 1065353216 0 0 (tabI d) 0 0 1065353216 0)
      clear C1 C2 HH H2
      go_wp2_with fail
      generalize (w2.alloc (.cells #[.complex .f32 1065353216 0, .complex .f32 0 (tabI d), .complex .f32 0 0, .complex .f32 1065353216 0] 39)) = w3 at H3 M3 ⊢
      refine (specCross_any HS.out (j + 1) _).mono ?_
      rintro z w4 ⟨rfl, rfl⟩
      obtain ⟨β, hβ⟩ : ∃ β, crossB c (j + 1) = β := ⟨_, rfl⟩
      rw [hβ]
      have HB := Lib.hid hβ
      clear hβ
      cases β
      · skip
        have m0 := M3.out.c0
        have m1 := M3.out.c1
        have m2 := M3.out.c2
        have m3 := M3.out.c3
        have ml := M3.out.lt
        have hgl := gath_length c ns (j + 1)
        have hlt3 := H3.out.lt
        have H4 := Lib.hid (H3.out.alloc (.cells #[.complex .f32 1065353216 0, .complex .f32 0 (tabI d), .complex .f32 0 0, .complex .f32 1065353216 0] 39))
        have hown := H4.out.own
        go_wp2_with (first | (at_builtin; refine wpList_append_own _ rfl _ _ 75 rfl (w.heap.size + 1) 39 i0 (.agg #[.complex .f32 0 0, .complex .f32 0 0, .complex .f32 0 0, .complex .f32 0 0]) 4 32 Try.underlying75 hi hz0 hz1 hz2 rfl (by decide) _ _ _ rfl hown ⟨w4.heap.size, 0, none⟩ 1 1 [.complex .f32 1065353216 0, .complex .f32 0 (tabI d), .complex .f32 0 0, .complex .f32 1065353216 0] rfl rfl ?c1s ?c2s ?c3s ?c4s ?c5s ?_) | fail)
        case c1s => exact at_news (At.new w4 _)
        case c2s => intro u hu; simp at hu; rcases hu with rfl | rfl | rfl | rfl <;> rfl
        case c3s => rw [hgl]; unfold maxLen; omega
        case c4s => rw [hgl]; omega
        case c5s => simp; omega
        intro v' w5 O' G' hnil
        have H5 : Hid (Own w w5 v' (gath c ns j)) := Lib.hid (by
          rw [HG.out, HB.out, HD.out]
          exact H4.out.app (m := partW false (tabI d)) (by rw [gath_length]; exact O') G' (by intro h; first | exact hnil h | exact H4.out.nn (hnil.1 h).1))
        clear O' G' hnil hown H4 H3 M3 m0 m1 m2 m3 ml HG
        go_wp2_with fail
        exact ⟨⟨j, by omega, by go_num, H5.out⟩, by simp [intOf]⟩
      · have m0' := M3.out.c0
        have m1' := M3.out.c1
        have m2' := M3.out.c2
        have m3' := M3.out.c3
        have f0 := M3.out.fr 0
        have f1 := M3.out.fr 1
        have f2 := M3.out.fr 2
        have f3 := M3.out.fr 3
        have ml' := M3.out.lt
        go_wp2_with fail
        refine (specShunt_any _ _ _).mono ?_
        rw [HT.out, ifV_true]
        rintro z w5 ⟨rfl, C⟩
        have M5 := M3.out.calm C
        have H5 := H3.out.calm C
        clear m0' m1' m2' m3' f0 f1 f2 f3 ml' H3 M3 C
        have m0' := M5.c0
        have m1' := M5.c1
        have m2' := M5.c2
        have m3' := M5.c3
        have f0 := M5.fr 0
        have f1 := M5.fr 1
        have f2 := M5.fr 2
        have f3 := M5.fr 3
        have ml' := M5.lt
        have H4 := Lib.hid (((((H5.set hlt2 hfree 0 (.complex .f32 1065353216 0)).set hlt2 hfree 1 (.complex .f32 0 0)).set hlt2 hfree 2 (.complex .f32 0 (tabI d))).set hlt2 hfree 3 (.complex .f32 1065353216 0)).alloc (.cells #[.complex .f32 1065353216 0, .complex .f32 0 0, .complex .f32 0 (tabI d), .complex .f32 1065353216 0] 39))
        have hs6 : ((((w5.setCell ⟨w2.heap.size, 0, none⟩ (.complex .f32 1065353216 0)).setCell ⟨w2.heap.size, 1, none⟩ (.complex .f32 0 0)).setCell ⟨w2.heap.size, 2, none⟩ (.complex .f32 0 (tabI d))).setCell ⟨w2.heap.size, 3, none⟩ (.complex .f32 1065353216 0)).heap.size = w5.heap.size := by simp
        have hat := Lib.hid (At.new ((((w5.setCell ⟨w2.heap.size, 0, none⟩ (.complex .f32 1065353216 0)).setCell ⟨w2.heap.size, 1, none⟩ (.complex .f32 0 0)).setCell ⟨w2.heap.size, 2, none⟩ (.complex .f32 0 (tabI d))).setCell ⟨w2.heap.size, 3, none⟩ (.complex .f32 1065353216 0)) (.cells #[.complex .f32 1065353216 0, .complex .f32 0 0, .complex .f32 0 (tabI d), .complex .f32 1065353216 0] 39))
        have HS6 := Lib.hid hs6
        have hgl := gath_length c ns (j + 1)
        have hlt3 := H5.lt
        have hown := H4.out.own
        clear M5 H5 hs6
        go_wp2_with (first | (at_builtin; refine wpList_append_own _ rfl _ _ 75 rfl (w.heap.size + 1) 39 i0 (.agg #[.complex .f32 0 0, .complex .f32 0 0, .complex .f32 0 0, .complex .f32 0 0]) 4 32 Try.underlying75 hi hz0 hz1 hz2 rfl (by decide) _ _ _ rfl hown ⟨w5.heap.size, 0, none⟩ 1 1 [.complex .f32 1065353216 0, .complex .f32 0 0, .complex .f32 0 (tabI d), .complex .f32 1065353216 0] rfl rfl ?c1p ?c2p ?c3p ?c4p ?c5p ?_) | fail)
        case c1p =>
          have hat := hat.out
          rw [HS6.out] at hat
          exact at_news hat
        case c2p => intro u hu; simp at hu; rcases hu with rfl | rfl | rfl | rfl <;> rfl
        case c3p => rw [hgl]; unfold maxLen; omega
        case c4p => rw [hgl]; omega
        case c5p => simp; omega
        intro v' w7 O' G' hnil
        have H5 : Hid (Own w w7 v' (gath c ns j)) := Lib.hid (by
          rw [HG.out, HB.out, HD.out]
          exact H4.out.app (m := partW true (tabI d)) (by rw [gath_length]; exact O') G' (by intro h; first | exact hnil h | exact H4.out.nn (hnil.1 h).1))
        clear O' G' hnil hown H4 hat HS6 m0' m1' m2' m3' f0 f1 f2 f3 ml' HG
        go_wp2_with fail
        exact ⟨⟨j, by omega, by go_num, H5.out⟩, by simp [intOf]⟩
    · have hn0 : n = 0 := by omega
      subst hn0
      obtain ⟨g, cap, rfl, R⟩ := own_row (ws := gath c ns 0) H.own H.nn
      have hgl : (gath c ns 0).length ≤ 3 := by rw [gath_length]; omega
      have HC : Hid (Calls Try.prog 62 #[.slice (some ⟨g, 0, none⟩) (gath c ns 0).length cap] wr fun z w' => z = .returned (.tuple #[twoV o.a o.b o.c o.d o.e o.f o.g o.h, .bool true]) ∧ Calm wr w') := Lib.hid (specAll_f R hgl (gath_ok HS.out.lt 0) HF.out)
      have HH := Lib.hid H
      clear H R hgl
      go_wp2_with fail
      refine HC.out.mono ?_
      rintro z w1 ⟨rfl, C⟩
      have B := HH.out.z.calm C
      have r0 := B.c0
      have r1 := B.c1
      have r2 := B.c2
      have r3 := B.c3
      have k0 := B.fr 0
      have k1 := B.fr 1
      have k2 := B.fr 2
      have k3 := B.fr 3
      have kl := B.lt
      have HB2 := Lib.hid B
      have HK := Lib.hid (calm_trans HH.out.c C)
      clear B C HH HC
      go_wp2_with fail
      refine bodyPost_ret (results_two_tmp rfl _ rfl (HB2.out.set4' _ _ _ _ _ _ _ _)) rfl ?_
      exact ⟨rfl, calm_set4 HK.out (Nat.le_refl _) _ _ _ _⟩

end Go.Proofs.Yteikkbmmbnihaaa
