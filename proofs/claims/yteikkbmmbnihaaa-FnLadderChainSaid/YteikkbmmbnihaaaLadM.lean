/-
  ChainAll of a list whose words are known, in the program.
-/
import Derived.Test.YteikkbmmbnihaaaLadL
namespace Go.Proofs.Yteikkbmmbnihaaa
open Go.RowKit Fl

theorem hold_start {w : World} {g : Nat} {ws : List Words} (hR : Row w g ws) : Hold w ((w.alloc (.cells #[.complex .f32 0 0, .complex .f32 0 0, .complex .f32 0 0, .complex .f32 0 0] 39)).alloc (.cells #[.complex .f32 1065353216 0, .complex .f32 0 0, .complex .f32 0 0, .complex .f32 1065353216 0] 39)) w.heap.size (w.heap.size + 1) g wireW ws := by
  have hl : ws = [] ∨ g < w.heap.size := by
    cases ws with
    | nil => exact .inl rfl
    | cons x xs => exact .inr (hR.lt (i := 0) (by simp))
  have O := Blk.new (w.alloc (.cells #[.complex .f32 0 0, .complex .f32 0 0, .complex .f32 0 0, .complex .f32 0 0] 39)) 1065353216 0 0 0 0 0 1065353216 0
  have hs : (w.alloc (.cells #[.complex .f32 0 0, .complex .f32 0 0, .complex .f32 0 0, .complex .f32 0 0] 39)).heap.size = w.heap.size + 1 := by simp
  rw [hs] at O
  have C := calm_allocR (calm_new w (.cells #[.complex .f32 0 0, .complex .f32 0 0, .complex .f32 0 0, .complex .f32 0 0] 39)) (.cells #[.complex .f32 1065353216 0, .complex .f32 0 0, .complex .f32 0 0, .complex .f32 1065353216 0] 39)
  refine ⟨(Blk.new w 0 0 0 0 0 0 0 0).alloc _, O, ?_, hl, C, by omega, by omega, by omega⟩
  rcases hl with h | h
  · subst h; intro i hi; simp at hi
  · exact hR.of (C.block g h (fun e => by cases e))

set_option maxRecDepth 8000 in
set_option maxHeartbeats 4000000 in
theorem chained_f {g cap : Nat} {ws : List Words} {o : Words} {w : World} (hR : Row w g ws) (hn : ws.length ≤ 3) (F : ChainF wireW ws o) :
    Calls Try.prog 83 #[.slice (some ⟨g, 0, none⟩) ws.length cap] w fun z w' => z = .returned (.tuple #[o.v, .bool true]) ∧ Calm w w' := by
  have HH := Lib.hid (hold_start hR)
  have HF := Lib.hid F
  clear F hR
  go_enter Try.func83, Try.ntmps83
  go_wp2_with fail
  go_loopw [12] (fun k wr => ∃ n m, n ≤ ws.length ∧ k = .int .i64 n ∧ Hold w wr w.heap.size (w.heap.size + 1) g m ws ∧ ChainF m (ws.drop n) o)
    (fun k _ => ws.length - (intOf k).toNat)
  case atStart => exact ⟨0, wireW, by omega, rfl, HH.out, HF.out⟩
  case round =>
    obtain ⟨n, m, hnl, rfl, H, hF⟩ := hrel
    by_cases hlt : n < ws.length
    · obtain ⟨p, hp, hF'⟩ := chain_step hlt hF
      have HC : Hid (∀ w : World, Calls Try.prog 91 #[m.v, ws[n].v] w fun z w' => z = .returned (.tuple #[twoV p.a p.b p.c p.d p.e p.f p.g p.h, .bool true]) ∧ Calm w w') := Lib.hid (implCas_f hp)
      have HN := Lib.hid hF'
      clear hF hF' hp
      obtain ⟨h0, h1, h2, h3⟩ := H.r n hlt
      rw [Nat.mul_comm] at h0 h1 h2 h3
      have HH1 := Lib.hid (H.alloc (.cells #[.complex .f32 ws[n].a ws[n].b, .complex .f32 ws[n].c ws[n].d, .complex .f32 ws[n].e ws[n].f, .complex .f32 ws[n].g ws[n].h] 39))
      have o0 := HH1.out.o.c0
      have o1 := HH1.out.o.c1
      have o2 := HH1.out.o.c2
      have o3 := HH1.out.o.c3
      clear H
      go_wp2_with fail
      refine (HC.out _).mono ?_
      rintro z v ⟨rfl, C⟩
      have H5 := Lib.hid ((HH1.out.calm C).alloc (.cells #[.complex .f32 p.a p.b, .complex .f32 p.c p.d, .complex .f32 p.e p.f, .complex .f32 p.g p.h] 39))
      clear o0 o1 o2 o3 h0 h1 h2 h3 HH1 HC C
      have o0 := H5.out.o.c0
      have o1 := H5.out.o.c1
      have o2 := H5.out.o.c2
      have o3 := H5.out.o.c3
      have f0 := H5.out.o.fr 0
      have f1 := H5.out.o.fr 1
      have f2 := H5.out.o.fr 2
      have f3 := H5.out.o.fr 3
      have fl := H5.out.o.lt
      go_wp2_with fail
      exact ⟨⟨n + 1, p, by omega, by go_num, H5.out.next p, HN.out⟩, by simp [intOf]; omega⟩
    · have hm' := chain_end hlt hF
      subst hm'
      have o0 := H.o.c0
      have o1 := H.o.c1
      have o2 := H.o.c2
      have o3 := H.o.c3
      have ol := H.o.lt
      have r0 := H.z.c0
      have r1 := H.z.c1
      have r2 := H.z.c2
      have r3 := H.z.c3
      have k0 := H.z.fr 0
      have k1 := H.z.fr 1
      have k2 := H.z.fr 2
      have k3 := H.z.fr 3
      have kl := H.z.lt
      have HH1 := Lib.hid H
      clear H hF
      go_wp2_with fail
      refine bodyPost_ret (results_two_tmp rfl _ rfl (HH1.out.z.set4' _ _ _ _ _ _ _ _)) rfl ?_
      exact ⟨rfl, calm_set4 HH1.out.c (by omega) _ _ _ _⟩

theorem Row.calm {w w' : World} {g : Nat} {ws : List Words} (H : Row w g ws) (C : Calm w w') : Row w' g ws := by
  intro i hi
  exact H.of (C.block g (H.lt hi) (fun e => by cases e)) i hi

set_option maxRecDepth 8000 in
set_option maxHeartbeats 4000000 in
theorem implAll_f {g cap : Nat} {ws : List Words} {o : Words} {w : World} (hR : Row w g ws) (hn : ws.length ≤ 3) (F : ChainF wireW ws o) :
    Calls Try.prog 59 #[.slice (some ⟨g, 0, none⟩) ws.length cap] w fun z w' => z = .returned (.tuple #[o.v, .bool true]) ∧ Calm w w' := by
  have C0 := calm_new w (.cells #[.complex .f32 0 0, .complex .f32 0 0, .complex .f32 0 0, .complex .f32 0 0] 39)
  have HC : Hid (Calls Try.prog 83 #[.slice (some ⟨g, 0, none⟩) ws.length cap] (w.alloc (.cells #[.complex .f32 0 0, .complex .f32 0 0, .complex .f32 0 0, .complex .f32 0 0] 39)) fun z w' => z = .returned (.tuple #[twoV o.a o.b o.c o.d o.e o.f o.g o.h, .bool true]) ∧ Calm (w.alloc (.cells #[.complex .f32 0 0, .complex .f32 0 0, .complex .f32 0 0, .complex .f32 0 0] 39)) w') :=
    Lib.hid (chained_f (hR.calm C0) hn F)
  have H0 := Lib.hid C0
  have HB := Lib.hid (Blk.new w 0 0 0 0 0 0 0 0)
  clear F hR C0
  go_enter Try.func59, Try.ntmps59
  go_wp2_with fail
  refine HC.out.mono ?_
  rintro z v ⟨rfl, C⟩
  have B := HB.out.calm C
  have r0 := B.c0
  have r1 := B.c1
  have r2 := B.c2
  have r3 := B.c3
  have k0 := B.fr 0
  have k1 := B.fr 1
  have k2 := B.fr 2
  have k3 := B.fr 3
  have kl := B.lt
  have HB2 := Lib.hid B
  have HK := Lib.hid (calm_trans H0.out C)
  clear B C HB H0 HC
  go_wp2_with fail
  refine bodyPost_ret (results_two_tmp rfl _ rfl (HB2.out.set4' _ _ _ _ _ _ _ _)) rfl ?_
  exact ⟨rfl, calm_set4 HK.out (Nat.le_refl _) _ _ _ _⟩

end Go.Proofs.Yteikkbmmbnihaaa
