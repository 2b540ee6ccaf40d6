/-
  The walk of FnScatteringAt: it answers true.
-/
import Derived.Test.YthbebgnjidaokaaDrawSA
import Derived.Test.YthbebgnjidaokaaIAt
import Derived.Test.YthbebgnjidaokaaC3b
import Derived.Test.YthbebgnjidaokaaImplTb
namespace Go.Proofs.Ythbebgnjidaokaa
open Go.RowKit Fl

def zeroW : Words := ⟨0, 0, 0, 0, 0, 0, 0, 0⟩
theorem scV_form (o : Option Words) : ∃ (m : Words) (β : Bool), scV o = .tuple #[twoV m.a m.b m.c m.d m.e m.f m.g m.h, .bool β] ∧ ((β = true ∧ o = some m) ∨ (β = false ∧ o = none ∧ m = zeroW)) := by
  cases o with
  | none => exact ⟨zeroW, false, rfl, .inr ⟨rfl, rfl, rfl⟩⟩
  | some m => exact ⟨m, true, rfl, .inl ⟨rfl, rfl⟩⟩
theorem eqs_v {a b c d : Nat} (ha : fin .f32 a = true) (hb : fin .f32 b = true) (hc : fin .f32 c = true) (hd : fin .f32 d = true) (h1 : V FloatKind.f32.format a = V FloatKind.f32.format c) (h2 : V FloatKind.f32.format b = V FloatKind.f32.format d) : Eqs a b c d :=
  ⟨(order_spec _ (fin_num.1 ha) (fin_num.1 hc)).2.1.2 h1, (order_spec _ (fin_num.1 hb) (fin_num.1 hd)).2.1.2 h2⟩
/-- What the flat table gives. -/
theorem flat_any {m : Words} {f : Int} (h : finTwo m.a m.b m.c m.d m.e m.f m.g m.h = true) (h0 : 10 ≤ f) (h1 : f ≤ 20) : ∃ n, scatB [⟨10, m⟩, ⟨20, m⟩] f = some n ∧ Eqs n.a n.b m.a m.b ∧ Eqs n.c n.d m.c m.d ∧ Eqs n.e n.f m.e m.f ∧ Eqs n.g n.h m.g m.h := by
  obtain ⟨n, hn, ⟨a, b⟩, ⟨c, d⟩, ⟨e, f'⟩, g, i⟩ := scatB_flat h h0 h1
  refine ⟨n, hn, ?_⟩
  have hf : finTwo n.a n.b n.c n.d n.e n.f n.g n.h = true := by
    unfold scatB at hn
    split at hn
    · refine scatR_fin f _ (fun r hr => ?_) hn
      simp at hr
      rcases hr with rfl | rfl <;> exact h
    · cases hn
  unfold finTwo at h hf
  simp only [Bool.and_eq_true] at h hf
  obtain ⟨⟨⟨⟨a1, a2⟩, a3, a4⟩, a5, a6⟩, a7, a8⟩ := h
  obtain ⟨⟨⟨⟨b1, b2⟩, b3, b4⟩, b5, b6⟩, b7, b8⟩ := hf
  exact ⟨eqs_v b1 b2 a1 a2 a b, eqs_v b3 b4 a3 a4 c d, eqs_v b5 b6 a5 a6 e f', eqs_v b7 b8 a7 a8 g i⟩

theorem tm11 (f : Int) : -10 ≤ f.tmod 11 ∧ f.tmod 11 ≤ 10 := by
  rcases Int.le_total 0 f with h | h
  · rw [Int.tmod_eq_emod_of_nonneg h]; omega
  · obtain ⟨g, rfl⟩ : ∃ g, f = -g := ⟨-f, by omega⟩
    rw [Int.neg_tmod, Int.tmod_eq_emod_of_nonneg (by omega)]; omega
theorem flatF (f : Int) : ∃ F, wrap64 (10 + (wrap64 (f.tmod 11 + 11)).tmod 11) = F ∧ 10 ≤ F ∧ F ≤ 20 := by
  have h := tm11 f
  have e1 : wrap64 (f.tmod 11 + 11) = f.tmod 11 + 11 := IntWalk.wrap64_in _ (by omega)
  rw [e1]
  have e2 : (f.tmod 11 + 11).tmod 11 = (f.tmod 11 + 11) % 11 := Int.tmod_eq_emod_of_nonneg (by omega)
  rw [e2]
  have e3 : wrap64 (10 + (f.tmod 11 + 11) % 11) = 10 + (f.tmod 11 + 11) % 11 := IntWalk.wrap64_in _ (by omega)
  rw [e3]
  exact ⟨_, rfl, by omega, by omega⟩
theorem flat_row {w : World} {m : Words} (X : Obj) : Row5 ((w.alloc X).alloc (.cells #[.int .i64 10, .complex .f32 m.a m.b, .complex .f32 m.c m.d, .complex .f32 m.e m.f, .complex .f32 m.g m.h, .int .i64 20, .complex .f32 m.a m.b, .complex .f32 m.c m.d, .complex .f32 m.e m.f, .complex .f32 m.g m.h] 47)) (w.heap.size + 1) [⟨10, m⟩, ⟨20, m⟩] := by
  have A := At.new (w.alloc X) (.cells #[.int .i64 10, .complex .f32 m.a m.b, .complex .f32 m.c m.d, .complex .f32 m.e m.f, .complex .f32 m.g m.h, .int .i64 20, .complex .f32 m.a m.b, .complex .f32 m.c m.d, .complex .f32 m.e m.f, .complex .f32 m.g m.h] 47)
  rw [show (w.alloc X).heap.size = w.heap.size + 1 by simp] at A
  intro k hk
  match k, hk with
  | 0, _ => exact ⟨A.cell rfl, A.cell rfl, A.cell rfl, A.cell rfl, A.cell rfl⟩
  | 1, _ => exact ⟨A.cell rfl, A.cell rfl, A.cell rfl, A.cell rfl, A.cell rfl⟩
theorem at_drew {w wx : World} {B g k : Nat} {m : Words} (H : wx.cell? ⟨B, 0, none⟩ = some (.complex .f32 m.a m.b) ∧ wx.cell? ⟨B, 1, none⟩ = some (.complex .f32 m.c m.d) ∧ wx.cell? ⟨B, 2, none⟩ = some (.complex .f32 m.e m.f) ∧ wx.cell? ⟨B, 3, none⟩ = some (.complex .f32 m.g m.h) ∧ wx.cell? ⟨g, k * 5 + 1, none⟩ = some (.complex .f32 m.a m.b) ∧ wx.cell? ⟨g, k * 5 + 2, none⟩ = some (.complex .f32 m.c m.d) ∧ wx.cell? ⟨g, k * 5 + 3, none⟩ = some (.complex .f32 m.e m.f) ∧ wx.cell? ⟨g, k * 5 + 4, none⟩ = some (.complex .f32 m.g m.h) ∧ Calm w wx) : wx.drew.cell? ⟨B, 0, none⟩ = some (.complex .f32 m.a m.b) ∧ wx.drew.cell? ⟨B, 1, none⟩ = some (.complex .f32 m.c m.d) ∧ wx.drew.cell? ⟨B, 2, none⟩ = some (.complex .f32 m.e m.f) ∧ wx.drew.cell? ⟨B, 3, none⟩ = some (.complex .f32 m.g m.h) ∧ wx.drew.cell? ⟨g, k * 5 + 1, none⟩ = some (.complex .f32 m.a m.b) ∧ wx.drew.cell? ⟨g, k * 5 + 2, none⟩ = some (.complex .f32 m.c m.d) ∧ wx.drew.cell? ⟨g, k * 5 + 3, none⟩ = some (.complex .f32 m.e m.f) ∧ wx.drew.cell? ⟨g, k * 5 + 4, none⟩ = some (.complex .f32 m.g m.h) ∧ Calm w wx.drew := by
  obtain ⟨a, b, c, d, e, f, g', h, C⟩ := H
  exact ⟨a, b, c, d, e, f, g', h, grown_drew C⟩
theorem at_drewN {w wx : World} {B g k : Nat} {m : Words} {n : Nat} (H : wx.cell? ⟨B, 0, none⟩ = some (.complex .f32 m.a m.b) ∧ wx.cell? ⟨B, 1, none⟩ = some (.complex .f32 m.c m.d) ∧ wx.cell? ⟨B, 2, none⟩ = some (.complex .f32 m.e m.f) ∧ wx.cell? ⟨B, 3, none⟩ = some (.complex .f32 m.g m.h) ∧ wx.cell? ⟨g, k * 5 + 1, none⟩ = some (.complex .f32 m.a m.b) ∧ wx.cell? ⟨g, k * 5 + 2, none⟩ = some (.complex .f32 m.c m.d) ∧ wx.cell? ⟨g, k * 5 + 3, none⟩ = some (.complex .f32 m.e m.f) ∧ wx.cell? ⟨g, k * 5 + 4, none⟩ = some (.complex .f32 m.g m.h) ∧ Calm w wx) : (wx.drewN n).cell? ⟨B, 0, none⟩ = some (.complex .f32 m.a m.b) ∧ (wx.drewN n).cell? ⟨B, 1, none⟩ = some (.complex .f32 m.c m.d) ∧ (wx.drewN n).cell? ⟨B, 2, none⟩ = some (.complex .f32 m.e m.f) ∧ (wx.drewN n).cell? ⟨B, 3, none⟩ = some (.complex .f32 m.g m.h) ∧ (wx.drewN n).cell? ⟨g, k * 5 + 1, none⟩ = some (.complex .f32 m.a m.b) ∧ (wx.drewN n).cell? ⟨g, k * 5 + 2, none⟩ = some (.complex .f32 m.c m.d) ∧ (wx.drewN n).cell? ⟨g, k * 5 + 3, none⟩ = some (.complex .f32 m.e m.f) ∧ (wx.drewN n).cell? ⟨g, k * 5 + 4, none⟩ = some (.complex .f32 m.g m.h) ∧ Calm w (wx.drewN n) := by
  obtain ⟨a, b, c, d, e, f, g', h, C⟩ := H
  exact ⟨a, b, c, d, e, f, g', h, grown_drewN C n⟩
theorem at_calm {w wx wy : World} {B g k : Nat} {m : Words} (K : Calm wx wy) (H : wx.cell? ⟨B, 0, none⟩ = some (.complex .f32 m.a m.b) ∧ wx.cell? ⟨B, 1, none⟩ = some (.complex .f32 m.c m.d) ∧ wx.cell? ⟨B, 2, none⟩ = some (.complex .f32 m.e m.f) ∧ wx.cell? ⟨B, 3, none⟩ = some (.complex .f32 m.g m.h) ∧ wx.cell? ⟨g, k * 5 + 1, none⟩ = some (.complex .f32 m.a m.b) ∧ wx.cell? ⟨g, k * 5 + 2, none⟩ = some (.complex .f32 m.c m.d) ∧ wx.cell? ⟨g, k * 5 + 3, none⟩ = some (.complex .f32 m.e m.f) ∧ wx.cell? ⟨g, k * 5 + 4, none⟩ = some (.complex .f32 m.g m.h) ∧ Calm w wx) : wy.cell? ⟨B, 0, none⟩ = some (.complex .f32 m.a m.b) ∧ wy.cell? ⟨B, 1, none⟩ = some (.complex .f32 m.c m.d) ∧ wy.cell? ⟨B, 2, none⟩ = some (.complex .f32 m.e m.f) ∧ wy.cell? ⟨B, 3, none⟩ = some (.complex .f32 m.g m.h) ∧ wy.cell? ⟨g, k * 5 + 1, none⟩ = some (.complex .f32 m.a m.b) ∧ wy.cell? ⟨g, k * 5 + 2, none⟩ = some (.complex .f32 m.c m.d) ∧ wy.cell? ⟨g, k * 5 + 3, none⟩ = some (.complex .f32 m.e m.f) ∧ wy.cell? ⟨g, k * 5 + 4, none⟩ = some (.complex .f32 m.g m.h) ∧ Calm w wy := by
  obtain ⟨a, b, c, d, a', b', c', d', C⟩ := H
  have hb := K.block B (World.block_lt_of_cell? wx _ a) (fun e => by cases e)
  have hb' := K.block g (World.block_lt_of_cell? wx _ a') (fun e => by cases e)
  refine ⟨?_, ?_, ?_, ?_, ?_, ?_, ?_, ?_, calm_trans C K⟩
  all_goals first | (rw [World.cell?_of_block (w := wx) hb]; assumption) | (rw [World.cell?_of_block (w := wx) hb']; assumption)
theorem at_done {w wx : World} {B g k : Nat} {m : Words} (H : wx.cell? ⟨B, 0, none⟩ = some (.complex .f32 m.a m.b) ∧ wx.cell? ⟨B, 1, none⟩ = some (.complex .f32 m.c m.d) ∧ wx.cell? ⟨B, 2, none⟩ = some (.complex .f32 m.e m.f) ∧ wx.cell? ⟨B, 3, none⟩ = some (.complex .f32 m.g m.h) ∧ wx.cell? ⟨g, k * 5 + 1, none⟩ = some (.complex .f32 m.a m.b) ∧ wx.cell? ⟨g, k * 5 + 2, none⟩ = some (.complex .f32 m.c m.d) ∧ wx.cell? ⟨g, k * 5 + 3, none⟩ = some (.complex .f32 m.e m.f) ∧ wx.cell? ⟨g, k * 5 + 4, none⟩ = some (.complex .f32 m.g m.h) ∧ Calm w wx) : Calm w wx := H.2.2.2.2.2.2.2.2

set_option maxRecDepth 8000 in
set_option maxHeartbeats 4000000 in
theorem FnScatteringAt_walk (a : Option Addr) (len cap : Nat) (zs : List Int) (w : World) (h : IsRow .u8 w a len cap zs) :
    Calls Try.prog 6 #[.slice a len cap] w fun e w' => e = .returned (.bool true) ∧ Below w.heap.size w w' := by
  by_cases hl : (1048576 : Int) < (len : Int)
  · go_enter Try.func6, Try.ntmps6
    go_wp2_with fail
    go_ret
    exact ⟨rfl, Below.refl _ _⟩
  · go_enter Try.func6, Try.ntmps6
    go_wp2_with fail
    refine (drawAt_any h).mono ?_
    rintro e w1 ⟨g, c, rs, f, rfl, h9, hrc, f0, f1, R1, B1⟩
    clear h
    have HR1 := Lib.hid R1
    have HB1 := Lib.hid B1
    clear R1 B1
    obtain ⟨o, ho⟩ : ∃ o, scatB rs f = o := ⟨_, rfl⟩
    obtain ⟨m, β, hv, hm⟩ := scV_form o
    have HI := Lib.hid (implAt_any (f := f) (cap := c) HR1.out rfl h9 hrc)
    have HS := Lib.hid (fun w' (C : Calm w1 w') => specAt_any (f := f) (cap := c) (HR1.out.calm C) rfl h9)
    rw [ho, hv] at HI HS
    have HO := Lib.hid ho
    have HM := Lib.hid hm
    clear ho hv hm
    go_wp2_with fail
    refine HI.out.mono ?_
    rintro z w2 ⟨rfl, C2⟩
    have HB2 := Lib.hid (Blk.new w2 m.a m.b m.c m.d m.e m.f m.g m.h)
    have HC2 := Lib.hid (calm_trans C2 (calm_new w2 (.cells #[.complex .f32 m.a m.b, .complex .f32 m.c m.d, .complex .f32 m.e m.f, .complex .f32 m.g m.h] 41)))
    clear C2 HI
    go_wp2_with fail
    refine (HS.out _ HC2.out).mono ?_
    rintro z w3 ⟨rfl, C3⟩
    have HB3 := Lib.hid ((HB2.out.calm C3).alloc (.cells #[.complex .f32 m.a m.b, .complex .f32 m.c m.d, .complex .f32 m.e m.f, .complex .f32 m.g m.h] 41))
    have HX3 := Lib.hid (Blk.new w3 m.a m.b m.c m.d m.e m.f m.g m.h)
    have HC3 := Lib.hid (calm_trans (calm_trans HC2.out C3) (calm_new w3 (.cells #[.complex .f32 m.a m.b, .complex .f32 m.c m.d, .complex .f32 m.e m.f, .complex .f32 m.g m.h] 41)))
    clear C3 HC2 HS HB2
    have z0 := HB3.out.c0
    have z1 := HB3.out.c1
    have z2 := HB3.out.c2
    have z3 := HB3.out.c3
    have x0 := HX3.out.c0
    have x1 := HX3.out.c1
    have x2 := HX3.out.c2
    have x3 := HX3.out.c3
    have zl := HB3.out.lt
    have xl := HX3.out.lt
    go_wp2_with fail
    refine (sameTwo_same _ _ _ _ _ _ _ _ _).mono ?_
    rintro z w4 ⟨rfl, C4⟩
    have HC4 := Lib.hid (calm_trans HC3.out C4)
    have HB4 := Lib.hid (HB3.out.calm C4)
    clear C4 HC3 HB3 HX3 x0 x1 x2 x3 z0 z1 z2 z3 zl xl
    have HR4 := Lib.hid (HR1.out.calm HC4.out)
    obtain ⟨τ, hτ⟩ : ∃ τ, tabB rs = τ := ⟨_, rfl⟩
    have HT := Lib.hid hτ
    have HTI := Lib.hid (fun w' (C : Calm w1 w') => implTableOk_any (cap := c) (HR1.out.calm C) rfl (by omega : rs.length ≤ 1048576))
    rw [hτ] at HTI
    clear hτ
    cases β
    · obtain ⟨_, hoN, rfl⟩ := HM.out.resolve_left (by rintro ⟨e, _⟩; cases e)
      unfold zeroW at *
      dsimp only at HB4 HTI HR4
      go_wp2_with fail
      refine (HTI.out _ HC4.out).mono ?_
      rintro z w5 ⟨rfl, C5⟩
      have HC5 := Lib.hid (calm_trans HC4.out C5)
      have HB5 := Lib.hid (HB4.out.calm C5)
      clear C5 HC4 HB4 HR4
      have z0 := HB5.out.c0
      have z1 := HB5.out.c1
      have z2 := HB5.out.c2
      have z3 := HB5.out.c3
      have zl := HB5.out.lt
      cases τ
      · go_wp2_with fail
        refine (noTwo_zero _).mono ?_
        rintro z w6 ⟨rfl, C6⟩
        have HC6 := Lib.hid (calm_trans HC5.out C6)
        clear C6
        go_wp2_with fail
        refine (alive_any _).mono ?_
        rintro z w7 ⟨rfl, hw7⟩
        subst hw7
        go_wp2_with fail
        go_ret
        exact ⟨rfl, below_calm HB1.out HB1.out.size HC6.out⟩
      · clear z0 z1 z2 z3 zl
        have HE := Lib.hid (fun k (hk : k < rs.length) => show scatB rs rs[k].f = some rs[k].m from by
          unfold scatB
          rw [HT.out]
          refine scatR_row rs (p := none) hk ?_
          have := HT.out
          unfold tabB at this
          simp only [Bool.and_eq_true] at this
          exact this.1)
        have hpos : 0 < rs.length := (tabB_len HT.out).1
        go_wp2_with fail
        go_loopw [9] (fun kv wr => ∃ k : Nat, k ≤ rs.length ∧ kv = .int .i64 k ∧ Calm w5 wr)
          (fun kv _ => rs.length - (intOf kv).toNat)
        case atStart => exact ⟨0, by omega, rfl, grown_refl _ _⟩
        case round =>
          obtain ⟨k, hk, rfl, C⟩ := hrel
          have HK := Lib.hid C
          clear C
          by_cases hlt : k < rs.length
          · have hcells : ∀ w', Calm w1 w' → FiveAt (fun j => w'.cell? ⟨g, j, none⟩) k rs[k] := fun w' C => HR1.out.calm C k hlt
            have hIk : ∀ w', Calm w1 w' → Calls Try.prog 20 #[.slice (some ⟨g, 0, none⟩) rs.length c, .int .i64 rs[k].f] w' fun z w'' => z = .returned (scV (some rs[k].m)) ∧ Calm w' w'' := fun w' C => by
              have := implAt_any (f := rs[k].f) (cap := c) (HR1.out.calm C) rfl h9 hrc
              rw [HE.out k hlt] at this
              exact this
            generalize rs[k] = r at *
            have HIk := Lib.hid hIk
            have HL := Lib.hid hcells
            clear hIk hcells
            obtain ⟨c0, c1, c2, c3, c4⟩ := HL.out _ (calm_trans HC5.out HK.out)
            have gl := World.block_lt_of_cell? wr _ c0
            dsimp only at c0 c1 c2 c3 c4 gl
            go_wp2_with fail
            refine (HIk.out _ (calm_trans HC5.out HK.out)).mono ?_
            rintro z w6 ⟨rfl, C6⟩
            have HK6 := Lib.hid (calm_trans HK.out C6)
            clear C6 HK c0 c1 c2 c3 c4 gl
            have HK7 := Lib.hid (calm_trans HK6.out (calm_new w6 (.cells #[.complex .f32 r.m.a r.m.b, .complex .f32 r.m.c r.m.d, .complex .f32 r.m.e r.m.f, .complex .f32 r.m.g r.m.h] 41)))
            obtain ⟨c0, c1, c2, c3, c4⟩ := HL.out _ (calm_trans HC5.out HK7.out)
            have gl := World.block_lt_of_cell? _ _ c0
            dsimp only at c0 c1 c2 c3 c4 gl
            have Z := Blk.new w6 r.m.a r.m.b r.m.c r.m.d r.m.e r.m.f r.m.g r.m.h
            have z0 := Z.c0
            have z1 := Z.c1
            have z2 := Z.c2
            have z3 := Z.c3
            have zl := Z.lt
            unfold scV
            have HS0 : (w6.alloc (.cells #[.complex .f32 r.m.a r.m.b, .complex .f32 r.m.c r.m.d, .complex .f32 r.m.e r.m.f, .complex .f32 r.m.g r.m.h] 41)).cell? ⟨w6.heap.size, 0, none⟩ = some (.complex .f32 r.m.a r.m.b) ∧ (w6.alloc (.cells #[.complex .f32 r.m.a r.m.b, .complex .f32 r.m.c r.m.d, .complex .f32 r.m.e r.m.f, .complex .f32 r.m.g r.m.h] 41)).cell? ⟨w6.heap.size, 1, none⟩ = some (.complex .f32 r.m.c r.m.d) ∧ (w6.alloc (.cells #[.complex .f32 r.m.a r.m.b, .complex .f32 r.m.c r.m.d, .complex .f32 r.m.e r.m.f, .complex .f32 r.m.g r.m.h] 41)).cell? ⟨w6.heap.size, 2, none⟩ = some (.complex .f32 r.m.e r.m.f) ∧ (w6.alloc (.cells #[.complex .f32 r.m.a r.m.b, .complex .f32 r.m.c r.m.d, .complex .f32 r.m.e r.m.f, .complex .f32 r.m.g r.m.h] 41)).cell? ⟨w6.heap.size, 3, none⟩ = some (.complex .f32 r.m.g r.m.h) ∧ (w6.alloc (.cells #[.complex .f32 r.m.a r.m.b, .complex .f32 r.m.c r.m.d, .complex .f32 r.m.e r.m.f, .complex .f32 r.m.g r.m.h] 41)).cell? ⟨g, k * 5 + 1, none⟩ = some (.complex .f32 r.m.a r.m.b) ∧ (w6.alloc (.cells #[.complex .f32 r.m.a r.m.b, .complex .f32 r.m.c r.m.d, .complex .f32 r.m.e r.m.f, .complex .f32 r.m.g r.m.h] 41)).cell? ⟨g, k * 5 + 2, none⟩ = some (.complex .f32 r.m.c r.m.d) ∧ (w6.alloc (.cells #[.complex .f32 r.m.a r.m.b, .complex .f32 r.m.c r.m.d, .complex .f32 r.m.e r.m.f, .complex .f32 r.m.g r.m.h] 41)).cell? ⟨g, k * 5 + 3, none⟩ = some (.complex .f32 r.m.e r.m.f) ∧ (w6.alloc (.cells #[.complex .f32 r.m.a r.m.b, .complex .f32 r.m.c r.m.d, .complex .f32 r.m.e r.m.f, .complex .f32 r.m.g r.m.h] 41)).cell? ⟨g, k * 5 + 4, none⟩ = some (.complex .f32 r.m.g r.m.h) ∧ Calm w5 (w6.alloc (.cells #[.complex .f32 r.m.a r.m.b, .complex .f32 r.m.c r.m.d, .complex .f32 r.m.e r.m.f, .complex .f32 r.m.g r.m.h] 41)) := ⟨z0, z1, z2, z3, c1, c2, c3, c4, HK7.out⟩
            clear Z z0 z1 z2 z3 c0 c1 c2 c3 c4
            go_wp2_with fail
            go_region_held3 (fun w' => w'.cell? ⟨w6.heap.size, 0, none⟩ = some (.complex .f32 r.m.a r.m.b) ∧ w'.cell? ⟨w6.heap.size, 1, none⟩ = some (.complex .f32 r.m.c r.m.d) ∧ w'.cell? ⟨w6.heap.size, 2, none⟩ = some (.complex .f32 r.m.e r.m.f) ∧ w'.cell? ⟨w6.heap.size, 3, none⟩ = some (.complex .f32 r.m.g r.m.h) ∧ w'.cell? ⟨g, k * 5 + 1, none⟩ = some (.complex .f32 r.m.a r.m.b) ∧ w'.cell? ⟨g, k * 5 + 2, none⟩ = some (.complex .f32 r.m.c r.m.d) ∧ w'.cell? ⟨g, k * 5 + 3, none⟩ = some (.complex .f32 r.m.e r.m.f) ∧ w'.cell? ⟨g, k * 5 + 4, none⟩ = some (.complex .f32 r.m.g r.m.h) ∧ Calm w5 w') (first | with_reducible assumption | with_reducible exact at_drew ‹_› | with_reducible exact at_drewN ‹_› | with_reducible exact at_drewN (at_drew ‹_›))
                (first
                | (go_at_call 22; refine Calls.mono (sameTwo_same _ _ _ _ _ _ _ _ _) ?_; rintro e w8 ⟨rfl, C'⟩; have HSx := at_calm C' ‹_›; clear C'))
            have hL := at_done HSx
            go_wp2_with fail
            exact ⟨⟨k + 1, by omega, by go_num, hL⟩, by simp [intOf]; omega⟩
          · have hke : k = rs.length := by omega
            subst hke
            have hcells : ∀ w', Calm w1 w' → FiveAt (fun j => w'.cell? ⟨g, j, none⟩) 0 rs[0] := fun w' C => HR1.out.calm C 0 hpos
            have hfn := tabB_finS HT.out rs[0] (List.getElem_mem hpos)
            generalize rs[0] = r at *
            obtain ⟨c0, c1, c2, c3, c4⟩ := hcells _ (calm_trans HC5.out HK.out)
            have HFn := Lib.hid hfn
            have gl := World.block_lt_of_cell? wr _ c0
            simp only [Nat.zero_mul, Nat.zero_add] at c0 c1 c2 c3 c4
            dsimp only at c0 c1 c2 c3 c4 gl
            clear hcells hfn
            obtain ⟨F, hF, F0, F1⟩ := flatF f
            obtain ⟨n, hn, e1, e2, e3, e4⟩ := flat_any (m := r.m) (f := F) HFn.out F0 F1
            have HEq := Lib.hid (And.intro e1 (And.intro e2 (And.intro e3 e4)))
            have HFl := Lib.hid (flat_row (m := r.m) (w := wr) (.cells #[.complex .f32 r.m.a r.m.b, .complex .f32 r.m.c r.m.d, .complex .f32 r.m.e r.m.f, .complex .f32 r.m.g r.m.h] 41))
            have HIf := Lib.hid (implAt_any (f := F) (cap := 2) (n := 2) HFl.out rfl (by omega) (by omega))
            rw [hn] at HIf
            have HOne := Lib.hid ((Blk.new wr r.m.a r.m.b r.m.c r.m.d r.m.e r.m.f r.m.g r.m.h).alloc (.cells #[.int .i64 10, .complex .f32 r.m.a r.m.b, .complex .f32 r.m.c r.m.d, .complex .f32 r.m.e r.m.f, .complex .f32 r.m.g r.m.h, .int .i64 20, .complex .f32 r.m.a r.m.b, .complex .f32 r.m.c r.m.d, .complex .f32 r.m.e r.m.f, .complex .f32 r.m.g r.m.h] 47))
            have HW := Lib.hid (calm_trans HK.out (calm_trans (calm_new wr (.cells #[.complex .f32 r.m.a r.m.b, .complex .f32 r.m.c r.m.d, .complex .f32 r.m.e r.m.f, .complex .f32 r.m.g r.m.h] 41)) (calm_new _ (.cells #[.int .i64 10, .complex .f32 r.m.a r.m.b, .complex .f32 r.m.c r.m.d, .complex .f32 r.m.e r.m.f, .complex .f32 r.m.g r.m.h, .int .i64 20, .complex .f32 r.m.a r.m.b, .complex .f32 r.m.c r.m.d, .complex .f32 r.m.e r.m.f, .complex .f32 r.m.g r.m.h] 47))))
            clear e1 e2 e3 e4 hn HFl
            unfold scV at HIf
            go_wp2_with fail
            refine HIf.out.mono ?_
            rintro z w6 ⟨rfl, C6⟩
            have HOne7 := Lib.hid ((HOne.out.calm C6).alloc (.cells #[.complex .f32 n.a n.b, .complex .f32 n.c n.d, .complex .f32 n.e n.f, .complex .f32 n.g n.h] 41))
            have HMid7 := Lib.hid (Blk.new w6 n.a n.b n.c n.d n.e n.f n.g n.h)
            have HW7 := Lib.hid (calm_trans (calm_trans HW.out C6) (calm_new w6 (.cells #[.complex .f32 n.a n.b, .complex .f32 n.c n.d, .complex .f32 n.e n.f, .complex .f32 n.g n.h] 41)))
            clear C6 HOne HW HIf c0 c1 c2 c3 c4 gl
            have z0 := HOne7.out.c0
            have z1 := HOne7.out.c1
            have z2 := HOne7.out.c2
            have z3 := HOne7.out.c3
            have zl := HOne7.out.lt
            go_wp2_with fail
            refine (wholeTwo_any _ _ _ _ _ _ _ _ _ _ (by omega) (by omega)).mono ?_
            rintro z w8 ⟨γ, rfl, C8, _⟩
            have HOne8 := Lib.hid (HOne7.out.calm C8)
            have HMid8 := Lib.hid (HMid7.out.calm C8)
            have HW8 := Lib.hid (calm_trans HW7.out C8)
            have HMm8 := Lib.hid (HB5.out.calm HW8.out)
            clear C8 HOne7 HMid7 HW7 z0 z1 z2 z3 zl
            have z0 := HOne8.out.c0
            have z1 := HOne8.out.c1
            have z2 := HOne8.out.c2
            have z3 := HOne8.out.c3
            have zl := HOne8.out.lt
            have y0 := HMid8.out.c0
            have y1 := HMid8.out.c1
            have y2 := HMid8.out.c2
            have y3 := HMid8.out.c3
            have yl := HMid8.out.lt
            have x0 := HMm8.out.c0
            have x1 := HMm8.out.c1
            have x2 := HMm8.out.c2
            have x3 := HMm8.out.c3
            have xl := HMm8.out.lt
            cases γ
            · go_wp2_with fail
              refine (noTwo_zero _).mono ?_
              rintro z wz ⟨rfl, CZ⟩
              have HWz := Lib.hid (calm_trans HC5.out (calm_trans HW8.out CZ))
              clear CZ
              go_wp2_with fail
              go_ret
              exact ⟨rfl, below_calm HB1.out HB1.out.size HWz.out⟩
            · go_wp2_with fail
              refine (equalTwo_of HEq.out.1 HEq.out.2.1 HEq.out.2.2.1 HEq.out.2.2.2 _).mono ?_
              rintro z w9 ⟨rfl, C9⟩
              have HW9 := Lib.hid (calm_trans HW8.out C9)
              have HMm9 := Lib.hid (HMm8.out.calm C9)
              clear C9 x0 x1 x2 x3 xl z0 z1 z2 z3 zl y0 y1 y2 y3 yl
              have x0 := HMm9.out.c0
              have x1 := HMm9.out.c1
              have x2 := HMm9.out.c2
              have x3 := HMm9.out.c3
              have xl := HMm9.out.lt
              go_wp2_with fail
              refine (noTwo_zero _).mono ?_
              rintro z wz ⟨rfl, CZ⟩
              have HWz := Lib.hid (calm_trans HC5.out (calm_trans HW9.out CZ))
              clear CZ
              go_wp2_with fail
              go_ret
              exact ⟨rfl, below_calm HB1.out HB1.out.size HWz.out⟩
    · obtain ⟨_, hoS⟩ := HM.out.resolve_right (by rintro ⟨e, _⟩; cases e)
      go_wp2_with fail
      refine (HTI.out _ HC4.out).mono ?_
      rintro z w5 ⟨rfl, C5⟩
      have HC5 := Lib.hid (calm_trans HC4.out C5)
      have HB5 := Lib.hid (HB4.out.calm C5)
      clear C5 HC4 HB4 HR4
      cases τ
      · exfalso
        have e := HO.out
        unfold scatB at e
        rw [HT.out, hoS] at e
        cases e
      ·
        have HE := Lib.hid (fun k (hk : k < rs.length) => show scatB rs rs[k].f = some rs[k].m from by
          unfold scatB
          rw [HT.out]
          refine scatR_row rs (p := none) hk ?_
          have := HT.out
          unfold tabB at this
          simp only [Bool.and_eq_true] at this
          exact this.1)
        have hpos : 0 < rs.length := (tabB_len HT.out).1
        go_wp2_with fail
        go_loopw [9] (fun kv wr => ∃ k : Nat, k ≤ rs.length ∧ kv = .int .i64 k ∧ Calm w5 wr)
          (fun kv _ => rs.length - (intOf kv).toNat)
        case atStart => exact ⟨0, by omega, rfl, grown_refl _ _⟩
        case round =>
          obtain ⟨k, hk, rfl, C⟩ := hrel
          have HK := Lib.hid C
          clear C
          by_cases hlt : k < rs.length
          · have hcells : ∀ w', Calm w1 w' → FiveAt (fun j => w'.cell? ⟨g, j, none⟩) k rs[k] := fun w' C => HR1.out.calm C k hlt
            have hIk : ∀ w', Calm w1 w' → Calls Try.prog 20 #[.slice (some ⟨g, 0, none⟩) rs.length c, .int .i64 rs[k].f] w' fun z w'' => z = .returned (scV (some rs[k].m)) ∧ Calm w' w'' := fun w' C => by
              have := implAt_any (f := rs[k].f) (cap := c) (HR1.out.calm C) rfl h9 hrc
              rw [HE.out k hlt] at this
              exact this
            generalize rs[k] = r at *
            have HIk := Lib.hid hIk
            have HL := Lib.hid hcells
            clear hIk hcells
            obtain ⟨c0, c1, c2, c3, c4⟩ := HL.out _ (calm_trans HC5.out HK.out)
            have gl := World.block_lt_of_cell? wr _ c0
            dsimp only at c0 c1 c2 c3 c4 gl
            go_wp2_with fail
            refine (HIk.out _ (calm_trans HC5.out HK.out)).mono ?_
            rintro z w6 ⟨rfl, C6⟩
            have HK6 := Lib.hid (calm_trans HK.out C6)
            clear C6 HK c0 c1 c2 c3 c4 gl
            have HK7 := Lib.hid (calm_trans HK6.out (calm_new w6 (.cells #[.complex .f32 r.m.a r.m.b, .complex .f32 r.m.c r.m.d, .complex .f32 r.m.e r.m.f, .complex .f32 r.m.g r.m.h] 41)))
            obtain ⟨c0, c1, c2, c3, c4⟩ := HL.out _ (calm_trans HC5.out HK7.out)
            have gl := World.block_lt_of_cell? _ _ c0
            dsimp only at c0 c1 c2 c3 c4 gl
            have Z := Blk.new w6 r.m.a r.m.b r.m.c r.m.d r.m.e r.m.f r.m.g r.m.h
            have z0 := Z.c0
            have z1 := Z.c1
            have z2 := Z.c2
            have z3 := Z.c3
            have zl := Z.lt
            unfold scV
            have HS0 : (w6.alloc (.cells #[.complex .f32 r.m.a r.m.b, .complex .f32 r.m.c r.m.d, .complex .f32 r.m.e r.m.f, .complex .f32 r.m.g r.m.h] 41)).cell? ⟨w6.heap.size, 0, none⟩ = some (.complex .f32 r.m.a r.m.b) ∧ (w6.alloc (.cells #[.complex .f32 r.m.a r.m.b, .complex .f32 r.m.c r.m.d, .complex .f32 r.m.e r.m.f, .complex .f32 r.m.g r.m.h] 41)).cell? ⟨w6.heap.size, 1, none⟩ = some (.complex .f32 r.m.c r.m.d) ∧ (w6.alloc (.cells #[.complex .f32 r.m.a r.m.b, .complex .f32 r.m.c r.m.d, .complex .f32 r.m.e r.m.f, .complex .f32 r.m.g r.m.h] 41)).cell? ⟨w6.heap.size, 2, none⟩ = some (.complex .f32 r.m.e r.m.f) ∧ (w6.alloc (.cells #[.complex .f32 r.m.a r.m.b, .complex .f32 r.m.c r.m.d, .complex .f32 r.m.e r.m.f, .complex .f32 r.m.g r.m.h] 41)).cell? ⟨w6.heap.size, 3, none⟩ = some (.complex .f32 r.m.g r.m.h) ∧ (w6.alloc (.cells #[.complex .f32 r.m.a r.m.b, .complex .f32 r.m.c r.m.d, .complex .f32 r.m.e r.m.f, .complex .f32 r.m.g r.m.h] 41)).cell? ⟨g, k * 5 + 1, none⟩ = some (.complex .f32 r.m.a r.m.b) ∧ (w6.alloc (.cells #[.complex .f32 r.m.a r.m.b, .complex .f32 r.m.c r.m.d, .complex .f32 r.m.e r.m.f, .complex .f32 r.m.g r.m.h] 41)).cell? ⟨g, k * 5 + 2, none⟩ = some (.complex .f32 r.m.c r.m.d) ∧ (w6.alloc (.cells #[.complex .f32 r.m.a r.m.b, .complex .f32 r.m.c r.m.d, .complex .f32 r.m.e r.m.f, .complex .f32 r.m.g r.m.h] 41)).cell? ⟨g, k * 5 + 3, none⟩ = some (.complex .f32 r.m.e r.m.f) ∧ (w6.alloc (.cells #[.complex .f32 r.m.a r.m.b, .complex .f32 r.m.c r.m.d, .complex .f32 r.m.e r.m.f, .complex .f32 r.m.g r.m.h] 41)).cell? ⟨g, k * 5 + 4, none⟩ = some (.complex .f32 r.m.g r.m.h) ∧ Calm w5 (w6.alloc (.cells #[.complex .f32 r.m.a r.m.b, .complex .f32 r.m.c r.m.d, .complex .f32 r.m.e r.m.f, .complex .f32 r.m.g r.m.h] 41)) := ⟨z0, z1, z2, z3, c1, c2, c3, c4, HK7.out⟩
            clear Z z0 z1 z2 z3 c0 c1 c2 c3 c4
            go_wp2_with fail
            go_region_held3 (fun w' => w'.cell? ⟨w6.heap.size, 0, none⟩ = some (.complex .f32 r.m.a r.m.b) ∧ w'.cell? ⟨w6.heap.size, 1, none⟩ = some (.complex .f32 r.m.c r.m.d) ∧ w'.cell? ⟨w6.heap.size, 2, none⟩ = some (.complex .f32 r.m.e r.m.f) ∧ w'.cell? ⟨w6.heap.size, 3, none⟩ = some (.complex .f32 r.m.g r.m.h) ∧ w'.cell? ⟨g, k * 5 + 1, none⟩ = some (.complex .f32 r.m.a r.m.b) ∧ w'.cell? ⟨g, k * 5 + 2, none⟩ = some (.complex .f32 r.m.c r.m.d) ∧ w'.cell? ⟨g, k * 5 + 3, none⟩ = some (.complex .f32 r.m.e r.m.f) ∧ w'.cell? ⟨g, k * 5 + 4, none⟩ = some (.complex .f32 r.m.g r.m.h) ∧ Calm w5 w') (first | with_reducible assumption | with_reducible exact at_drew ‹_› | with_reducible exact at_drewN ‹_› | with_reducible exact at_drewN (at_drew ‹_›))
                (first
                | (go_at_call 22; refine Calls.mono (sameTwo_same _ _ _ _ _ _ _ _ _) ?_; rintro e w8 ⟨rfl, C'⟩; have HSx := at_calm C' ‹_›; clear C'))
            have hL := at_done HSx
            go_wp2_with fail
            exact ⟨⟨k + 1, by omega, by go_num, hL⟩, by simp [intOf]; omega⟩
          · have hke : k = rs.length := by omega
            subst hke
            have hcells : ∀ w', Calm w1 w' → FiveAt (fun j => w'.cell? ⟨g, j, none⟩) 0 rs[0] := fun w' C => HR1.out.calm C 0 hpos
            have hfn := tabB_finS HT.out rs[0] (List.getElem_mem hpos)
            have hlc : ∀ w', Calm w1 w' → FiveAt (fun j => w'.cell? ⟨g, j, none⟩) (rs.length - 1) (rs[rs.length - 1]'(by omega)) := fun w' C => HR1.out.calm C (rs.length - 1) (by omega)
            have hin : rs[0].f ≤ f ∧ f ≤ (rs[rs.length - 1]'(by omega)).f := by
              obtain ⟨_, h⟩ := scatB_in (HO.out.trans hoS)
              exact h
            have HTwo : Hid (∀ w, Calls Try.prog 26 #[.agg #[.complex .f32 m.a m.b, .complex .f32 m.c m.d, .complex .f32 m.e m.f, .complex .f32 m.g m.h]] w fun x w' => x = .returned (.bool true) ∧ Calm w w') := Lib.hid (by
              intro w
              have e := implTwoOk_any m.a m.b m.c m.d m.e m.f m.g m.h w
              have hs := HO.out.trans hoS
              unfold scatB at hs
              rw [HT.out] at hs
              rw [scatR_fin f rs (tabB_finS HT.out) hs] at e
              exact e)
            generalize (rs[rs.length - 1]'(by omega)) = l at *
            generalize rs[0] = r at *
            obtain ⟨c0, c1, c2, c3, c4⟩ := hcells _ (calm_trans HC5.out HK.out)
            obtain ⟨d0, _⟩ := hlc _ (calm_trans HC5.out HK.out)
            have HFn := Lib.hid hfn
            have gl := World.block_lt_of_cell? wr _ c0
            simp only [Nat.zero_mul, Nat.zero_add] at c0 c1 c2 c3 c4
            dsimp only at c0 c1 c2 c3 c4 d0 gl
            have g1 : decide (f < r.f) = false := by simpa using hin.1
            have g2 : decide (l.f < f) = false := by simpa using hin.2
            have ej : IntKind.i64.wrap ((rs.length : Int) - 1) = ((rs.length - 1 : Nat) : Int) := by rw [IntWalk.i64_in _ (by omega)]; omega
            have ej2 : wrap64 ((rs.length : Int) - 1) = ((rs.length - 1 : Nat) : Int) := by rw [IntWalk.wrap64_in _ (by omega)]; omega
            have ei : ((rs.length - 1 : Nat) : Int) < (rs.length : Int) := by omega
            clear hcells hfn hlc
            obtain ⟨F, hF, F0, F1⟩ := flatF f
            obtain ⟨n, hn, e1, e2, e3, e4⟩ := flat_any (m := r.m) (f := F) HFn.out F0 F1
            have HEq := Lib.hid (And.intro e1 (And.intro e2 (And.intro e3 e4)))
            have HFl := Lib.hid (flat_row (m := r.m) (w := wr) (.cells #[.complex .f32 r.m.a r.m.b, .complex .f32 r.m.c r.m.d, .complex .f32 r.m.e r.m.f, .complex .f32 r.m.g r.m.h] 41))
            have HIf := Lib.hid (implAt_any (f := F) (cap := 2) (n := 2) HFl.out rfl (by omega) (by omega))
            rw [hn] at HIf
            have HOne := Lib.hid ((Blk.new wr r.m.a r.m.b r.m.c r.m.d r.m.e r.m.f r.m.g r.m.h).alloc (.cells #[.int .i64 10, .complex .f32 r.m.a r.m.b, .complex .f32 r.m.c r.m.d, .complex .f32 r.m.e r.m.f, .complex .f32 r.m.g r.m.h, .int .i64 20, .complex .f32 r.m.a r.m.b, .complex .f32 r.m.c r.m.d, .complex .f32 r.m.e r.m.f, .complex .f32 r.m.g r.m.h] 47))
            have HW := Lib.hid (calm_trans HK.out (calm_trans (calm_new wr (.cells #[.complex .f32 r.m.a r.m.b, .complex .f32 r.m.c r.m.d, .complex .f32 r.m.e r.m.f, .complex .f32 r.m.g r.m.h] 41)) (calm_new _ (.cells #[.int .i64 10, .complex .f32 r.m.a r.m.b, .complex .f32 r.m.c r.m.d, .complex .f32 r.m.e r.m.f, .complex .f32 r.m.g r.m.h, .int .i64 20, .complex .f32 r.m.a r.m.b, .complex .f32 r.m.c r.m.d, .complex .f32 r.m.e r.m.f, .complex .f32 r.m.g r.m.h] 47))))
            clear e1 e2 e3 e4 hn HFl
            unfold scV at HIf
            go_wp2_with fail
            refine HIf.out.mono ?_
            rintro z w6 ⟨rfl, C6⟩
            have HOne7 := Lib.hid ((HOne.out.calm C6).alloc (.cells #[.complex .f32 n.a n.b, .complex .f32 n.c n.d, .complex .f32 n.e n.f, .complex .f32 n.g n.h] 41))
            have HMid7 := Lib.hid (Blk.new w6 n.a n.b n.c n.d n.e n.f n.g n.h)
            have HW7 := Lib.hid (calm_trans (calm_trans HW.out C6) (calm_new w6 (.cells #[.complex .f32 n.a n.b, .complex .f32 n.c n.d, .complex .f32 n.e n.f, .complex .f32 n.g n.h] 41)))
            clear C6 HOne HW HIf c0 c1 c2 c3 c4 gl
            have z0 := HOne7.out.c0
            have z1 := HOne7.out.c1
            have z2 := HOne7.out.c2
            have z3 := HOne7.out.c3
            have zl := HOne7.out.lt
            go_wp2_with fail
            refine (wholeTwo_any _ _ _ _ _ _ _ _ _ _ (by omega) (by omega)).mono ?_
            rintro z w8 ⟨γ, rfl, C8, _⟩
            have HOne8 := Lib.hid (HOne7.out.calm C8)
            have HMid8 := Lib.hid (HMid7.out.calm C8)
            have HW8 := Lib.hid (calm_trans HW7.out C8)
            have HMm8 := Lib.hid (HB5.out.calm HW8.out)
            clear C8 HOne7 HMid7 HW7 z0 z1 z2 z3 zl
            have z0 := HOne8.out.c0
            have z1 := HOne8.out.c1
            have z2 := HOne8.out.c2
            have z3 := HOne8.out.c3
            have zl := HOne8.out.lt
            have y0 := HMid8.out.c0
            have y1 := HMid8.out.c1
            have y2 := HMid8.out.c2
            have y3 := HMid8.out.c3
            have yl := HMid8.out.lt
            have x0 := HMm8.out.c0
            have x1 := HMm8.out.c1
            have x2 := HMm8.out.c2
            have x3 := HMm8.out.c3
            have xl := HMm8.out.lt
            cases γ
            · go_wp2_with fail
              refine (HTwo.out _).mono ?_
              rintro z wz ⟨rfl, CZ⟩
              have HWz := Lib.hid (calm_trans HC5.out (calm_trans HW8.out CZ))
              clear CZ
              go_wp2_with fail
              go_ret
              exact ⟨rfl, below_calm HB1.out HB1.out.size HWz.out⟩
            · go_wp2_with fail
              refine (equalTwo_of HEq.out.1 HEq.out.2.1 HEq.out.2.2.1 HEq.out.2.2.2 _).mono ?_
              rintro z w9 ⟨rfl, C9⟩
              have HW9 := Lib.hid (calm_trans HW8.out C9)
              have HMm9 := Lib.hid (HMm8.out.calm C9)
              clear C9 x0 x1 x2 x3 xl z0 z1 z2 z3 zl y0 y1 y2 y3 yl
              have x0 := HMm9.out.c0
              have x1 := HMm9.out.c1
              have x2 := HMm9.out.c2
              have x3 := HMm9.out.c3
              have xl := HMm9.out.lt
              go_wp2_with fail
              refine (HTwo.out _).mono ?_
              rintro z wz ⟨rfl, CZ⟩
              have HWz := Lib.hid (calm_trans HC5.out (calm_trans HW9.out CZ))
              clear CZ
              go_wp2_with fail
              go_ret
              exact ⟨rfl, below_calm HB1.out HB1.out.size HWz.out⟩

end Go.Proofs.Ythbebgnjidaokaa
