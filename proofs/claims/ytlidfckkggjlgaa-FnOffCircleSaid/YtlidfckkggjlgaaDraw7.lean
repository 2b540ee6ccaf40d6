/-
  The draw of a number and a circle.
-/
import Derived.Test.YtlidfckkggjlgaaRefC
import Derived.Test.YtlidfckkggjlgaaCir2
namespace Go.Proofs.Ytlidfckkggjlgaa
open Go.RowKit Fl
open Ieee

theorem Rd.calm {w w' : World} {b : Nat} {a : Option Addr} {len cap k : Nat} (h : Rd w b a len cap k) (C : Calm w w') : Rd w' b a len cap k := by
  have hlt := h.lt
  obtain ⟨T, hb⟩ := h.blk
  refine ⟨⟨T, by rw [C.block b hlt (fun e => by cases e)]; exact hb⟩, h.lim, ?_⟩
  intro i hi
  obtain ⟨ab, off, x, h1, h2, h3, h4, h5⟩ := h.data i hi
  refine ⟨ab, off, x, h1, h2, h3, h4, ?_⟩
  rw [World.cell?_of_block (w := w) (C.block ab (by omega) (fun e => by cases e))]
  exact h5

theorem Cir.grown {w w' : World} {B a b r s : Nat} (H : Cir w B a b r) (G : w.grownBy w' (some s)) (hs : B ≠ s) : Cir w' B a b r := by
  unfold Cir
  rw [G.block B H.lt (fun e => by injection e with e; exact hs e)]
  exact H
theorem Cir.other {w : World} {B a b r : Nat} (H : Cir w B a b r) {p : Addr} (hp : B ≠ p.block) (v : Value) : Cir (w.setCell p v) B a b r := by
  unfold Cir
  rw [Below.heap_setCell _ _ _ _ hp]
  exact H
theorem Cir.s0 {w : World} {B a b r : Nat} (H : Cir w B a b r) (x y : Nat) : Cir (w.setCell ⟨B, 0, none⟩ (.complex .f32 x y)) B x y r := by
  unfold Cir at *
  simp [World.setCell, Array.getElem?_modify, H]

theorem Cir.drew {w : World} {B a b r : Nat} (H : Cir w B a b r) : Cir w.drew B a b r := H
theorem below_drew7 {B : Nat} {a w : World} (h : Below B a w) : Below B a w.drew := ⟨h.os, h.tape, h.output, h.size, h.block⟩

/-- What holds while a circle is drawn: the reader, the result's block and the circle's. -/
def St (w wx : World) (b : Nat) (a : Option Addr) (len cap k A B m1 m2 r : Nat) : Prop :=
  Rd wx b a len cap k ∧ Below w.heap.size w wx ∧ Cir wx A 0 0 0 ∧ Cir wx B m1 m2 r ∧ A < b ∧ b < B ∧ w.heap.size ≤ A ∧ fin .f32 r = true

theorem St.rd {w wx : World} {b : Nat} {a : Option Addr} {len cap k A B m1 m2 r : Nat} (S : St w wx b a len cap k A B m1 m2 r) : Rd wx b a len cap k := S.1
theorem St.low {w wx : World} {b : Nat} {a : Option Addr} {len cap k A B m1 m2 r : Nat} (S : St w wx b a len cap k A B m1 m2 r) : Below w.heap.size w wx := S.2.1
theorem St.ca {w wx : World} {b : Nat} {a : Option Addr} {len cap k A B m1 m2 r : Nat} (S : St w wx b a len cap k A B m1 m2 r) : Cir wx A 0 0 0 := S.2.2.1
theorem St.cb {w wx : World} {b : Nat} {a : Option Addr} {len cap k A B m1 m2 r : Nat} (S : St w wx b a len cap k A B m1 m2 r) : Cir wx B m1 m2 r := S.2.2.2.1
theorem St.le {w wx : World} {b : Nat} {a : Option Addr} {len cap k A B m1 m2 r : Nat} (S : St w wx b a len cap k A B m1 m2 r) : A < b ∧ b < B ∧ w.heap.size ≤ A := ⟨S.2.2.2.2.1, S.2.2.2.2.2.1, S.2.2.2.2.2.2.1⟩
theorem St.fin {w wx : World} {b : Nat} {a : Option Addr} {len cap k A B m1 m2 r : Nat} (S : St w wx b a len cap k A B m1 m2 r) : fin .f32 r = true := S.2.2.2.2.2.2.2

theorem St.picked {w wx : World} {b : Nat} {a : Option Addr} {len cap k A B m1 m2 r : Nat} (S : St w wx b a len cap k A B m1 m2 r) (m : Nat) : St w ((wx.setCell ⟨b, 1, none⟩ (.int .i64 (k + 1 : Nat))).drewN m) b a len cap (k + 1) A B m1 m2 r := by
  obtain ⟨R, L, HA, HB, n1, n2, n3, n4⟩ := S
  exact ⟨R.step m, below_drewN (L.setCell (p := ⟨b, 1, none⟩) (show w.heap.size ≤ b by omega) _) m, (HA.other (p := ⟨b, 1, none⟩) (show A ≠ b by omega) _).drewN m, (HB.other (p := ⟨b, 1, none⟩) (show B ≠ b by omega) _).drewN m, n1, n2, n3, n4⟩
theorem St.grown {w wx wy : World} {b : Nat} {a : Option Addr} {len cap k k' A B m1 m2 r : Nat} (S : St w wx b a len cap k A B m1 m2 r) (R : Rd wy b a len cap k') (G : wx.grownBy wy (some b)) : St w wy b a len cap k' A B m1 m2 r := by
  obtain ⟨_, L, HA, HB, n1, n2, n3, n4⟩ := S
  exact ⟨R, below_drawn L (show w.heap.size ≤ b by omega) L.size G, HA.grown G (show A ≠ b by omega), HB.grown G (show B ≠ b by omega), n1, n2, n3, n4⟩
theorem St.calm {w wx wy : World} {b : Nat} {a : Option Addr} {len cap k A B m1 m2 r : Nat} (S : St w wx b a len cap k A B m1 m2 r) (C : Calm wx wy) : St w wy b a len cap k A B m1 m2 r := by
  obtain ⟨R, L, HA, HB, n1, n2, n3, n4⟩ := S
  exact ⟨R.calm C, below_calm L L.size C, HA.calm C, HB.calm C, n1, n2, n3, n4⟩
theorem Rd.away {w : World} {b : Nat} {a : Option Addr} {len cap k : Nat} (h : Rd w b a len cap k) {B : Nat} (hB : b < B) (i : Nat) (v : Value) : Rd (w.setCell ⟨B, i, none⟩ v) b a len cap k := by
  obtain ⟨T, hb⟩ := h.blk
  refine ⟨⟨T, by rw [Below.heap_setCell _ _ _ _ (show b ≠ B by omega)]; exact hb⟩, h.lim, ?_⟩
  intro j hj
  obtain ⟨ab, off, x, h1, h2, h3, h4, h5⟩ := h.data j hj
  refine ⟨ab, off, x, h1, h2, h3, h4, ?_⟩
  rw [World.cell?_of_block (w := w) (Below.heap_setCell _ _ _ _ (show ab ≠ B by omega))]
  exact h5

theorem St.set1 {w wx : World} {b : Nat} {a : Option Addr} {len cap k A B m1 m2 r : Nat} (S : St w wx b a len cap k A B m1 m2 r) (x y : Nat) : St w (wx.setCell ⟨B, 0, none⟩ (.complex .f32 x y)) b a len cap k A B x y r := by
  obtain ⟨R, L, HA, HB, n1, n2, n3, n4⟩ := S
  exact ⟨R.away n2 0 _, L.setCell (p := ⟨B, 0, none⟩) (show w.heap.size ≤ B by omega) _, HA.other (p := ⟨B, 0, none⟩) (show A ≠ B by omega) _, HB.s0 x y, n1, n2, n3, n4⟩
theorem St.set2 {w wx : World} {b : Nat} {a : Option Addr} {len cap k A B m1 m2 r : Nat} (S : St w wx b a len cap k A B m1 m2 r) (x y z : Nat) (hz : Fl.fin .f32 z = true) : St w ((wx.setCell ⟨B, 0, none⟩ (.complex .f32 x y)).setCell ⟨B, 1, none⟩ (.float .f32 z)) b a len cap k A B x y z := by
  obtain ⟨R, L, HA, HB, n1, n2, n3, n4⟩ := S
  exact ⟨(R.away n2 0 _).away n2 1 _, (L.setCell (p := ⟨B, 0, none⟩) (show w.heap.size ≤ B by omega) _).setCell (p := ⟨B, 1, none⟩) (show w.heap.size ≤ B by omega) _, (HA.other (p := ⟨B, 0, none⟩) (show A ≠ B by omega) _).other (p := ⟨B, 1, none⟩) (show A ≠ B by omega) _, HB.set2 x y z, n1, n2, n3, hz⟩

/-- What is drawn. -/
def OffOk (v : Value) : Prop := ∃ g1 g2 m1 m2 r : Nat, v = .tuple #[.complex .f32 g1 g2, cirV m1 m2 r] ∧ fin .f32 r = true

theorem res_form (m : Int) : ∃ a b r β, resV m = .tuple #[cirV a b r, .bool β] ∧ fin .f32 a = true ∧ fin .f32 b = true ∧ fin .f32 r = true := by
  unfold resV
  cases hm : (decide (0 ≤ m) && decide (m ≤ 9999999))
  · exact ⟨0, 0, 0, false, rfl, by decide, by decide, by decide⟩
  · simp only [Bool.and_eq_true, decide_eq_true_eq] at hm
    obtain ⟨_, _, _, _, _, f2, _, f3⟩ := cir_spec hm.1 hm.2
    exact ⟨_, _, _, true, rfl, f2, by decide, f3⟩
theorem rea_form (m : Int) : ∃ a b r β, reaV m = .tuple #[cirV a b r, .bool β] ∧ fin .f32 a = true ∧ fin .f32 b = true ∧ fin .f32 r = true := by
  unfold reaV
  cases hm : (okM m && decide (m ≠ 0))
  · exact ⟨0, 0, 0, false, rfl, by decide, by decide, by decide⟩
  · simp only [Bool.and_eq_true, decide_eq_true_eq] at hm
    obtain ⟨n1, n2⟩ := tN_spec hm.1 hm.2
    refine ⟨_, _, _, true, rfl, by decide, n2, ?_⟩
    unfold tA
    split
    · exact fin_num.2 (neg_spec .f32 (Format.div_lt _ n1) (fin_num.1 n2)).1
    · exact n2

theorem results_num_cir {fn : Func} {p u : Tmp} (hr : fn.results = #[.tmp u, .cell p 38]) (tmps : Array Value) {w : World} {A a b r : Nat}
    (hp : tmps.getD p undef = .pointer (some ⟨A, 0, none⟩)) (H : Cir w A a b r) :
    (results fn tmps).run Try.prog w = .ok (.tuple #[tmps.getD u undef, cirV a b r]) w := by
  have hp' : tmps[p]?.getD undef = .pointer (some ⟨A, 0, none⟩) := by simpa using hp
  have l1 := run_loadVar_row (P := Try.prog) w A 38 38 _ _ _ H Try.underlying38 rfl (by kernel_rfl)
  simp [results, hr, hp', asAddr, l1]

set_option maxHeartbeats 4000000 in
theorem drawOffCircle_any {a : Option Addr} {len cap : Nat} {zs : List Int} {w : World} (h : IsRow .u8 w a len cap zs) :
    Calls Try.prog 37 #[.slice a len cap] w (Got OffOk w) := by
  go_enter Try.func37, Try.ntmps37
  go_wp2_with fail
  refine (open_any (h.alloc _)).mono ?_
  rintro e w1 ⟨b, a1, len1, cap1, rfl, R1, hb, B1⟩
  have hs : (w.alloc (.cells #[.complex .f32 0 0, .float .f32 0] 38)).heap.size = w.heap.size + 1 := by simp
  rw [hs] at hb B1
  have A1 : Cir w1 w.heap.size 0 0 0 := by
    unfold Cir
    rw [B1.block _ (by omega)]
    exact heap_alloc_new w _
  have L1 : Below w.heap.size w w1 := (((Below.refl w.heap.size w).alloc (Nat.le_refl _) _)).trans (B1.mono (B' := w.heap.size) (by omega))
  clear B1 hs h
  go_wp2_with fail
  refine (pick_any R1 (by omega) (by omega) (by omega)).mono ?_
  rintro e w2 ⟨p, m2, p0, p1, rfl, hw2⟩
  have R2 : Rd w2 b a1 len1 cap1 (0 + 1) := by rw [hw2]; exact R1.step m2
  have A2 : Cir w2 w.heap.size 0 0 0 := by rw [hw2]; exact (A1.other (p := ⟨b, 1, none⟩) (show w.heap.size ≠ b by omega) _).drewN m2
  have L2 : Below w.heap.size w w2 := by rw [hw2]; exact below_drewN (L1.setCell (p := ⟨b, 1, none⟩) (show w.heap.size ≤ b by omega) _) m2
  clear hw2 R1 A1 L1
  obtain ⟨c1, c2, cr, β, hv, _, _, fr⟩ := res_form (p * 100)
  have HV := Lib.hid hv
  clear hv
  go_wp2_with fail
  refine (specResistance_any _ _).mono ?_
  rw [HV.out]
  rintro e w3 ⟨rfl, C⟩
  have hlt : b < w3.heap.size := (R2.calm C).lt
  have S3 : St w (w3.alloc (.cells #[.complex .f32 c1 c2, .float .f32 cr] 38)) b a1 len1 cap1 (0 + 1) w.heap.size w3.heap.size c1 c2 cr :=
    ⟨(R2.calm C).alloc _, (below_calm L2 L2.size C).alloc (below_calm L2 L2.size C).size _, (A2.calm C).alloc _, Cir.new w3 c1 c2 cr, by omega, hlt, Nat.le_refl _, fr⟩
  clear C R2 A2 L2 HV fr hb
  go_wp2_with fail
  generalize w3.alloc (.cells #[.complex .f32 c1 c2, .float .f32 cr] 38) = v0 at S3 ⊢
  generalize w3.heap.size = B at S3 ⊢
  clear hlt w3
  have hAB := S3.le
  refine (pick_any S3.rd (by omega) (by omega) (by omega)).mono ?_
  rintro e w4 ⟨q, m3, q0, q1, rfl, hw⟩
  have S7 := S3.picked m3
  rw [← hw] at S7
  clear hw S3
  have hq : q = 0 ∨ q = 1 := by omega
  rcases hq with rfl | rfl
  all_goals go_wp2_with fail
  all_goals try (
    refine (pick_any S7.rd (by omega) (by omega) (by omega)).mono ?_
    rintro e w5 ⟨p', m4, r0, r1, rfl, hw⟩
    replace S7 := S7.picked m4
    rw [← hw] at S7
    clear hw
    obtain ⟨t1, t2, tr, γ, hv', _, _, ft⟩ := rea_form (p' * 100 + 100)
    have HV := Lib.hid hv'
    clear hv'
    go_wp2_with fail
    refine (specReactance_any _ _).mono ?_
    rw [HV.out]
    rintro e w6 ⟨rfl, C⟩
    replace S7 := S7.calm C
    have c0 := S7.cb.c0
    have c1 := S7.cb.c1
    have f0 := S7.cb.fr 0
    have f1 := S7.cb.fr 1
    clear C HV
    go_wp2_with fail
    replace S7 := S7.set2 t1 t2 tr ft
    clear c0 c1 f0 f1
    generalize (w6.setCell ⟨B, 0, none⟩ (.complex .f32 t1 t2)).setCell ⟨B, 1, none⟩ (.float .f32 tr) = v1 at S7 ⊢)
  all_goals
    refine (odd_any S7.rd (by omega) (by omega) (by omega)).mono ?_
    rintro e w7 ⟨_, k7, ⟨β', rfl, _⟩, rfl, hk7, R7, G7⟩
    replace S7 := S7.grown R7 G7
    clear R7 G7
    cases β'
    all_goals go_wp2_with fail
    all_goals try (
      refine (num_any S7.rd (by omega) (by omega) (by omega)).mono ?_
      rintro e w8 ⟨_, k8, ⟨x8, y8, _, _, rfl, _⟩, rfl, hk8, R8, G8⟩
      replace S7 := S7.grown R8 G8
      have c0 := S7.cb.c0
      have f0 := S7.cb.fr 0
      clear R8 G8
      go_wp2_with fail
      replace S7 := S7.set1 x8 y8
      clear c0 f0
      generalize w8.setCell ⟨B, 0, none⟩ (.complex .f32 x8 y8) = v2 at S7 ⊢)
    all_goals
      refine (load_any S7.rd (by omega) (by omega) (by omega)).mono ?_
      rintro e w9 ⟨v9, k9, hl9, rfl, hk9, R9, G9⟩
      replace S7 := S7.grown R9 G9
      clear R9 G9
      obtain ⟨x9, y9, rfl⟩ : ∃ x y : Nat, v9 = .complex .f32 x y := by
        rcases hl9 with ⟨re, im, rfl, _⟩ | ⟨x, y, _, _, rfl, _⟩
        · exact ⟨_, _, rfl⟩
        · exact ⟨_, _, rfl⟩
      obtain ⟨ge, gf, δ, hI⟩ := refI_of hl9 (.inl (.inl rfl))
      have HI := Lib.hid hI
      clear hI hl9
      go_wp2_with fail
      refine (specReflection_of HI.out _).mono ?_
      obtain ⟨u1, u2, δ', hu⟩ : ∃ u1 u2 δ', numV δ ge gf = .tuple #[.complex .f32 u1 u2, .bool δ'] := by
        cases δ
        · exact ⟨_, _, _, rfl⟩
        · exact ⟨_, _, _, rfl⟩
      have HU := Lib.hid hu
      clear hu
      rw [HU.out]
      rintro e w10 ⟨rfl, C⟩
      replace S7 := S7.calm C
      clear C HI HU
      go_wp2_with fail
      refine (odd_any S7.rd (by omega) (by omega) (by omega)).mono ?_
      rintro e w11 ⟨_, k11, ⟨β'', rfl, _⟩, rfl, hk11, R11, G11⟩
      replace S7 := S7.grown R11 G11
      clear R11 G11
      cases β''
      all_goals go_wp2_with fail
      all_goals try (
        refine (num_any S7.rd (by omega) (by omega) (by omega)).mono ?_
        rintro e w12 ⟨_, k12, ⟨x12, y12, _, _, rfl, _⟩, rfl, hk12, R12, G12⟩
        replace S7 := S7.grown R12 G12
        clear R12 G12
        have c0 := S7.cb.c0
        have c1 := S7.cb.c1
        have d0 := S7.ca.c0
        have d1 := S7.ca.c1
        have f0 := S7.ca.fr 0
        have f1 := S7.ca.fr 1
        go_wp2_with fail)
      all_goals
        have c0 := S7.cb.c0
        have c1 := S7.cb.c1
        have d0 := S7.ca.c0
        have d1 := S7.ca.c1
        have f0 := S7.ca.fr 0
        have f1 := S7.ca.fr 1
        have hne := S7.ca.lt
        have hlt := S7.cb.lt
        have HS := Lib.hid S7
        clear S7
        go_region
        go_wp2_with fail
        refine bodyPost_ret (results_num_cir rfl _ rfl (Cir.drew (HS.out.ca.set2 _ _ _))) rfl ?_
        exact ⟨_, ⟨_, _, _, _, _, rfl, HS.out.fin⟩, rfl, below_drew7 ((HS.out.low.setCell (p := ⟨w.heap.size, 0, none⟩) (Nat.le_refl _) _).setCell (p := ⟨w.heap.size, 1, none⟩) (Nat.le_refl _) _)⟩

end Go.Proofs.Ytlidfckkggjlgaa
