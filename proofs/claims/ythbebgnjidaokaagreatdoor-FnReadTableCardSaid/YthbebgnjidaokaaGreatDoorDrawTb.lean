/-
  The draw of a table.
-/
import Derived.Test.YthbebgnjidaokaaGreatDoorScatE
import Derived.Test.YthbebgnjidaokaaGreatDoorTbl
namespace Go.Proofs.YthbebgnjidaokaaGreatDoor
open Go.RowKit Fl

theorem Tryz.infoRow : (Tryz.prog.info? 34).map (fun i => (i.zero, i.size, i.bytes)) = some (some (.agg #[.int .i64 0, .complex .f32 0 0, .complex .f32 0 0, .complex .f32 0 0, .complex .f32 0 0]), 5, 40) := by kernel_rfl

theorem milliV_is (p q : Int) : ∃ x y, milliV p q = .complex .f32 x y := by
  unfold milliV
  split
  · exact ⟨_, _, rfl⟩
  · exact ⟨_, _, rfl⟩

theorem grown_over {w wr wx : World} {b : Nat} {o : Option Nat} (G : w.grownBy wr (some b)) (H : wr.grownBy wx o) (ho : ∀ g, o = some g → w.heap.size ≤ g) : w.grownBy wx (some b) := by
  refine ⟨H.os.trans G.os, H.tape.trans G.tape, H.output.trans G.output, Nat.le_trans G.size H.size, fun k hk hne => ?_⟩
  have hkr : k < wr.heap.size := Nat.lt_of_lt_of_le hk G.size
  rw [H.block k hkr (fun e => by have := ho k e.symm; omega)]
  exact G.block k hk hne

/-- What the draw of a table holds: the rows so far. -/
structure TbHold (w wr : World) (b : Nat) (v : Value) (rs : List RowW) : Prop where
  own : wr.ownsRow w.heap.size 34 5 v rs.length (cells5 rs)
  nn : v ≠ .slice none 0 0
  g : w.grownBy wr (some b)
  bb : b < w.heap.size
theorem TbHold.grown {w wr wx : World} {b : Nat} {v : Value} {rs : List RowW} (H : TbHold w wr b v rs) (G : wr.grownBy wx (some b)) : TbHold w wx b v rs :=
  ⟨H.own.kept G (.inr (by intro e; have := (H.own.lt _ e).1; have := H.bb; omega)), H.nn, Lib.grownBy_trans H.g G, H.bb⟩
theorem TbHold.alloc {w wr : World} {b : Nat} {v : Value} {rs : List RowW} (H : TbHold w wr b v rs) (o : Obj) : TbHold w (wr.alloc o) b v rs := H.grown (World.grownBy_alloc wr o _)
theorem TbHold.calm {w wr wx : World} {b : Nat} {v : Value} {rs : List RowW} (H : TbHold w wr b v rs) (C : Calm wr wx) : TbHold w wx b v rs := H.grown (calm_rowE C)
theorem TbHold.app {w wr wx : World} {b : Nat} {v v' : Value} {rs : List RowW} {r : RowW} (H : TbHold w wr b v rs) (O : wx.ownsRow w.heap.size 34 5 v' (rs.length + 1) (cells5 rs ++ r.cells)) (G : wr.grownBy wx v.ownBlock) (hn : v' ≠ .slice none 0 0) : TbHold w wx b v' (rs ++ [r]) :=
  ⟨by rw [cells5_add, List.length_append]; exact O, hn, grown_over H.g G (fun g e => (H.own.lt g e).1), H.bb⟩
theorem At.setAtT {w : World} {S : Nat} {cs : Array Value} {T : TypeId} (H : At w S (.cells cs T)) (i : Nat) (v : Value) : At (w.setCell ⟨S, i, none⟩ v) S (.cells (cs.setIfInBounds i v) T) := by
  unfold At at *
  simp [World.setCell, Array.getElem?_modify, H]
theorem TbHold.free {w wr : World} {b : Nat} {v : Value} {rs : List RowW} (H : TbHold w wr b v rs) {X : Nat} (hX : wr.heap.size ≤ X) : v.ownBlock ≠ some X := by
  intro h
  have := (H.own.lt X h).2
  omega
theorem TbHold.set {w wr : World} {b : Nat} {v : Value} {rs : List RowW} (H : TbHold w wr b v rs) {X : Nat} (hX : w.heap.size ≤ X) (hv : v.ownBlock ≠ some X) (_hb : b ≠ X) (i : Nat) (u : Value) : TbHold w (wr.setCell ⟨X, i, none⟩ u) b v rs := by
  have G : wr.grownBy (wr.setCell ⟨X, i, none⟩ u) (some X) := Lib.grownBy_setB (grown_refl _ _) i _
  exact ⟨H.own.kept G (.inr hv), H.nn, grown_over H.g G (fun g e => by injection e with e; omega), H.bb⟩
theorem Rd.keptT {w w' : World} {b g : Nat} {a : Option Addr} {len cap k : Nat} (h : Rd w b a len cap k) (G : w.grownBy w' (some g)) (hg : b < g) : Rd w' b a len cap k := by
  have hlt := h.lt
  obtain ⟨T, hb⟩ := h.blk
  refine ⟨⟨T, by rw [G.block b hlt (fun e => by injection e with e; omega)]; exact hb⟩, h.lim, ?_⟩
  intro i hi
  obtain ⟨ab, off, x, h1, h2, h3, h4, h5⟩ := h.data i hi
  refine ⟨ab, off, x, h1, h2, h3, h4, ?_⟩
  rw [World.cell?_of_block (w := w) (G.block ab (by omega) (fun e => by injection e with e; omega))]
  exact h5
theorem TbHold.rd {w wr wx : World} {b : Nat} {v : Value} {rs : List RowW} {a : Option Addr} {len cap k : Nat} (H : TbHold w wr b v rs) (R : Rd wr b a len cap k) (G : wr.grownBy wx v.ownBlock) : Rd wx b a len cap k := by
  cases he : v.ownBlock with
  | none =>
    rw [he] at G
    exact R.calmE G
  | some g =>
    rw [he] at G
    have := (H.own.lt g he).1
    exact R.keptT G (by have := H.bb; omega)

theorem at_newsT {w : World} {g : Nat} {cs : List Value} {T : TypeId} (H : At w g (.cells cs.toArray T)) : ∀ j u, cs[j]? = some u → w.cell? ((⟨g, 0, none⟩ : Addr).add j) = some u := by
  intro j u hu
  have e : (⟨g, 0, none⟩ : Addr).add j = ⟨g, j, none⟩ := by
    simp [Addr.add]
    try omega
  rw [e]
  exact H.cell (by simpa using hu)

theorem numOk_is {n : Int} {v : Value} (h : NumOk n v) : ∃ x y, v = .complex .f32 x y := by
  obtain ⟨x, y, _, _, rfl, _⟩ := h
  exact ⟨x, y, rfl⟩
theorem own_set {w : World} {base g n cap : Nat} {e : TypeId} {size : Nat} {xs : List Value} (H : w.ownsRow base e size (.slice (some ⟨g, 0, none⟩) n cap) n xs) (i : Nat) (u : Value) : (w.setCell ⟨g, i, none⟩ u).ownsRow base e size (.slice (some ⟨g, 0, none⟩) n cap) n (xs.set i u) := by
  refine ⟨by rw [List.length_set]; exact H.1, ?_⟩
  rcases H.2 with ⟨h, _⟩ | ⟨g', cap', cur, hv, hb, hh, h1, h2, h3, h4⟩
  · cases h
  · injection hv with hv _ hc
    injection hv with hv
    injection hv with hg _ _
    subst hg hc
    refine .inr ⟨g, cap, cur.setIfInBounds i u, rfl, hb, ?_, h1, h2, by simp [h3], ?_⟩
    · have A : At w g (.cells cur e) := hh
      exact A.setAtT i u
    · rw [← h4]
      simp [List.take_set]
theorem own_cells {w : World} {base g n cap : Nat} {e : TypeId} {size : Nat} {xs : List Value} (H : w.ownsRow base e size (.slice (some ⟨g, 0, none⟩) n cap) n xs) : (∀ i, i < n * size → ∃ u, w.cell? ⟨g, i, none⟩ = some u) ∧ (∀ i, w.frozen? ⟨g, i, none⟩ = false) ∧ g < w.heap.size ∧ base ≤ g ∧ n ≤ cap := by
  rcases H.2 with ⟨h, _⟩ | ⟨g', cap', cur, hv, hb, hh, h1, h2, h3, h4⟩
  · cases h
  · injection hv with hv _ hc
    injection hv with hv
    injection hv with hg _ _
    subst hg hc
    have A : At w g (.cells cur e) := hh
    refine ⟨fun i hi => ?_, A.fr, A.lt, hb, h1⟩
    have : i < cur.size := by
      rw [h3]
      exact Nat.lt_of_lt_of_le hi (Nat.mul_le_mul_right _ h1)
    exact ⟨_, A.cell (Array.getElem?_eq_getElem this)⟩
theorem own_formT {w : World} {base : Nat} {e : TypeId} {size : Nat} {v : Value} {n : Nat} {xs : List Value} (h : w.ownsRow base e size v n xs) (hv : v ≠ .slice none 0 0) : ∃ g cap, v = .slice (some ⟨g, 0, none⟩) n cap := by
  rcases h.2 with ⟨h, _⟩ | ⟨g, cap, cur, h, hb, _⟩
  · exact absurd h hv
  · exact ⟨g, cap, h⟩
theorem zeros5 : (madeCells #[Value.int .i64 0, .complex .f32 0 0, .complex .f32 0 0, .complex .f32 0 0, .complex .f32 0 0] 45).toList = cells5 (List.replicate 9 ⟨0, ⟨0, 0, 0, 0, 0, 0, 0, 0⟩⟩) := by kernel_rfl

set_option maxRecDepth 8000 in
set_option maxHeartbeats 4000000 in
theorem table_any {b len cap k : Nat} {a : Option Addr} {n : Int} {w : World} (R : Rd w b a len cap k) (hk : k < 500000) (h0 : 0 ≤ n) (h1 : n ≤ 1000000) :
    Calls Tryz.prog 17 #[.pointer (some ⟨b, 0, none⟩), .int .i64 n] w fun e w' => ∃ (g c k' : Nat) (rs : List RowW), e = .returned (.slice (some ⟨g, 0, none⟩) rs.length c) ∧ rs.length ≤ 9 ∧ (∀ r ∈ rs, 0 ≤ r.f ∧ r.f ≤ 9999999) ∧ k' ≤ k + 1000 ∧ Rd w' b a len cap k' ∧ w'.ownsRow w.heap.size 34 5 (.slice (some ⟨g, 0, none⟩) rs.length c) rs.length (cells5 rs) ∧ w.grownBy w' (some b) := by
  have hlt := R.lt
  obtain ⟨i0, hi, hz0, hz1, hz2⟩ := info_parts Tryz.infoRow
  have O0 := World.ownsRow_made (base := w.heap.size) (e := 34) (size := 5) w #[] 0 (Nat.le_refl _) (by decide) rfl
  go_enter Tryz.func17, Tryz.ntmps17
  go_wp2_with fail
  refine (pick_any (R.alloc _) (by omega) (by omega) (by omega)).mono ?_
  rintro e w1 ⟨q, m1, q0, q1, rfl, hw1⟩
  have G1 : (w.alloc (.cells #[] 34)).grownBy w1 (some b) := by rw [hw1]; exact grown_drewN (Lib.grownBy_setB (grown_refl _ _) 1 _) m1
  have R1 : Rd w1 b a len cap (k + 1) := by rw [hw1]; exact (R.alloc _).step m1
  have N1 : TbHold w w1 b (.slice (some ⟨w.heap.size, 0, none⟩) 0 0) [] := (TbHold.mk O0 (by simp) (World.grownBy_alloc w _ _) hlt).grown G1
  clear hw1 G1 O0
  go_wp2_with fail
  refine (pick_any R1 (by omega) (by omega) (by omega)).mono ?_
  rintro e w2 ⟨p, m2, p0, p1, rfl, hw2⟩
  have R2 : Rd w2 b a len cap (k + 1 + 1) := by rw [hw2]; exact R1.step m2
  have N2 : TbHold w w2 b (.slice (some ⟨w.heap.size, 0, none⟩) 0 0) [] := N1.grown (by rw [hw2]; exact grown_drewN (Lib.grownBy_setB (grown_refl _ _) 1 _) m2)
  clear hw2 R1 N1
  have HN := Lib.hid N2
  have HR := Lib.hid R2
  clear R2 N2
  obtain ⟨n0, rfl⟩ : ∃ n : Nat, p = (n : Int) := ⟨p.toNat, by omega⟩
  go_wp2_with fail
  go_loopw [5, 6, 7] (fun v fv kv wr => ∃ (j k' : Nat) (f : Int) (rs : List RowW), kv = .int .i64 j ∧ fv = .int .i64 f ∧ 0 ≤ f ∧ f ≤ 200 + 64 * rs.length ∧ rs.length + j ≤ 5 ∧ 1 ≤ rs.length + j ∧ k' ≤ k + 2 + 150 * rs.length ∧ (∀ r ∈ rs, 0 ≤ r.f ∧ r.f ≤ 9999999) ∧ Rd wr b a len cap k' ∧ TbHold w wr b v rs)
    (fun _ _ kv _ => (intOf kv).toNat)
  case atStart => exact ⟨n0 + 1, k + 1 + 1, _, [], by go_num, rfl, by omega, by simp; omega, by simp; omega, by simp, by simp, by simp, HR.out, HN.out⟩
  case round =>
    obtain ⟨j, k', f, rs, rfl, rfl, f0, f1, hj, hj1, hk', hrs, R, N⟩ := hrel
    clear HN HR
    by_cases hj0 : 0 < j
    · obtain ⟨i, rfl⟩ : ∃ i, j = i + 1 := ⟨j - 1, by omega⟩
      have HN := Lib.hid N
      have HG := Lib.hid (grown_refl wr (some b))
      clear N
      have GG := HG.out
      have RR := R
      clear R
      go_wp2_with fail
      refine (part_any RR (by omega)).mono ?_
      rintro e p1 ⟨v, p1k, ⟨x1, rfl, xl1, xu1⟩, rfl, p1h, p1R, H⟩
      have p1G := Lib.grownBy_trans GG H
      clear RR GG H
      go_wp2_with fail
      refine (part_any p1R (by omega)).mono ?_
      rintro e p2 ⟨v, p2k, ⟨x2, rfl, xl2, xu2⟩, rfl, p2h, p2R, H⟩
      have p2G := Lib.grownBy_trans p1G H
      clear p1R p1G H
      go_wp2_with fail
      refine (specMilli_any _ _ _).mono ?_
      obtain ⟨aA, bA, hv⟩ := milliV_is x1 x2
      rw [hv]
      rintro e w' ⟨rfl, hw'⟩
      subst hw'
      clear hv
      go_wp2_with fail
      refine (part_any p2R (by omega)).mono ?_
      rintro e p3 ⟨v, p3k, ⟨x3, rfl, xl3, xu3⟩, rfl, p3h, p3R, H⟩
      have p3G := Lib.grownBy_trans p2G H
      clear p2R p2G H
      go_wp2_with fail
      refine (part_any p3R (by omega)).mono ?_
      rintro e p4 ⟨v, p4k, ⟨x4, rfl, xl4, xu4⟩, rfl, p4h, p4R, H⟩
      have p4G := Lib.grownBy_trans p3G H
      clear p3R p3G H
      go_wp2_with fail
      refine (specMilli_any _ _ _).mono ?_
      obtain ⟨aB, bB, hv⟩ := milliV_is x3 x4
      rw [hv]
      rintro e w' ⟨rfl, hw'⟩
      subst hw'
      clear hv
      go_wp2_with fail
      refine (part_any p4R (by omega)).mono ?_
      rintro e p5 ⟨v, p5k, ⟨x5, rfl, xl5, xu5⟩, rfl, p5h, p5R, H⟩
      have p5G := Lib.grownBy_trans p4G H
      clear p4R p4G H
      go_wp2_with fail
      refine (part_any p5R (by omega)).mono ?_
      rintro e p6 ⟨v, p6k, ⟨x6, rfl, xl6, xu6⟩, rfl, p6h, p6R, H⟩
      have p6G := Lib.grownBy_trans p5G H
      clear p5R p5G H
      go_wp2_with fail
      refine (specMilli_any _ _ _).mono ?_
      obtain ⟨aC, bC, hv⟩ := milliV_is x5 x6
      rw [hv]
      rintro e w' ⟨rfl, hw'⟩
      subst hw'
      clear hv
      go_wp2_with fail
      refine (part_any p6R (by omega)).mono ?_
      rintro e p7 ⟨v, p7k, ⟨x7, rfl, xl7, xu7⟩, rfl, p7h, p7R, H⟩
      have p7G := Lib.grownBy_trans p6G H
      clear p6R p6G H
      go_wp2_with fail
      refine (part_any p7R (by omega)).mono ?_
      rintro e p8 ⟨v, p8k, ⟨x8, rfl, xl8, xu8⟩, rfl, p8h, p8R, H⟩
      have p8G := Lib.grownBy_trans p7G H
      clear p7R p7G H
      go_wp2_with fail
      refine (specMilli_any _ _ _).mono ?_
      obtain ⟨aD, bD, hv⟩ := milliV_is x7 x8
      rw [hv]
      rintro e w' ⟨rfl, hw'⟩
      subst hw'
      clear hv
      have HR8 := Lib.hid p8R
      have HN8 := Lib.hid (HN.out.grown p8G)
      clear p8R p8G HN HG
      go_wp2_with fail
      have M8 := Blk.new p8 aA bA aB bB aC bC aD bD
      have hbp : b < p8.heap.size := Nat.lt_of_lt_of_le hlt HN8.out.g.size
      refine (odd_any (HR8.out.alloc _) (by omega) (by omega) (by omega)).mono ?_
      rintro e w9 ⟨v, k9, ⟨β, rfl, _⟩, rfl, hk9, R9, G9⟩
      have M9 := M8.grown G9 (by omega)
      have HN9 := Lib.hid ((HN8.out.alloc _).grown G9)
      have HR9 := Lib.hid R9
      have hfree := HN8.out.free (X := p8.heap.size) (Nat.le_refl _)
      have hwp : w.heap.size ≤ p8.heap.size := HN8.out.g.size
      have hM9 := M9.lt
      clear M8 G9 R9 HN8 HR8
      cases β
      · have m0 := M9.c0
        have m1 := M9.c1
        have m2 := M9.c2
        have m3 := M9.c3
        have ml := M9.lt
        have H4 := Lib.hid (HN9.out.alloc (.cells #[.int .i64 f, .complex .f32 aA bA, .complex .f32 aB bB, .complex .f32 aC bC, .complex .f32 aD bD] 34))
        have R4 := Lib.hid (HR9.out.alloc (.cells #[.int .i64 f, .complex .f32 aA bA, .complex .f32 aB bB, .complex .f32 aC bC, .complex .f32 aD bD] 34))
        have hown := H4.out.own
        have hsz := HN9.out.g.size
        go_wp2_with (first | (at_builtin; refine wpList_append_own _ rfl _ _ 23 rfl w.heap.size 34 i0 (.agg #[.int .i64 0, .complex .f32 0 0, .complex .f32 0 0, .complex .f32 0 0, .complex .f32 0 0]) 5 40 Tryz.underlying23 hi hz0 hz1 hz2 rfl (by decide) _ _ _ rfl hown ⟨w9.heap.size, 0, none⟩ 1 1 [.int .i64 f, .complex .f32 aA bA, .complex .f32 aB bB, .complex .f32 aC bC, .complex .f32 aD bD] rfl rfl ?c1a ?c2a ?c3a ?c4a ?c5a ?_) | fail)
        case c1a => exact at_newsT (At.new w9 _)
        case c2a => intro u hu; simp at hu; rcases hu with rfl | rfl | rfl | rfl | rfl <;> rfl
        case c3a => unfold maxLen; omega
        case c4a => omega
        case c5a => simp; omega
        intro v' w5 O' G' hnil
        have hnn : v' ≠ .slice none 0 0 := by intro e; first | exact hnil e | exact H4.out.nn (hnil.1 e).1
        have R5 := H4.out.rd R4.out G'
        have H5 := Lib.hid (H4.out.app (r := ⟨f, ⟨aA, bA, aB, bB, aC, bC, aD, bD⟩⟩) O' G' hnn)
        clear O' G' hnil hnn hown H4 R4 m0 m1 m2 m3 ml HN9 HR9
        go_wp2_with fail
        refine (pick_any R5 (by omega) (by omega) (by omega)).mono ?_
        rintro e w6 ⟨y, m6, y0, y1, rfl, hw6⟩
        have R6 := Lib.hid (show Rd w6 b a len cap (k9 + 1) by rw [hw6]; exact R5.step m6)
        have H6 := Lib.hid (H5.out.grown (show w5.grownBy w6 (some b) by rw [hw6]; exact grown_drewN (Lib.grownBy_setB (grown_refl _ _) 1 _) m6))
        clear hw6 R5 H5
        go_wp2_with fail
        refine ⟨⟨i, k9 + 1, f + 1 + y, rs ++ [⟨f, ⟨aA, bA, aB, bB, aC, bC, aD, bD⟩⟩], by go_num, rfl, by omega, by simp; omega, by simp; omega, by simp; omega, by simp; omega, ?_, R6.out, H6.out⟩, by simp [intOf]⟩
        intro r hr
        rcases List.mem_append.1 hr with hr | hr
        · exact hrs r hr
        · simp at hr; subst hr; exact ⟨f0, by show f ≤ _; omega⟩
      · go_wp2_with fail
        refine (scattering_any HR9.out (by omega) (by omega) (by omega)).mono ?_
        rintro e wA ⟨v, kA, ⟨s1, s2, s3, s4, s5, s6, s7, s8, rfl⟩, rfl, hkA, RA, GA⟩
        have MA := M9.grown GA (by omega)
        have HNA := Lib.hid (HN9.out.grown GA)
        have HRA := Lib.hid RA
        clear M9 GA RA HN9 HR9
        have z0 := MA.c0
        have z1 := MA.c1
        have z2 := MA.c2
        have z3 := MA.c3
        have f0w := MA.fr 0
        have f1w := MA.fr 1
        have f2w := MA.fr 2
        have f3w := MA.fr 3
        have zl := MA.lt
        have HNS := Lib.hid ((((HNA.out.set hwp hfree (by omega) 0 (.complex .f32 s1 s2)).set hwp hfree (by omega) 1 (.complex .f32 s3 s4)).set hwp hfree (by omega) 2 (.complex .f32 s5 s6)).set hwp hfree (by omega) 3 (.complex .f32 s7 s8))
        have HRS := Lib.hid ((((HRA.out.above hbp 0 (.complex .f32 s1 s2)).above hbp 1 (.complex .f32 s3 s4)).above hbp 2 (.complex .f32 s5 s6)).above hbp 3 (.complex .f32 s7 s8))
        have hss : ((((wA.setCell ⟨p8.heap.size, 0, none⟩ (.complex .f32 s1 s2)).setCell ⟨p8.heap.size, 1, none⟩ (.complex .f32 s3 s4)).setCell ⟨p8.heap.size, 2, none⟩ (.complex .f32 s5 s6)).setCell ⟨p8.heap.size, 3, none⟩ (.complex .f32 s7 s8)).heap.size = wA.heap.size := by simp
        have H4 := Lib.hid (HNS.out.alloc (.cells #[.int .i64 f, .complex .f32 s1 s2, .complex .f32 s3 s4, .complex .f32 s5 s6, .complex .f32 s7 s8] 34))
        have R4 := Lib.hid (HRS.out.alloc (.cells #[.int .i64 f, .complex .f32 s1 s2, .complex .f32 s3 s4, .complex .f32 s5 s6, .complex .f32 s7 s8] 34))
        have hown := H4.out.own
        have hsz := HNA.out.g.size
        go_wp2_with (first | (at_builtin; refine wpList_append_own _ rfl _ _ 23 rfl w.heap.size 34 i0 (.agg #[.int .i64 0, .complex .f32 0 0, .complex .f32 0 0, .complex .f32 0 0, .complex .f32 0 0]) 5 40 Tryz.underlying23 hi hz0 hz1 hz2 rfl (by decide) _ _ _ rfl hown ⟨wA.heap.size, 0, none⟩ 1 1 [.int .i64 f, .complex .f32 s1 s2, .complex .f32 s3 s4, .complex .f32 s5 s6, .complex .f32 s7 s8] rfl rfl ?c1b ?c2b ?c3b ?c4b ?c5b ?_) | fail)
        case c1b =>
          have hat := At.new ((((wA.setCell ⟨p8.heap.size, 0, none⟩ (.complex .f32 s1 s2)).setCell ⟨p8.heap.size, 1, none⟩ (.complex .f32 s3 s4)).setCell ⟨p8.heap.size, 2, none⟩ (.complex .f32 s5 s6)).setCell ⟨p8.heap.size, 3, none⟩ (.complex .f32 s7 s8)) (.cells #[.int .i64 f, .complex .f32 s1 s2, .complex .f32 s3 s4, .complex .f32 s5 s6, .complex .f32 s7 s8] 34)
          rw [hss] at hat
          exact at_newsT hat
        case c2b => intro u hu; simp at hu; rcases hu with rfl | rfl | rfl | rfl | rfl <;> rfl
        case c3b => unfold maxLen; omega
        case c4b => omega
        case c5b => simp; omega
        intro v' w5 O' G' hnil
        have hnn : v' ≠ .slice none 0 0 := by intro e; first | exact hnil e | exact H4.out.nn (hnil.1 e).1
        have R5 := H4.out.rd R4.out G'
        have H5 := Lib.hid (H4.out.app (r := ⟨f, ⟨s1, s2, s3, s4, s5, s6, s7, s8⟩⟩) O' G' hnn)
        clear O' G' hnil hnn hown H4 R4 HNS HRS HNA HRA z0 z1 z2 z3 f0w f1w f2w f3w zl
        go_wp2_with fail
        refine (pick_any R5 (by omega) (by omega) (by omega)).mono ?_
        rintro e w6 ⟨y, m6, y0, y1, rfl, hw6⟩
        have R6 := Lib.hid (show Rd w6 b a len cap (kA + 1) by rw [hw6]; exact R5.step m6)
        have H6 := Lib.hid (H5.out.grown (show w5.grownBy w6 (some b) by rw [hw6]; exact grown_drewN (Lib.grownBy_setB (grown_refl _ _) 1 _) m6))
        clear hw6 R5 H5
        go_wp2_with fail
        refine ⟨⟨i, kA + 1, f + 1 + y, rs ++ [⟨f, ⟨s1, s2, s3, s4, s5, s6, s7, s8⟩⟩], by go_num, rfl, by omega, by simp; omega, by simp; omega, by simp; omega, by simp; omega, ?_, R6.out, H6.out⟩, by simp [intOf]⟩
        intro r hr
        rcases List.mem_append.1 hr with hr | hr
        · exact hrs r hr
        · simp at hr; subst hr; exact ⟨f0, by show f ≤ _; omega⟩
    · have hjz : j = 0 := by omega
      subst hjz
      have HN := Lib.hid N
      have HR := Lib.hid R
      clear N R
      go_wp2_with fail
      refine (odd_any HR.out (by omega) (by omega) (by omega)).mono ?_
      rintro e w3 ⟨v, k3, ⟨β, rfl, _⟩, rfl, hk3, R3, G3⟩
      have HN3 := Lib.hid (HN.out.grown G3)
      have HR3 := Lib.hid R3
      clear R3 G3 HN HR
      cases β
      · obtain ⟨g, c, hv⟩ := own_formT HN3.out.own HN3.out.nn
        subst hv
        go_wp2_with fail
        refine bodyPost_ret (results_tmp rfl _ _ _) rfl ?_
        exact ⟨g, c, k3, rs, rfl, by omega, hrs, by omega, HR3.out, HN3.out.own, HN3.out.g⟩
      · go_wp2_with fail
        refine (pick_any HR3.out (by omega) (by omega) (by omega)).mono ?_
        rintro e w4 ⟨y, m4, y0, y1, rfl, hw4⟩
        have HR4 := Lib.hid (show Rd w4 b a len cap (k3 + 1) by rw [hw4]; exact HR3.out.step m4)
        have HN4 := Lib.hid (HN3.out.grown (show w3.grownBy w4 (some b) by rw [hw4]; exact grown_drewN (Lib.grownBy_setB (grown_refl _ _) 1 _) m4))
        clear hw4 HR3 HN3
        obtain ⟨g, c, hv⟩ := own_formT HN4.out.own HN4.out.nn
        subst hv
        cases rs with
        | nil => simp at hj1
        | cons r0 t0 =>
          obtain ⟨hc, hf, hl, hbg, hle⟩ := own_cells HN4.out.own
          obtain ⟨u0, c0⟩ := hc 0 (by simp)
          obtain ⟨u2, c2⟩ := hc 2 (by simp; omega)
          have fr0 := hf 0
          have fr2 := hf 2
          rcases (show y = 0 ∨ y = 1 ∨ y = 2 ∨ y = 3 by omega) with rfl | rfl | rfl | rfl
          · go_wp2_with fail
            refine bodyPost_ret (results_tmp rfl _ _ _) rfl ?_
            have O := World.ownsRow_made (base := w.heap.size) (e := 34) (size := 5) w4 #[] 0 HN4.out.g.size (by decide) rfl
            exact ⟨_, 0, k3 + 1, [], rfl, by simp, by simp, by omega, HR4.out.alloc _, O, Lib.grownBy_allocR HN4.out.g _⟩
          · go_wp2_with fail
            refine bodyPost_ret (results_tmp rfl _ _ _) rfl ?_
            refine ⟨g, c, k3 + 1, ⟨9999999, r0.m⟩ :: t0, rfl, by simp at hj ⊢; omega, ?_, by omega, HR4.out.above (by omega) 0 _, own_set HN4.out.own 0 _, grown_over HN4.out.g (Lib.grownBy_setB (grown_refl _ (some g)) 0 _) (fun x e => by injection e with e; omega)⟩
            intro r hr
            rcases List.mem_cons.1 hr with rfl | hr
            · exact ⟨(by decide : (0 : Int) ≤ 9999999), (by decide : (9999999 : Int) ≤ 9999999)⟩
            · exact hrs r (List.mem_cons_of_mem _ hr)
          · go_wp2_with fail
            refine (num_any HR4.out (by omega) (by omega) (by omega)).mono ?_
            rintro e w5 ⟨v, k5, hv, rfl, hk5, R5, G5⟩
            obtain ⟨x, y, rfl⟩ := numOk_is hv
            have HN5 := Lib.hid (HN4.out.grown G5)
            have HR5 := Lib.hid R5
            clear R5 G5 HN4 HR4 c0 c2 fr0 fr2 hf hc
            obtain ⟨hc, hf, hl5, _, _⟩ := own_cells HN5.out.own
            obtain ⟨u2, c2⟩ := hc 2 (by simp; omega)
            have fr2 := hf 2
            go_wp2_with fail
            refine bodyPost_ret (results_tmp rfl _ _ _) rfl ?_
            refine ⟨g, c, k5, ⟨r0.f, ⟨r0.m.a, r0.m.b, x, y, r0.m.e, r0.m.f, r0.m.g, r0.m.h⟩⟩ :: t0, rfl, by simp at hj ⊢; omega, ?_, by omega, HR5.out.above (by omega) 2 _, own_set HN5.out.own 2 _, grown_over HN5.out.g (Lib.grownBy_setB (grown_refl _ (some g)) 2 _) (fun x e => by injection e with e; omega)⟩
            intro r hr
            rcases List.mem_cons.1 hr with rfl | hr
            · exact hrs r0 (List.mem_cons_self ..)
            · exact hrs r (List.mem_cons_of_mem _ hr)
          · go_wp2_with (first | (at_make; refine wpList_make_full _ rfl _ _ 23 rfl w.heap.size 34 i0 (.agg #[.int .i64 0, .complex .f32 0 0, .complex .f32 0 0, .complex .f32 0 0, .complex .f32 0 0]) 5 Tryz.underlying23 hi hz0 hz1 _ _ 9 9 9 rfl rfl rfl rfl ?b2 ?b3 ?b4 ?_) | fail)
            case b2 => rw [hz2]; decide
            case b3 => unfold maxLen; decide
            case b4 => exact HN4.out.g.size
            intro w5 O5 G5
            go_wp2_with fail
            refine bodyPost_ret (results_tmp rfl _ _ _) rfl ?_
            refine ⟨w4.heap.size, 9, k3 + 1, List.replicate 9 ⟨0, ⟨0, 0, 0, 0, 0, 0, 0, 0⟩⟩, rfl, by simp, ?_, by omega, HR4.out.calmE G5, (by rw [← zeros5]; exact O5), grown_over HN4.out.g G5 (fun x e => by cases e)⟩
            intro r hr
            obtain ⟨_, rfl⟩ := List.mem_replicate.1 hr
            exact ⟨by decide, by decide⟩

end Go.Proofs.YthbebgnjidaokaaGreatDoor
