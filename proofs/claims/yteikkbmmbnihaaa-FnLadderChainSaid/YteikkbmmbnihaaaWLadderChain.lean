/-
  The walks of FnLadderChain and FnExactLadderChain: they answer true.
-/
import Derived.Test.YteikkbmmbnihaaaImplLC
import Derived.Test.YteikkbmmbnihaaaWLadderOk
namespace Go.Proofs.Yteikkbmmbnihaaa
open Go.RowKit Fl

/-- Each text that is a ladder has a first byte, and digits. -/
theorem ladS_any {s : ByteArray} (h : ladB s = true) : ∃ c ns, LadS s c ns := by
  unfold ladB at h
  simp only [Bool.and_eq_true, decide_eq_true_eq] at h
  obtain ⟨⟨hd, h1, h4⟩, hh⟩ := h
  have h0 : 0 < s.size := by omega
  rw [head_at s h0] at hh
  have dg : ∀ k, 1 ≤ k → (hk : k < s.size) → 48 ≤ (s[k]'hk).toNat ∧ (s[k]'hk).toNat ≤ 55 := by
    intro k h1 hk
    have := digs_down s (show k + 1 ≤ s.size by omega) hd
    rw [digs_succ s h1, dig_at s hk] at this
    simp only [Bool.and_eq_true, decide_eq_true_eq] at this
    exact this.2
  refine ⟨(s[0]'h0).toNat, List.ofFn (fun k : Fin (s.size - 1) => (s[k.val + 1]'(by omega)).toNat - 48), ?_, fun _ => rfl, ?_, ?_, ?_, ?_⟩
  · rw [List.length_ofFn]; omega
  · intro k hk
    rw [List.getD_eq_getElem?_getD, List.getElem?_ofFn, dif_pos (by omega)]
    have := dg (k + 1) (by omega) hk
    simp only [Option.getD_some]
    omega
  · intro n hn
    obtain ⟨k, rfl⟩ := List.mem_ofFn.1 hn
    have := dg (k.val + 1) (by omega) (by omega)
    omega
  · simpa using hh
  · rw [List.length_ofFn]; omega

set_option maxHeartbeats 1000000 in
theorem specLad_no {s : ByteArray} (hs : s.size ≤ 9223372036854775807) (hl : ladB s = false) (w : World) :
    Calls Try.prog 27 #[.string s] w fun z w' => z = .returned (.tuple #[twoV 0 0 0 0 0 0 0 0, .bool false]) ∧ Calm w w' := by
  have HL := Lib.hid hl
  clear hl
  go_enter Try.func27, Try.ntmps27
  go_wp2_with fail
  refine (specLadder_any s hs _).mono ?_
  rw [HL.out]
  rintro z w1 ⟨rfl, hw1⟩
  subst hw1
  go_wp2_with fail
  refine bodyPost_ret (results_two_tmp rfl _ rfl (Blk.new w _ _ _ _ _ _ _ _)) rfl ?_
  exact ⟨rfl, calm_new w _⟩

set_option maxHeartbeats 1000000 in
theorem implLad_no {s : ByteArray} (hs : s.size ≤ 9223372036854775807) (hl : ladB s = false) (w : World) :
    Calls Try.prog 26 #[.string s] w fun z w' => z = .returned (.tuple #[twoV 0 0 0 0 0 0 0 0, .bool false]) ∧ Calm w w' := by
  have HL := Lib.hid hl
  clear hl
  go_enter Try.func26, Try.ntmps26
  go_wp2_with fail
  refine (implLadder_any s hs _).mono ?_
  rw [HL.out]
  rintro z w1 ⟨rfl, hw1⟩
  subst hw1
  go_wp2_with fail
  refine bodyPost_ret (results_two_tmp rfl _ rfl (Blk.new w _ _ _ _ _ _ _ _)) rfl ?_
  exact ⟨rfl, calm_new w _⟩

set_option maxRecDepth 8000 in
set_option maxHeartbeats 1000000 in
theorem drawLadderChain_any {a : Option Addr} {len cap : Nat} {zs : List Int} {w : World} (h : IsRow .u8 w a len cap zs) :
    Calls Try.prog 25 #[.slice a len cap] w (Got (fun v => ∃ s, v = .string s ∧ (IsLad s ∨ (s.size ≤ 5 ∧ ladB s = false))) w) := by
  go_enter Try.func25, Try.ntmps25
  go_wp2_with fail
  refine (open_any h).mono ?_
  rintro e w1 ⟨b, a1, len1, cap1, rfl, R1, hb, B1⟩
  go_wp2_with fail
  refine (ladder_any R1 (by omega) (by omega) (by omega)).mono ?_
  rintro e w2 ⟨v, k2, ⟨s, rfl, hs⟩, rfl, hk2, R2, G2⟩
  have HS := Lib.hid hs
  have B2 := below_drawn B1 hb B1.size G2
  clear hs R1 R2 G2 B1
  go_wp2_with fail
  go_ret
  exact ⟨_, ⟨s, rfl, HS.out⟩, rfl, B2⟩

/-- All that the walk asks of a ladder. -/
structure LadAll (s : ByteArray) (m : Words) (a1 a2 o p o' p' : Nat) : Prop where
  i : ∀ w, Calls Try.prog 26 #[.string s] w fun z w' => z = .returned (.tuple #[twoV m.a m.b m.c m.d m.e m.f m.g m.h, .bool true]) ∧ Calm w w'
  sp : ∀ w, Calls Try.prog 27 #[.string s] w fun z w' => z = .returned (.tuple #[twoV m.a m.b m.c m.d m.e m.f m.g m.h, .bool true]) ∧ Calm w w'
  d : ∀ w, Calls Try.prog 30 #[twoV m.a m.b m.c m.d m.e m.f m.g m.h] w fun z w' => z = .returned (.tuple #[.complex .f32 a1 a2, .bool true]) ∧ Calm w w'
  d1 : FloatKind.f32.format.order a1 1065353216 = some .eq
  d2 : FloatKind.f32.format.order a2 0 = some .eq
  at_ : ∀ w, Calls Try.prog 31 #[twoV m.a m.b m.c m.d m.e m.f m.g m.h, .complex .f32 1065353216 0] w fun z w' => z = .returned (.tuple #[.complex .f32 o p, .bool true]) ∧ Calm w w'
  se : ∀ w, Calls Try.prog 21 #[.complex .f32 1065353216 0, .string s] w fun z w' => z = .returned (.tuple #[.complex .f32 o' p', .bool true]) ∧ Calm w w'
  near : nearB o p o' p' 4576918229304087675 = true

theorem lad_all {s : ByteArray} (h : ladB s = true) : ∃ m a1 a2 o p o' p', LadAll s m a1 a2 o p o' p' := by
  obtain ⟨c, ns, L⟩ := ladS_any h
  obtain ⟨m, F, hok, ⟨a1, a2, b1, b2, D, v1, v2⟩, x1, y1, x2, y2, o, p, A, n1⟩ := lad_words L.c L.len L.lt
  obtain ⟨o', p', S, n2⟩ := seen_one L.c L.len L.lt
  have z : ∀ x y : Rat, Md (x - x) (y - y) 0 := fun x y => Md.zero.to (by grind) (by grind)
  have f3 := fin2 D.k3
  refine ⟨m, _, _, o, p, o', p', implLad_f L h F, specLad_f L h F, implDet_w D, ?_, ?_, implAt_f A, implSeen_f L h S, Cm.near2 n1 n2 (z _ _) (by decide +kernel)⟩
  · exact (order_spec _ (fin_num.1 f3.1) (fin_num.1 (by decide : fin .f32 1065353216 = true))).2.1.2 (by rw [v1]; decide +kernel)
  · exact (order_spec _ (fin_num.1 f3.2) (fin_num.1 (by decide : fin .f32 0 = true))).2.1.2 (by rw [v2]; decide +kernel)

set_option maxRecDepth 8000 in
set_option maxHeartbeats 4000000 in
theorem FnLadderChain_walk (a : Option Addr) (len cap : Nat) (zs : List Int) (w : World) (h : IsRow .u8 w a len cap zs) :
    Calls Try.prog 6 #[.slice a len cap] w fun e w' => e = .returned (.bool true) ∧ Below w.heap.size w w' := by
  by_cases hl : (1048576 : Int) < (len : Int)
  · go_enter Try.func6, Try.ntmps6
    go_wp2_with fail
    go_ret
    exact ⟨rfl, Below.refl _ _⟩
  · go_enter Try.func6, Try.ntmps6
    go_wp2_with fail
    refine (drawLadderChain_any h).mono ?_
    rintro e w1 ⟨v, ⟨s, rfl, hs⟩, rfl, B1⟩
    have hz := lad_size hs
    clear h hs
    cases hβ : ladB s
    · have HB := Lib.hid hβ
      go_wp2_with fail
      refine (implLad_no (by omega) HB.out _).mono ?_
      rintro z w2 ⟨rfl, C⟩
      have B2 := below_calm B1 B1.size C
      clear C B1 hβ
      go_wp2_with fail
      have M2 := Blk.new w2 0 0 0 0 0 0 0 0
      have B2' := B2.alloc B2.size (.cells #[.complex .f32 0 0, .complex .f32 0 0, .complex .f32 0 0, .complex .f32 0 0] 39)
      refine (specLad_no (by omega) HB.out _).mono ?_
      rintro z w3 ⟨rfl, C⟩
      have M3 := M2.calm C
      have m0 := M3.c0
      have m1 := M3.c1
      have m2 := M3.c2
      have m3 := M3.c3
      have ml := M3.lt
      have HM3 := Lib.hid M3
      have B3 := below_calm B2' B2'.size C
      clear C B2 B2' M2 M3
      go_wp2_with fail
      have B3' := B3.alloc B3.size (.cells #[.complex .f32 0 0, .complex .f32 0 0, .complex .f32 0 0, .complex .f32 0 0] 39)
      refine (sameTwo_same _ _ _ _ _ _ _ _ _).mono ?_
      rintro z w4 ⟨rfl, C⟩
      have B4 := below_calm B3' B3'.size C
      have M4 := (HM3.out.alloc (.cells #[.complex .f32 0 0, .complex .f32 0 0, .complex .f32 0 0, .complex .f32 0 0] 39)).calm C
      clear m0 m1 m2 m3 ml
      have m0 := M4.c0
      have m1 := M4.c1
      have m2 := M4.c2
      have m3 := M4.c3
      have ml := M4.lt
      clear C B3 B3' HM3 M4
      go_wp2_with fail
      refine (noTwo_zero _).mono ?_
      rintro z w5 ⟨rfl, C⟩
      have B5 := below_calm B4 B4.size C
      clear C B4 m0 m1 m2 m3 ml
      go_wp2_with fail
      refine (implLadder_any s (by omega) _).mono ?_
      rw [HB.out]
      rintro e w6 ⟨rfl, rfl⟩
      go_wp2_with fail
      refine (alive_any _).mono ?_
      rintro e w6 ⟨rfl, rfl⟩
      go_wp2_with fail
      go_ret
      exact ⟨rfl, B5⟩
    · obtain ⟨m, a1, a2, o, p, o', p', A⟩ := lad_all hβ
      have HA := Lib.hid A
      have d1 := A.d1
      have d2 := A.d2
      clear A hβ
      go_wp2_with fail
      refine (HA.out.i _).mono ?_
      rintro z w2 ⟨rfl, C⟩
      have B2 := below_calm B1 B1.size C
      clear C B1
      go_wp2_with fail
      have M2 := Blk.new w2 m.a m.b m.c m.d m.e m.f m.g m.h
      have B2' := B2.alloc B2.size (.cells #[.complex .f32 m.a m.b, .complex .f32 m.c m.d, .complex .f32 m.e m.f, .complex .f32 m.g m.h] 39)
      refine (HA.out.sp _).mono ?_
      rintro z w3 ⟨rfl, C⟩
      have M3 := M2.calm C
      have m0 := M3.c0
      have m1 := M3.c1
      have m2 := M3.c2
      have m3 := M3.c3
      have ml := M3.lt
      have HM3 := Lib.hid M3
      have B3 := below_calm B2' B2'.size C
      clear C B2 B2' M2 M3
      go_wp2_with fail
      have B3' := B3.alloc B3.size (.cells #[.complex .f32 m.a m.b, .complex .f32 m.c m.d, .complex .f32 m.e m.f, .complex .f32 m.g m.h] 39)
      refine (sameTwo_same _ _ _ _ _ _ _ _ _).mono ?_
      rintro z w4 ⟨rfl, C⟩
      have B4 := below_calm B3' B3'.size C
      have M4 := (HM3.out.alloc (.cells #[.complex .f32 m.a m.b, .complex .f32 m.c m.d, .complex .f32 m.e m.f, .complex .f32 m.g m.h] 39)).calm C
      clear m0 m1 m2 m3 ml
      have m0 := M4.c0
      have m1 := M4.c1
      have m2 := M4.c2
      have m3 := M4.c3
      have ml := M4.lt
      have HM4 := Lib.hid M4
      clear C B3 B3' HM3 M4
      go_wp2_with fail
      refine (HA.out.d _).mono ?_
      rintro z w5 ⟨rfl, C⟩
      have B5 := below_calm B4 B4.size C
      have M5 := HM4.out.calm C
      clear m0 m1 m2 m3 ml HM4 C B4
      have m0 := M5.c0
      have m1 := M5.c1
      have m2 := M5.c2
      have m3 := M5.c3
      have ml := M5.lt
      clear M5
      go_wp2_with fail
      refine (HA.out.at_ _).mono ?_
      rintro z w6 ⟨rfl, C⟩
      have B6 := below_calm B5 B5.size C
      clear m0 m1 m2 m3 ml C B5
      go_wp2_with fail
      refine (HA.out.se _).mono ?_
      rintro z w7 ⟨rfl, C⟩
      have B7 := below_calm B6 B6.size C
      clear C B6
      go_wp2_with fail
      refine (specMilliOf_any _ _ _).mono ?_
      rintro z w8 ⟨rfl, n8, hw8⟩
      have B8 : Below w.heap.size w w8 := by rw [hw8]; exact below_drewN B7 n8
      clear hw8 B7
      obtain ⟨i, j, β, hm⟩ : ∃ i j β, mOf o p = .tuple #[.int .i64 i, .int .i64 j, .bool β] := by
        unfold mOf
        split
        · exact ⟨_, _, _, rfl⟩
        · exact ⟨_, _, _, rfl⟩
      rw [hm]
      clear hm
      have key : ∀ w9 : World, Below w.heap.size w w9 → Calls Try.prog 33 #[.complex .f32 o p, .complex .f32 o' p', .float .f64 4576918229304087675] w9 fun e w' => e = .returned (.bool true) ∧ Below w.heap.size w w' := by
        intro w9 B9
        refine (implNear_any _ _ _ _ _ _ (by decide)).mono ?_
        rw [HA.out.near]
        rintro e w' ⟨rfl, n, rfl⟩
        exact ⟨rfl, below_drewN B9 n⟩
      have HK := Lib.hid key
      clear key
      cases β
      · go_wp2_with fail
        go_ret
        exact ⟨rfl, B8⟩
      · by_cases c1 : i < -10000
        · go_wp2_with fail
          go_ret
          exact ⟨rfl, B8⟩
        · by_cases c2 : 10000 < i
          · go_wp2_with fail
            go_ret
            exact ⟨rfl, B8⟩
          · by_cases c3 : j < -10000
            · go_wp2_with fail
              go_ret
              exact ⟨rfl, B8⟩
            · by_cases c4 : 10000 < j
              · go_wp2_with fail
                go_ret
                exact ⟨rfl, B8⟩
              · go_wp2_with fail
                refine (HK.out _ B8).mono ?_
                rintro z w9 ⟨rfl, B9⟩
                go_wp2_with fail
                go_ret
                exact ⟨rfl, B9⟩

set_option maxHeartbeats 1000000 in
theorem eqTwo_same {a b c d e f g h : Nat} (H : finTwo a b c d e f g h = true) (w : World) :
    Calls Try.prog 43 #[twoV a b c d e f g h, twoV a b c d e f g h] w fun x w' => x = .returned (.bool true) ∧ Calm w w' := by
  unfold finTwo at H
  simp only [Bool.and_eq_true] at H
  obtain ⟨⟨⟨⟨ha, hb⟩, hc, hd⟩, he, hf⟩, hg, hh⟩ := H
  have c1 := widen_walk ha hb
  have c2 := widen_walk hc hd
  have c3 := widen_walk he hf
  have c4 := widen_walk hg hh
  clear ha hb hc hd he hf hg hh
  go_enter Try.func43, Try.ntmps43
  go_wp2_with (go_at_call 42; refine (sameComplex_same _ _ _).mono ?_; rintro e w' ⟨rfl, n, rfl⟩)
  go_ret
  exact ⟨rfl, grown_drewN (Lib.grownBy_allocR (World.grownBy_alloc w _ none) _) _⟩

/-- What both give, of any text. -/
theorem lad_any (s : ByteArray) (hs : s.size ≤ 9223372036854775807) : ∃ (m : Words) (β : Bool), finTwo m.a m.b m.c m.d m.e m.f m.g m.h = true ∧
    (∀ w, Calls Try.prog 26 #[.string s] w fun z w' => z = .returned (.tuple #[twoV m.a m.b m.c m.d m.e m.f m.g m.h, .bool β]) ∧ Calm w w') ∧
    (∀ w, Calls Try.prog 27 #[.string s] w fun z w' => z = .returned (.tuple #[twoV m.a m.b m.c m.d m.e m.f m.g m.h, .bool β]) ∧ Calm w w') := by
  cases hl : ladB s
  · exact ⟨⟨0, 0, 0, 0, 0, 0, 0, 0⟩, false, by decide, implLad_no hs hl, specLad_no hs hl⟩
  · obtain ⟨c, ns, L⟩ := ladS_any hl
    obtain ⟨m, F, hok, _⟩ := lad_words L.c L.len L.lt
    exact ⟨m, true, hok, implLad_f L hl F, specLad_f L hl F⟩

set_option maxRecDepth 8000 in
set_option maxHeartbeats 1000000 in
theorem FnExactLadderChain_walk (s : ByteArray) (hs : s.size ≤ 9223372036854775807) (w : World) :
    Calls Try.prog 11 #[.string s] w fun e w' => e = .returned (.bool true) ∧ Below w.heap.size w w' := by
  by_cases hl : (1048576 : Int) < (s.size : Int)
  · go_enter Try.func11, Try.ntmps11
    go_wp2_with fail
    go_ret
    exact ⟨rfl, Below.refl _ _⟩
  · obtain ⟨m, β, hf, hi, hp⟩ := lad_any s hs
    have HF := Lib.hid hf
    have HI := Lib.hid hi
    have HP := Lib.hid hp
    clear hf hi hp
    go_enter Try.func11, Try.ntmps11
    go_wp2_with fail
    refine (HP.out _).mono ?_
    rintro z w1 ⟨rfl, C⟩
    have B1 := below_calm (Below.refl w.heap.size w) (Nat.le_refl _) C
    have M1 := Blk.new w1 m.a m.b m.c m.d m.e m.f m.g m.h
    have B2 := B1.alloc B1.size (.cells #[.complex .f32 m.a m.b, .complex .f32 m.c m.d, .complex .f32 m.e m.f, .complex .f32 m.g m.h] 39)
    clear C B1
    go_wp2_with fail
    refine (HI.out _).mono ?_
    rintro z w2 ⟨rfl, C⟩
    have M2 := (M1.calm C).alloc (.cells #[.complex .f32 m.a m.b, .complex .f32 m.c m.d, .complex .f32 m.e m.f, .complex .f32 m.g m.h] 39)
    have B3 := Lib.hid ((below_calm B2 B2.size C).alloc (below_calm B2 B2.size C).size (.cells #[.complex .f32 m.a m.b, .complex .f32 m.c m.d, .complex .f32 m.e m.f, .complex .f32 m.g m.h] 39))
    have c0 := M2.c0
    have c1 := M2.c1
    have c2 := M2.c2
    have c3 := M2.c3
    have cl := M2.lt
    clear C B2 M1 M2
    go_wp2_with fail
    refine (eqTwo_same HF.out _).mono ?_
    rintro z w3 ⟨rfl, C⟩
    have B4 := Lib.hid (below_calm B3.out B3.out.size C)
    clear C c0 c1 c2 c3 cl B3
    cases β
    all_goals
      go_wp2_with fail
      go_ret
      exact ⟨rfl, B4.out⟩

end Go.Proofs.Yteikkbmmbnihaaa
