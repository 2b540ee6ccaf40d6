/-
  The walk of FnReactanceCircle: it answers true.
-/
import Derived.Test.YtdmacimafkiijaaWResistanceCircle
namespace Go.Proofs.Ytdmacimafkiijaa
open Go.RowKit Fl

theorem turned_quiet (a b : Nat) (w : World) : Calls Try.prog 18 #[.complex .f32 a b] w fun e w' => e = .returned (.complex .f32 a (Op.negFloat .f32 b)) ∧ w' = w :=
  (implTurned_any a b w).mono fun _ _ h => ⟨h.1, h.2.symm⟩

theorem td_cases {m : Int} (h : TD m) : reaV m = .tuple #[cirV 0 0 0, .bool false] ∨ (okM m = true ∧ okM (-m) = true ∧ m ≠ 0 ∧ tcheck m = true) := by
  have key : ∀ m : Int, -30000 ≤ m → m ≤ 30000 → (m == 0 || tcheck m) = true → reaV m = .tuple #[cirV 0 0 0, .bool false] ∨ (okM m = true ∧ okM (-m) = true ∧ m ≠ 0 ∧ tcheck m = true) := by
    intro m h1 h2 h3
    by_cases h0 : m = 0
    · subst h0
      exact .inl rfl
    · refine .inr ⟨okM_iff.2 ⟨by omega, by omega⟩, okM_iff.2 ⟨by omega, by omega⟩, h0, ?_⟩
      simpa [h0] using h3
  rcases h with ⟨k, hk, rfl⟩ | rfl | rfl | ⟨k, hk, rfl⟩
  · exact key _ (by omega) (by omega) (ttable.1 ⟨k, hk⟩)
  · exact key _ (by omega) (by omega) (by rw [ttable.2.1]; rfl)
  · exact .inl rfl
  · exact key _ (by omega) (by omega) (by rw [ttable.2.2 ⟨k, hk⟩]; exact Bool.or_true _)
theorem reaV_told {m : Int} (h0 : okM m = true) (h1 : m ≠ 0) : reaV m = .tuple #[cirV 1065353216 (tN m) (tA m), .bool true] := by
  unfold reaV
  rw [h0, decide_eq_true h1]
  rfl

set_option maxRecDepth 8000 in
set_option maxHeartbeats 4000000 in
theorem FnReactanceCircle_walk (a : Option Addr) (len cap : Nat) (zs : List Int) (w : World) (h : IsRow .u8 w a len cap zs) :
    Calls Try.prog 3 #[.slice a len cap] w fun e w' => e = .returned (.bool true) ∧ Below w.heap.size w w' := by
  by_cases hl : (1048576 : Int) < (len : Int)
  · go_enter Try.func3, Try.ntmps3
    go_wp2_with fail
    go_ret
    exact ⟨rfl, Below.refl _ _⟩
  · go_enter Try.func3, Try.ntmps3
    go_wp2_with fail
    refine (drawReactance_any h).mono ?_
    rintro e w1 ⟨v, ⟨m, rfl, hD⟩, rfl, B1⟩
    clear h
    rcases td_cases hD with hV | ⟨h0, h1, h2, hc⟩
    · have HV := Lib.hid hV
      clear hV hD
      go_wp2_with fail
      refine (implReactance_any _ _).mono ?_
      rw [HV.out]
      rintro e w2 ⟨rfl, C⟩
      have B2 := below_calm B1 B1.size C
      clear C
      go_wp2_with fail
      refine (specReactance_any _ _).mono ?_
      rw [HV.out]
      rintro e w3 ⟨rfl, C⟩
      have M3 := ((Cir.new w2 0 0 0).calm C).alloc (.cells #[.complex .f32 0 0, .float .f32 0] 27)
      have B3 := Lib.hid (below_calm (B2.alloc B2.size _) (B2.alloc B2.size _).size C)
      have c0 := M3.c0
      have c1 := M3.c1
      clear C B2
      go_wp2_with fail
      refine (sameCircle_same _ _ _ _).mono ?_
      rintro e w4 ⟨rfl, C⟩
      have M4 := M3.calm C
      have B4 := Lib.hid (below_calm (B3.out.alloc B3.out.size _) (B3.out.alloc B3.out.size _).size C)
      clear C c0 c1 M3 B3
      have c0 := M4.c0
      have c1 := M4.c1
      go_wp2_with fail
      refine (sameCircle_same _ _ _ _).mono ?_
      rintro e w5 ⟨rfl, C⟩
      have B5 := Lib.hid (below_calm B4.out B4.out.size C)
      clear C c0 c1 M4 B4
      go_wp2_with fail
      refine (alive_any _).mono ?_
      rintro e w6 ⟨rfl, rfl⟩
      go_wp2_with fail
      go_ret
      exact ⟨rfl, B5.out⟩
    · have HV := Lib.hid (reaV_told h0 h2)
      have HN := Lib.hid (reaV_told h1 (show -m ≠ 0 by omega))
      obtain ⟨_, fN⟩ := tN_spec h0 h2
      have hr := okM_iff.1 h0
      unfold tcheck at hc
      simp only [Bool.and_eq_true, beq_iff_eq] at hc
      obtain ⟨⟨⟨⟨⟨k1, k2⟩, k3⟩, k4⟩, k5⟩, k6⟩ := hc
      have HO : Hid (offV 1065353216 0 1065353216 (tN m) (tA m) = .tuple #[.float .f64 (offB (subB 1065353216 1065353216) (subB 0 (tN m)) (tA m)), .bool true]) := Lib.hid (by
        have o1 : fin .f32 1065353216 = true := by decide
        have o2 : fin .f32 0 = true := by decide
        unfold offV
        rw [o1, o2, fN, k3, k4]
        rfl)
      have F3 := Lib.hid k6
      have o1 : FloatKind.f32.format.order 1065353216 1065353216 = some .eq := by decide
      clear hD fN k3 k4 k6
      go_wp2_with fail
      refine (implReactance_any _ _).mono ?_
      rw [HV.out]
      rintro e w2 ⟨rfl, C⟩
      have B2 := below_calm B1 B1.size C
      clear C
      go_wp2_with fail
      refine (specReactance_any _ _).mono ?_
      rw [HV.out]
      rintro e w3 ⟨rfl, C⟩
      have M3 := ((Cir.new w2 1065353216 (tN m) (tA m)).calm C).alloc (.cells #[.complex .f32 1065353216 (tN m), .float .f32 (tA m)] 27)
      have B3 := Lib.hid (below_calm (B2.alloc B2.size _) (B2.alloc B2.size _).size C)
      have c0 := M3.c0
      have c1 := M3.c1
      clear C B2
      go_wp2_with fail
      refine (sameCircle_same _ _ _ _).mono ?_
      rintro e w4 ⟨rfl, C⟩
      have M4 := M3.calm C
      have B4 := Lib.hid (below_calm (B3.out.alloc B3.out.size _) (B3.out.alloc B3.out.size _).size C)
      clear C c0 c1 M3 B3
      go_wp2_with fail
      refine (implReactance_any _ _).mono ?_
      rw [HN.out]
      rintro e w5 ⟨rfl, C⟩
      have M5 := (M4.calm C).alloc (.cells #[.complex .f32 1065353216 (tN (-m)), .float .f32 (tA (-m))] 27)
      have D5 := Cir.new w5 1065353216 (tN (-m)) (tA (-m))
      have B5 := Lib.hid (below_allocS6 (o := (.cells #[.complex .f32 1065353216 (tN (-m)), .float .f32 (tA (-m))] 27)) (below_calm B4.out B4.out.size C))
      clear C M4 B4
      have c0 := M5.c0
      have c1 := M5.c1
      go_wp2_with fail
      refine (implOff_any _ _ _ _ _ F3.out _).mono ?_
      rw [HO.out]
      rintro e w6 ⟨rfl, C⟩
      have M6 := M5.calm C
      have D6 := D5.calm C
      have B6 := Lib.hid (below_calm B5.out B5.out.size C)
      clear C c0 c1 M5 D5 B5
      have c0 := M6.c0
      have c1 := M6.c1
      have d0 := D6.c0
      have d1 := D6.c1
      go_wp2_with fail
      go_quiet ((go_at_call 18; refine Calls.quiet_of_same (turned_quiet _ _ _)))
      go_wp2_with fail
      go_ret
      exact ⟨rfl, below_drewN B6.out _⟩

end Go.Proofs.Ytdmacimafkiijaa
