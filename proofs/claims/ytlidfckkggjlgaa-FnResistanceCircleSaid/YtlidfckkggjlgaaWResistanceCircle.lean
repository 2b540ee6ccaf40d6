/-
  The walk of FnResistanceCircle: it answers true.
-/
import Derived.Test.YtlidfckkggjlgaaImpl4
namespace Go.Proofs.Ytlidfckkggjlgaa
open Go.RowKit Fl

theorem below_allocS6 {w w1 : World} {o : Obj} (h : Below w.heap.size w w1) : Below w.heap.size w (w1.alloc o) := h.alloc h.size o

theorem rd_cases {m : Int} (h : RD m) : resV m = .tuple #[cirV 0 0 0, .bool false] ∨ (0 ≤ m ∧ m ≤ 50000 ∧ rcheck m = true) := by
  rcases h with ⟨k, hk, rfl⟩ | rfl | rfl | rfl
  · exact .inr ⟨by omega, by omega, rtable.1 ⟨k, hk⟩⟩
  · exact .inr ⟨by omega, by omega, rtable.2⟩
  · exact .inl rfl
  · exact .inl rfl
theorem resV_told {m : Int} (h0 : 0 ≤ m) (h1 : m ≤ 9999999) : resV m = .tuple #[cirV (cM m) 0 (cR m), .bool true] := by
  unfold resV
  rw [decide_eq_true h0, decide_eq_true h1]
  rfl

set_option maxRecDepth 8000 in
set_option maxHeartbeats 4000000 in
theorem FnResistanceCircle_walk (a : Option Addr) (len cap : Nat) (zs : List Int) (w : World) (h : IsRow .u8 w a len cap zs) :
    Calls Try.prog 6 #[.slice a len cap] w fun e w' => e = .returned (.bool true) ∧ Below w.heap.size w w' := by
  by_cases hl : (1048576 : Int) < (len : Int)
  · go_enter Try.func6, Try.ntmps6
    go_wp2_with fail
    go_ret
    exact ⟨rfl, Below.refl _ _⟩
  · go_enter Try.func6, Try.ntmps6
    go_wp2_with fail
    refine (drawResistance_any h).mono ?_
    rintro e w1 ⟨v, ⟨m, rfl, hD⟩, rfl, B1⟩
    clear h
    rcases rd_cases hD with hV | ⟨h0, h1, hc⟩
    · have HV := Lib.hid hV
      clear hV hD
      go_wp2_with fail
      refine (implResistance_any _ _).mono ?_
      rw [HV.out]
      rintro e w2 ⟨rfl, C⟩
      have B2 := below_calm B1 B1.size C
      clear C
      go_wp2_with fail
      refine (specResistance_any _ _).mono ?_
      rw [HV.out]
      rintro e w3 ⟨rfl, C⟩
      have M3 := ((Cir.new w2 0 0 0).calm C).alloc (.cells #[.complex .f32 0 0, .float .f32 0] 38)
      have B3 := Lib.hid (below_calm (B2.alloc B2.size _) (B2.alloc B2.size _).size C)
      have c0 := M3.c0
      have c1 := M3.c1
      clear C B2
      go_wp2_with fail
      refine (sameCircle_same _ _ _ _).mono ?_
      rintro e w4 ⟨rfl, C⟩
      have M4 := M3.calm C
      have B4 := Lib.hid (below_calm (B3.out.alloc B3.out.size _) (B3.out.alloc B3.out.size _).size C)
      clear C c0 c1 M3 B3
      have c0 := M4.c0
      have c1 := M4.c1
      go_wp2_with fail
      refine (sameCircle_same _ _ _ _).mono ?_
      rintro e w5 ⟨rfl, C⟩
      have B5 := Lib.hid (below_calm B4.out B4.out.size C)
      clear C c0 c1 M4 B4
      go_wp2_with fail
      refine (alive_any _).mono ?_
      rintro e w6 ⟨rfl, rfl⟩
      go_wp2_with fail
      go_ret
      exact ⟨rfl, B5.out⟩
    · obtain ⟨_, f1, _, _, _, f2, _, f3⟩ := cir_spec h0 (show m ≤ 9999999 by omega)
      have HV := Lib.hid (resV_told h0 (show m ≤ 9999999 by omega))
      have HN := Lib.hid (resV_told (show 0 ≤ m + 1000 by omega) (show m + 1000 ≤ 9999999 by omega))
      have F3 := Lib.hid f3
      unfold rcheck leB geB at hc
      simp only [Bool.and_eq_true] at hc
      obtain ⟨⟨⟨⟨⟨k1, k2⟩, k3⟩, k4⟩, k5⟩, k6⟩ := hc
      have HO : Hid (offV 1065353216 0 (cM m) 0 (cR m) = .tuple #[.float .f64 (offB (subB 1065353216 (cM m)) (subB 0 0) (cR m)), .bool true]) := Lib.hid (by
        have o1 : fin .f32 1065353216 = true := by decide
        have o2 : fin .f32 0 = true := by decide
        unfold offV
        rw [o1, o2, f2, k1, k2]
        rfl)
      clear hD f1 f2 f3 k1 k2
      go_wp2_with fail
      refine (implResistance_any _ _).mono ?_
      rw [HV.out]
      rintro e w2 ⟨rfl, C⟩
      have B2 := below_calm B1 B1.size C
      clear C
      go_wp2_with fail
      refine (specResistance_any _ _).mono ?_
      rw [HV.out]
      rintro e w3 ⟨rfl, C⟩
      have M3 := ((Cir.new w2 (cM m) 0 (cR m)).calm C).alloc (.cells #[.complex .f32 (cM m) 0, .float .f32 (cR m)] 38)
      have B3 := Lib.hid (below_calm (B2.alloc B2.size _) (B2.alloc B2.size _).size C)
      have c0 := M3.c0
      have c1 := M3.c1
      clear C B2
      go_wp2_with fail
      refine (sameCircle_same _ _ _ _).mono ?_
      rintro e w4 ⟨rfl, C⟩
      have M4 := M3.calm C
      have B4 := Lib.hid (below_calm (B3.out.alloc B3.out.size _) (B3.out.alloc B3.out.size _).size C)
      clear C c0 c1 M3 B3
      have c0 := M4.c0
      have c1 := M4.c1
      go_wp2_with fail
      refine (implOff_any _ _ _ _ _ F3.out _).mono ?_
      rw [HO.out]
      rintro e w5 ⟨rfl, C⟩
      have M5 := M4.calm C
      have B5 := Lib.hid (below_calm B4.out B4.out.size C)
      clear C c0 c1 M4 B4
      go_wp2_with fail
      refine (implResistance_any _ _).mono ?_
      rw [HN.out]
      rintro e w6 ⟨rfl, C⟩
      have M6 := (M5.calm C).alloc (.cells #[.complex .f32 (cM (m + 1000)) 0, .float .f32 (cR (m + 1000))] 38)
      have B6 := Lib.hid (below_allocS6 (o := (.cells #[.complex .f32 (cM (m + 1000)) 0, .float .f32 (cR (m + 1000))] 38)) (below_calm B5.out B5.out.size C))
      clear C M5 B5
      have c0 := M6.c0
      have c1 := M6.c1
      go_wp2_with fail
      go_ret
      exact ⟨rfl, B6.out⟩

end Go.Proofs.Ytlidfckkggjlgaa
