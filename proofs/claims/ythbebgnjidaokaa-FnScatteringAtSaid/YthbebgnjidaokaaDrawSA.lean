/-
  The draw of a table and a frequency.
-/
import Derived.Test.YthbebgnjidaokaaScatS
import Derived.Test.YthbebgnjidaokaaWTableOk
import Derived.Deep.RegionWith
namespace Go.Proofs.Ythbebgnjidaokaa
open Go.RowKit Fl

def frS (f p q s : Int) (n : Nat) : Int := match n with
  | 0 | 1 => f
  | 2 => IntKind.i64.wrap (f + p)
  | 3 => IntKind.i64.wrap (f - q)
  | _ => s
theorem frS_at (f p q s : Int) (n : Nat) (h : n < [Value.int .i64 f, .int .i64 f, .int .i64 (IntKind.i64.wrap (f + p)), .int .i64 (IntKind.i64.wrap (f - q)), .int .i64 s].length) :
    [Value.int .i64 f, .int .i64 f, .int .i64 (IntKind.i64.wrap (f + p)), .int .i64 (IntKind.i64.wrap (f - q)), .int .i64 s][n]'h = .int .i64 (frS f p q s n) := by
  match n, h with
  | 0, _ => rfl
  | 1, _ => rfl
  | 2, _ => rfl
  | 3, _ => rfl
  | 4, _ => rfl
theorem frS_in {f p q s : Int} (n : Nat) (hf : 0 ≤ f ∧ f ≤ 9999999) (p0 : 0 ≤ p) (p1 : p < 30) (q0 : 0 ≤ q) (q1 : q < 30) (s0 : 0 ≤ s) (s1 : s < 250) : -1000 ≤ frS f p q s n ∧ frS f p q s n ≤ 10001000 := by
  unfold frS
  split
  · omega
  · omega
  · rw [IntWalk.i64_in _ (by omega)]; omega
  · rw [IntWalk.i64_in _ (by omega)]; omega
  · omega
theorem at_end {w w1 w3 wx : World} {b g c n : Nat} {rs : List RowW} (O : w3.ownsRow w1.heap.size 47 5 (.slice (some ⟨g, 0, none⟩) n c) n (cells5 rs)) (hn : rs.length = n) (hlt : b < w1.heap.size) (B : Below w.heap.size w w3) (hb : w.heap.size ≤ b) (G : w3.grownBy wx (some b)) : Row5 wx g rs ∧ Below w.heap.size w wx := by
  subst hn
  refine ⟨row5_of (O.kept G (.inr ?_)), below_drawn B hb B.size G⟩
  intro e
  have := (O.lt _ e).1
  omega

set_option maxRecDepth 8000 in
set_option maxHeartbeats 4000000 in
theorem drawAt_any {a : Option Addr} {len cap : Nat} {zs : List Int} {w : World} (h : IsRow .u8 w a len cap zs) :
    Calls Try.prog 19 #[.slice a len cap] w fun e w' => ∃ (g c : Nat) (rs : List RowW) (f : Int), e = .returned (.tuple #[.slice (some ⟨g, 0, none⟩) rs.length c, .int .i64 f]) ∧ rs.length ≤ 9 ∧ rs.length ≤ c ∧ -1000 ≤ f ∧ f ≤ 10001000 ∧ Row5 w' g rs ∧ Below w.heap.size w w' := by
  go_enter Try.func19, Try.ntmps19
  go_wp2_with fail
  refine (open_any h).mono ?_
  rintro e w1 ⟨b, a1, len1, cap1, rfl, R1, hb, B1⟩
  go_wp2_with fail
  refine (table_any R1 (by omega) (by omega) (by omega)).mono ?_
  rintro e w2 ⟨g, c, k2, rs, rfl, hl, hf, hk2, R2, O2, G2⟩
  have HO := Lib.hid O2
  have HB := Lib.hid (below_drawn B1 hb B1.size G2)
  have HF := Lib.hid hf
  clear O2 G2 B1 hf
  have hlt := R1.lt
  by_cases h0 : rs.length = 0
  · go_wp2_with fail
    go_ret2
    exact ⟨g, c, rs, 5, by rw [h0]; rfl, hl, (own_cells HO.out).2.2.2.2, by omega, by omega, row5_of HO.out, HB.out⟩
  · go_wp2_with fail
    refine (pick_any R2 (by omega) (by omega) (by omega)).mono ?_
    rintro e w3 ⟨q, m3, q0, q1, rfl, hw3⟩
    have G3 : w2.grownBy w3 (some b) := by rw [hw3]; exact grown_drewN (Lib.grownBy_setB (grown_refl _ _) 1 _) m3
    have R3 : Rd w3 b a1 len1 cap1 (k2 + 1) := by rw [hw3]; exact R2.step m3
    clear hw3 R2
    have O3 := Lib.hid (HO.out.kept G3 (.inr (by intro e; have := (HO.out.lt _ e).1; omega)))
    have B3 := Lib.hid (below_drawn HB.out hb HB.out.size G3)
    clear G3 HO HB
    obtain ⟨j, rfl⟩ : ∃ j : Nat, q = (j : Int) := ⟨q.toNat, by omega⟩
    have hj : j < rs.length := by omega
    have hfr := HF.out rs[j] (List.getElem_mem hj)
    obtain ⟨c0, _⟩ := row5_of O3.out j hj
    have hgl := World.block_lt_of_cell? w3 _ c0
    dsimp only at c0 hgl
    generalize rs[j].f = f0 at *
    have hcc := (own_cells O3.out).2.2.2.2
    clear q0
    have hltb := R3.lt
    have hgb : g < b ∨ b < g := by
      have := (O3.out.lt _ rfl).1
      dsimp only at this
      omega
    have R0 := R3
    clear R3 R1
    have hU := frS_at
    go_wp2_with fail
    go_region_with (first
        | (go_at_call 32; refine Calls.mono (pick_any (a := a1) (len := len1) (cap := cap1) (by with_reducible (repeat (first | exact R0 | apply Rd.drewN | apply Rd.drew | apply Rd.alloc)); all_goals (refine Rd.ofX ?_ (by omega); with_reducible repeat (first | exact Rdx.mk R0 | apply Rdx.drewN | apply Rdx.drew | apply Rdx.alloc | refine Rdx.set ?_ (by omega)))) (by omega) (by omega) (by omega)) ?_; rintro e w' ⟨p', m', q0, q1, rfl, rfl⟩))
    all_goals
      go_wp2_with fail
      go_ret2
      refine ⟨g, c, rs, _, rfl, hl, hcc, (frS_in _ hfr ?_ ?_ ?_ ?_ ?_ ?_).1, (frS_in _ hfr ?_ ?_ ?_ ?_ ?_ ?_).2, at_end O3.out rfl hlt B3.out hb ?_⟩
      all_goals first | assumption | (with_reducible repeat (first | exact grown_refl _ _ | apply grown_drewN | apply grown_drew | apply Lib.grownBy_allocR | apply Lib.grownBy_setB))

end Go.Proofs.Ythbebgnjidaokaa
