/-
  The walk of FnTransformerPart: it answers true.
-/
import Derived.Test.YtlndnghdddekaaaDraw5
import Derived.Test.YtlndnghdddekaaaChain3
import Derived.Test.YtlndnghdddekaaaWGyratorPart
import Derived.Test.YtlndnghdddekaaaDet
import Derived.Deep.RegionWith
namespace Go.Proofs.Ytlndnghdddekaaa
open Go.RowKit Fl

def tR (q : Nat) : Nat := [1065353216, 1073741824, 3229614080, 1056964608].getD q 0
def tE (q : Nat) : Nat := [1065353216, 1056964608, 3196059648, 1073741824].getD q 0
def tF (q : Nat) : Nat := [0, 0, 2147483648, 0].getD q 0
def pP (k j : Nat) : Nat × Nat := (pMul (tR k) 0 (tR j) 0).getD (0, 0)
def pX (k j : Nat) : Nat := (pP k j).1
def pY (k j : Nat) : Nat := (pP k j).2
def pQ (k j : Nat) : Nat × Nat := (pInv (pX k j) (pY k j)).getD (0, 0)
def pE (k j : Nat) : Nat := (pQ k j).1
def pF (k j : Nat) : Nat := (pQ k j).2

theorem four (q : Nat) (h : q < 4) : #[Value.complex .f32 1065353216 0, .complex .f32 1073741824 0, .complex .f32 3229614080 0, .complex .f32 1056964608 0][q]? = some (.complex .f32 (tR q) 0) := by
  have hq : q = 0 ∨ q = 1 ∨ q = 2 ∨ q = 3 := by omega
  rcases hq with rfl | rfl | rfl | rfl
  all_goals rfl

theorem table (k j : Fin 4) : pInv (tR k) 0 = some (tE k, tF k) ∧ fin .f32 (tR k) = true ∧ FloatKind.f32.format.order (tR k) 0 ≠ some .eq ∧ fin .f32 (tE k) = true ∧ fin .f32 (tF k) = true ∧
    pMul (tR k) 0 (tR j) 0 = some (pX k j, pY k j) ∧ pInv (pX k j) (pY k j) = some (pE k j, pF k j) ∧ fin .f32 (pX k j) = true ∧ fin .f32 (pY k j) = true ∧ FloatKind.f32.format.order (pX k j) 0 ≠ some .eq ∧ fin .f32 (pE k j) = true ∧ fin .f32 (pF k j) = true ∧
    check ⟨tR k, 0, 0, 0, 0, 0, tE k, tF k⟩ ⟨tR j, 0, 0, 0, 0, 0, tE j, tF j⟩ ⟨pX k j, pY k j, 0, 0, 0, 0, pE k j, pF k j⟩ = true := by
  revert k j
  decide +kernel

theorem inv_t {k : Nat} (hk : k < 4) : Inv (tR k) 0 (tE k) (tF k) true := by
  obtain ⟨h1, h2, h3, h4, h5, _⟩ := table ⟨k, hk⟩ 0
  exact .inr (.inr ⟨rfl, by rw [h2]; rfl, fun h => h3 h.1, run_pInv h2 (by decide) h1, h4, h5⟩)
theorem inv_p {k j : Nat} (hk : k < 4) (hj : j < 4) : Inv (pX k j) (pY k j) (pE k j) (pF k j) true := by
  obtain ⟨_, _, _, _, _, _, h1, h2, h3, h4, h5, h6, _⟩ := table ⟨k, hk⟩ ⟨j, hj⟩
  exact .inr (.inr ⟨rfl, by rw [h2, h3]; rfl, fun h => h4 h.1, run_pInv h2 h3 h1, h5, h6⟩)
theorem prod_t {k j : Nat} (hk : k < 4) (hj : j < 4) (P : Program) (t : TypeId) (w : World) : (binOp .mul t (.complex .f32 (tR k) 0) (.complex .f32 (tR j) 0)).run P w = .ok (.complex .f32 (pX k j) (pY k j)) w :=
  run_pMul (table ⟨k, hk⟩ 0).2.1 (by decide) (table ⟨j, hj⟩ 0).2.1 (by decide) (table ⟨k, hk⟩ ⟨j, hj⟩).2.2.2.2.2.1 P t w
theorem check_t {k j : Nat} (hk : k < 4) (hj : j < 4) : check ⟨tR k, 0, 0, 0, 0, 0, tE k, tF k⟩ ⟨tR j, 0, 0, 0, 0, 0, tE j, tF j⟩ ⟨pX k j, pY k j, 0, 0, 0, 0, pE k j, pF k j⟩ = true :=
  (table ⟨k, hk⟩ ⟨j, hj⟩).2.2.2.2.2.2.2.2.2.2.2.2

theorem inv_quo {x y e f : Nat} (h : Inv x y e f true) : (∀ (P : Program) (t : TypeId) (w : World), (binOp .quo t (.complex .f32 1065353216 0) (.complex .f32 x y)).run P w = .ok (.complex .f32 e f) w) ∧ fin .f32 x = true ∧ fin .f32 y = true := by
  rcases h with ⟨h, _⟩ | ⟨h, _⟩ | ⟨_, h1, _, h2, _⟩
  · cases h
  · cases h
  · simp only [Bool.and_eq_true] at h1
    exact ⟨h2, h1.1, h1.2⟩

theorem At.drew {w : World} {S : Nat} {o : Obj} (H : At w S o) : At w.drew S o := H
theorem below_drew' {B : Nat} {a w : World} (h : Below B a w) : Below B a w.drew := ⟨h.os, h.tape, h.output, h.size, h.block⟩
theorem below_allocS' {w w1 : World} {o : Obj} (h : Below w.heap.size w w1) : Below w.heap.size w (w1.alloc o) := h.alloc h.size o

theorem blk_then {G : Prop} {w1 w2 : World} {B : Nat} (C : Calm w1 w2) (h : Blk w1 B 0 0 0 0 0 0 0 0)
    (k : w2.cell? ⟨B, 0, none⟩ = some (.complex .f32 0 0) → w2.cell? ⟨B, 1, none⟩ = some (.complex .f32 0 0) → w2.cell? ⟨B, 2, none⟩ = some (.complex .f32 0 0) → w2.cell? ⟨B, 3, none⟩ = some (.complex .f32 0 0) →
      w2.frozen? ⟨B, 0, none⟩ = false → w2.frozen? ⟨B, 1, none⟩ = false → w2.frozen? ⟨B, 2, none⟩ = false → w2.frozen? ⟨B, 3, none⟩ = false → Hid (Blk w2 B 0 0 0 0 0 0 0 0) → G) : G :=
  k (h.calm C).c0 (h.calm C).c1 (h.calm C).c2 (h.calm C).c3 ((h.calm C).fr 0) ((h.calm C).fr 1) ((h.calm C).fr 2) ((h.calm C).fr 3) (Lib.hid (h.calm C))

theorem four_then {G : Prop} {w w1 w2 : World} {A a b c d e f g h S B p1 q1 p2 q2 p3 q3 p4 q4 : Nat} {o : Obj} (C : Calm w1 w2) (hM : Blk w1 A a b c d e f g h) (hK : At w1 S o) (hB : Below w.heap.size w w1) (hO : Blk w1 B p1 q1 p2 q2 p3 q3 p4 q4)
    (k : Hid (Blk w2 A a b c d e f g h) → Hid (At w2 S o) → Hid (Below w.heap.size w w2) → Hid (Blk w2 B p1 q1 p2 q2 p3 q3 p4 q4) → G) : G :=
  k (Lib.hid (hM.calm C)) (Lib.hid (hK.calm C)) (Lib.hid (below_calm hB hB.size C)) (Lib.hid (hO.calm C))

set_option maxRecDepth 8000 in
set_option maxHeartbeats 40000000 in
theorem FnTransformerPart_walk (a : Option Addr) (len cap : Nat) (zs : List Int) (w : World) (h : IsRow .u8 w a len cap zs) :
    Calls Try.prog 5 #[.slice a len cap] w fun e w' => e = .returned (.bool true) ∧ Below w.heap.size w w' := by
  by_cases hl : (1048576 : Int) < (len : Int)
  · go_enter Try.func5, Try.ntmps5
    go_wp2_with fail
    go_ret
    exact ⟨rfl, Below.refl _ _⟩
  · go_enter Try.func5, Try.ntmps5
    go_wp2_with fail
    refine (drawTransformerPart_any h).mono ?_
    rintro z w1 ⟨v, ⟨x, y, rfl, e, f, β, hI⟩, rfl, B1⟩
    clear h
    have HI := Lib.hid hI
    clear hI
    obtain ⟨m1, n1, m2, n2, m3, n3, m4, n4, hV, hT, hF⟩ : ∃ m1 n1 m2 n2 m3 n3 m4 n4 : Nat, ifV β x y 0 0 0 0 e f = .tuple #[twoV m1 n1 m2 n2 m3 n3 m4 n4, .bool β] ∧
        (β = true → m1 = x ∧ n1 = y ∧ m2 = 0 ∧ n2 = 0 ∧ m3 = 0 ∧ n3 = 0 ∧ m4 = e ∧ n4 = f) ∧ (β = false → m1 = 0 ∧ n1 = 0 ∧ m2 = 0 ∧ n2 = 0 ∧ m3 = 0 ∧ n3 = 0 ∧ m4 = 0 ∧ n4 = 0) := by
      cases β
      · exact ⟨0, 0, 0, 0, 0, 0, 0, 0, rfl, (fun h => by cases h), fun _ => ⟨rfl, rfl, rfl, rfl, rfl, rfl, rfl, rfl⟩⟩
      · exact ⟨x, y, 0, 0, 0, 0, e, f, rfl, (fun _ => ⟨rfl, rfl, rfl, rfl, rfl, rfl, rfl, rfl⟩), fun h => by cases h⟩
    have HV := Lib.hid hV
    have HT := Lib.hid hT
    have HF := Lib.hid hF
    clear hV hT hF
    · go_wp2_with fail
      refine (implTrans_inv HI.out _).mono ?_
      rw [HV.out]
      rintro z w2 ⟨rfl, C⟩
      have B2 := below_calm B1 B1.size C
      clear C
      go_wp2_with fail
      refine (specTrans_inv HI.out _).mono ?_
      rw [HV.out]
      rintro z w3 ⟨rfl, C⟩
      have M3 := (Blk.new w2 m1 n1 m2 n2 m3 n3 m4 n4).calm C
      have B3 := Lib.hid (below_calm (B2.alloc B2.size _) (B2.alloc B2.size _).size C)
      clear C
      have A3 := M3.alloc (.cells #[.complex .f32 m1 n1, .complex .f32 m2 n2, .complex .f32 m3 n3, .complex .f32 m4 n4] 26)
      have c0 := A3.c0
      have c1 := A3.c1
      have c2 := A3.c2
      have c3 := A3.c3
      have HM := Lib.hid M3
      clear M3 A3 B2
      go_wp2_with fail
      refine (sameTwo_same _ _ _ _ _ _ _ _ _).mono ?_
      rintro z w4 ⟨rfl, C⟩
      have M := Lib.hid (((HM.out.alloc _).calm C).alloc (.cells #[.complex .f32 1065353216 0, .complex .f32 1073741824 0, .complex .f32 3229614080 0, .complex .f32 1056964608 0] 23))
      have K := Lib.hid (At.new w4 (.cells #[.complex .f32 1065353216 0, .complex .f32 1073741824 0, .complex .f32 3229614080 0, .complex .f32 1056964608 0] 23))
      have B := Lib.hid ((below_calm (B3.out.alloc B3.out.size _) (B3.out.alloc B3.out.size _).size C).alloc (below_calm (B3.out.alloc B3.out.size _) (B3.out.alloc B3.out.size _).size C).size (.cells #[.complex .f32 1065353216 0, .complex .f32 1073741824 0, .complex .f32 3229614080 0, .complex .f32 1056964608 0] 23))
      clear C c0 c1 c2 c3 HM B3 B1
      go_wp2_with fail
      go_loopw [9] (fun i wr => ∃ k : Nat, k ≤ 4 ∧ i = .int .i64 k ∧ Blk wr w2.heap.size m1 n1 m2 n2 m3 n3 m4 n4 ∧ At wr w4.heap.size (.cells #[.complex .f32 1065353216 0, .complex .f32 1073741824 0, .complex .f32 3229614080 0, .complex .f32 1056964608 0] 23) ∧ Below w.heap.size w wr) (fun i _ => 4 - (intOf i).toNat)
      case atStart => exact ⟨0, by omega, rfl, M.out, K.out, B.out⟩
      case round =>
        clear M K B
        obtain ⟨k, hk, rfl, M0, K0, B0⟩ := hrel
        have M := Lib.hid M0
        have K := Lib.hid K0
        have B := Lib.hid B0
        clear M0 K0 B0
        by_cases hk4 : k < 4
        · go_wp2_with fail
          have hkd : decide ((k : Int) < 4) = true := decide_eq_true (by omega)
          rw [hkd]
          clear hkd
          go_loopw [10] (fun i wx => ∃ j : Nat, j ≤ 4 ∧ i = .int .i64 j ∧ Blk wx w2.heap.size m1 n1 m2 n2 m3 n3 m4 n4 ∧ At wx w4.heap.size (.cells #[.complex .f32 1065353216 0, .complex .f32 1073741824 0, .complex .f32 3229614080 0, .complex .f32 1056964608 0] 23) ∧ Below w.heap.size w wx) (fun i _ => 4 - (intOf i).toNat)
          case atStart => exact ⟨0, by omega, rfl, M.out, K.out, B.out⟩
          case round =>
            clear M K B
            obtain ⟨j, hj, rfl, M0, K0, B0⟩ := hrel
            have M := Lib.hid M0
            have K := Lib.hid K0
            have B := Lib.hid B0
            clear M0 K0 B0
            by_cases hj4 : j < 4
            · have t0 := K.out.cell (i := k) (four k hk4)
              go_wp2_with fail
              refine (implTrans_inv (inv_t hk4) _).mono ?_
              rw [ifV_true]
              rintro z v1 ⟨rfl, C⟩
              have M1 := Lib.hid ((M.out.calm C).alloc (.cells #[.complex .f32 (tR k) 0, .complex .f32 0 0, .complex .f32 0 0, .complex .f32 (tE k) (tF k)] 26))
              have K1 := Lib.hid ((K.out.calm C).alloc (.cells #[.complex .f32 (tR k) 0, .complex .f32 0 0, .complex .f32 0 0, .complex .f32 (tE k) (tF k)] 26))
              have B1 := Lib.hid ((below_calm B.out B.out.size C).alloc (below_calm B.out B.out.size C).size (.cells #[.complex .f32 (tR k) 0, .complex .f32 0 0, .complex .f32 0 0, .complex .f32 (tE k) (tF k)] 26))
              clear C M K B t0
              have t0 := K1.out.cell (i := j) (four j hj4)
              go_wp2_with fail
              refine (implTrans_inv (inv_t hj4) _).mono ?_
              rw [ifV_true]
              rintro z v2 ⟨rfl, C⟩
              have M2 := Lib.hid ((M1.out.calm C).alloc (.cells #[.complex .f32 (tR j) 0, .complex .f32 0 0, .complex .f32 0 0, .complex .f32 (tE j) (tF j)] 26))
              have K2 := Lib.hid ((K1.out.calm C).alloc (.cells #[.complex .f32 (tR j) 0, .complex .f32 0 0, .complex .f32 0 0, .complex .f32 (tE j) (tF j)] 26))
              have B2 := Lib.hid ((below_calm B1.out B1.out.size C).alloc (below_calm B1.out B1.out.size C).size (.cells #[.complex .f32 (tR j) 0, .complex .f32 0 0, .complex .f32 0 0, .complex .f32 (tE j) (tF j)] 26))
              have A2 := ((Blk.new v1 (tR k) 0 0 0 0 0 (tE k) (tF k)).calm C).alloc (.cells #[.complex .f32 (tR j) 0, .complex .f32 0 0, .complex .f32 0 0, .complex .f32 (tE j) (tF j)] 26)
              have c0 := A2.c0
              have c1 := A2.c1
              have c2 := A2.c2
              have c3 := A2.c3
              clear C M1 K1 B1 t0 A2
              go_wp2_with fail
              refine (cascade_check (check_t hk4 hj4) _).mono ?_
              rintro z v3 ⟨⟨⟨p1, q1, p2, q2, p3, q3, p4, q4⟩, rfl, _, hE⟩, C⟩
              have HE := Lib.hid hE
              have M3 := Lib.hid ((M2.out.calm C).alloc (.cells #[.complex .f32 p1 q1, .complex .f32 p2 q2, .complex .f32 p3 q3, .complex .f32 p4 q4] 26))
              have K3 := Lib.hid ((K2.out.calm C).alloc (.cells #[.complex .f32 p1 q1, .complex .f32 p2 q2, .complex .f32 p3 q3, .complex .f32 p4 q4] 26))
              have B3 := Lib.hid ((below_calm B2.out B2.out.size C).alloc (below_calm B2.out B2.out.size C).size (.cells #[.complex .f32 p1 q1, .complex .f32 p2 q2, .complex .f32 p3 q3, .complex .f32 p4 q4] 26))
              have O3 := Lib.hid (Blk.new v3 p1 q1 p2 q2 p3 q3 p4 q4)
              clear C M2 K2 B2 c0 c1 c2 c3 hE
              have t0 := K3.out.cell (i := k) (four k hk4)
              have t1 := K3.out.cell (i := j) (four j hj4)
              have hm := prod_t hk4 hj4
              unfold Words.v
              go_wp2_with fail
              generalize (v3.alloc (.cells #[.complex .f32 p1 q1, .complex .f32 p2 q2, .complex .f32 p3 q3, .complex .f32 p4 q4] 26)) = W at M3 K3 B3 O3 t0 t1 ⊢
              have hlt := K3.out.lt
              have hltO := O3.out.lt
              have hltM := M3.out.lt
              have hBW := B3.out.size
              go_region_with (go_at_call 28; refine Calls.mono (implTrans_inv (inv_p hk4 hj4) _) ?_; rw [ifV_true]; rintro z v4 ⟨rfl, C⟩; refine four_then (w := w) (A := w2.heap.size) (a := m1) (b := n1) (c := m2) (d := n2) (e := m3) (f := n3) (g := m4) (h := n4) (S := w4.heap.size) (o := (.cells #[.complex .f32 1065353216 0, .complex .f32 1073741824 0, .complex .f32 3229614080 0, .complex .f32 1056964608 0] 23)) (B := v3.heap.size) (p1 := p1) (q1 := q1) (p2 := p2) (q2 := q2) (p3 := p3) (q3 := q3) (p4 := p4) (q4 := q4) C ?_ ?_ ?_ ?_ (fun M4 K4 B4 O4 => ?_); (focus (with_reducible (repeat (first | exact M3.out | apply Blk.drewN | apply Blk.drew | apply Blk.alloc)); done)); (focus (with_reducible (repeat (first | exact K3.out | apply At.drewN | apply At.drew | apply At.alloc)); done)); (focus (with_reducible (repeat (first | exact B3.out | apply below_drewN | apply below_drew' | apply below_allocS')); done)); (focus (with_reducible (repeat (first | exact O3.out | apply Blk.drewN | apply Blk.drew | apply Blk.alloc)); done)); first | (refine blk_then (B := W.heap.size) C ?_ (fun z0 z1 z2 z3 y0 y1 y2 y3 Z4 => ?_); focus (with_reducible (repeat (first | exact Blk.new W 0 0 0 0 0 0 0 0 | apply Blk.drewN | apply Blk.drew)); done)) | skip)
              all_goals
                have hnO : v3.heap.size ≠ W.heap.size := by omega
                have hnM : w2.heap.size ≠ W.heap.size := by omega
                have hnK : w4.heap.size ≠ W.heap.size := by omega
                clear t0 t1 hm M3 K3 B3 O3
                first
                | (have A5 := Lib.hid (Z4.out.set4' (pX k j) (pY k j) 0 0 0 0 (pE k j) (pF k j))
                   have M5 := Lib.hid (M4.out.not4' hnM (.complex .f32 (pX k j) (pY k j)) (.complex .f32 0 0) (.complex .f32 0 0) (.complex .f32 (pE k j) (pF k j)))
                   have K5 := Lib.hid (K4.out.not4 hnK (.complex .f32 (pX k j) (pY k j)) (.complex .f32 0 0) (.complex .f32 0 0) (.complex .f32 (pE k j) (pF k j)))
                   have O5 := Lib.hid (O4.out.not4' hnO (.complex .f32 (pX k j) (pY k j)) (.complex .f32 0 0) (.complex .f32 0 0) (.complex .f32 (pE k j) (pF k j)))
                   have B5 := Lib.hid (below_set4 B4.out hBW (.complex .f32 (pX k j) (pY k j)) (.complex .f32 0 0) (.complex .f32 0 0) (.complex .f32 (pE k j) (pF k j)))
                   clear Z4 z0 z1 z2 z3 y0 y1 y2 y3)
                | (have A5 := Lib.hid (Blk.new v4 (pX k j) (pY k j) 0 0 0 0 (pE k j) (pF k j))
                   have M5 := Lib.hid (M4.out.alloc (.cells #[.complex .f32 (pX k j) (pY k j), .complex .f32 0 0, .complex .f32 0 0, .complex .f32 (pE k j) (pF k j)] 26))
                   have K5 := Lib.hid (K4.out.alloc (.cells #[.complex .f32 (pX k j) (pY k j), .complex .f32 0 0, .complex .f32 0 0, .complex .f32 (pE k j) (pF k j)] 26))
                   have O5 := Lib.hid (O4.out.alloc (.cells #[.complex .f32 (pX k j) (pY k j), .complex .f32 0 0, .complex .f32 0 0, .complex .f32 (pE k j) (pF k j)] 26))
                   have B5 := Lib.hid (below_allocS' (o := (.cells #[.complex .f32 (pX k j) (pY k j), .complex .f32 0 0, .complex .f32 0 0, .complex .f32 (pE k j) (pF k j)] 26)) B4.out))
                have c0 := O5.out.c0
                have c1 := O5.out.c1
                have c2 := O5.out.c2
                have c3 := O5.out.c3
                have s0 := A5.out.c0
                have s1 := A5.out.c1
                have s2 := A5.out.c2
                have s3 := A5.out.c3
                clear M4 K4 B4 O4 C hnO hnM hnK
                go_wp2_with fail
                obtain ⟨j1, j2, j3, j4⟩ := HE.out
                refine (equalTwo_of j1 j2 j3 j4 _).mono ?_
                clear j1 j2 j3 j4 HE
                rintro z v5 ⟨rfl, C⟩
                have M6 := M5.out.calm C
                have K6 := K5.out.calm C
                have B6 := below_calm B5.out B5.out.size C
                have N6 := Lib.hid (And.intro M6 (And.intro K6 B6))
                clear C c0 c1 c2 c3 s0 s1 s2 s3 A5 M5 K5 O5 B5 M6 K6 B6
                go_wp2_with fail
                go_roundw
                case rel => exact ⟨j + 1, by omega, by go_num, N6.out.1, N6.out.2.1, N6.out.2.2⟩
                case measure => simp [intOf]; omega
            · go_wp2_with fail
              go_roundw
              case rel => exact ⟨k + 1, by omega, by go_num, M.out, K.out, B.out⟩
              case measure => simp [intOf]; omega
        · cases β
          · obtain ⟨rfl, rfl, rfl, rfl, rfl, rfl, rfl, rfl⟩ := HF.out rfl
            have c0 := M.out.c0
            have c1 := M.out.c1
            have c2 := M.out.c2
            have c3 := M.out.c3
            go_wp2_with fail
            refine (noTwo_zero _).mono ?_
            rintro z v1 ⟨rfl, C⟩
            have B2 := Lib.hid (below_calm B.out B.out.size C)
            clear C c0 c1 c2 c3 M K B
            go_wp2_with fail
            refine (alive_any _).mono ?_
            rintro z v2 ⟨rfl, rfl⟩
            go_wp2_with fail
            go_ret
            exact ⟨rfl, B2.out⟩
          · obtain ⟨rfl, rfl, rfl, rfl, rfl, rfl, rfl, rfl⟩ := HT.out rfl
            have c0 := M.out.c0
            have c1 := M.out.c1
            have c2 := M.out.c2
            have c3 := M.out.c3
            go_wp2_with fail
            obtain ⟨hq, fx, fy⟩ := inv_quo HI.out
            by_cases hok : (okK m1 && okK n1) = true
            · have hm : mOf m1 n1 = .tuple #[.int .i64 (sK m1), .int .i64 (sK n1), .bool true] := by
                unfold mOf
                simp only [Bool.and_eq_true] at hok
                rw [fx, fy, hok.1, hok.2]; rfl
              have MO := Lib.hid hm
              clear hm
              by_cases hn : sK m1 = 0 ∧ sK n1 = 0
              · obtain ⟨z1, z2⟩ := hn
                refine (implDeterminant_any _ _ _ _ _ _ _ _ _).mono ?_
                rintro z v1 ⟨⟨p, q, γ, rfl⟩, C⟩
                have B2 := Lib.hid (below_calm B.out B.out.size C)
                clear C c0 c1 c2 c3 M K B hq fx fy hok
                go_wp2_with fail
                refine (specMilliOf_any _ _ _).mono ?_
                rw [MO.out]
                rintro z v2 ⟨rfl, n, rfl⟩
                cases γ
                all_goals
                  go_wp2_with fail
                  go_ret
                  exact ⟨rfl, below_drewN B2.out _⟩
              · simp only [Bool.and_eq_true] at hok
                obtain ⟨re, im, g1, g2, g3, g4, g5, g6, g7⟩ := det_near w fx fy hok.1 hok.2 hn hq
                have hn' : sK m1 = 0 → ¬ sK n1 = 0 := fun h1 h2 => hn ⟨h1, h2⟩
                refine (implDeterminant_near fx fy g2 g3 g4 g5 g1 g6 g7 _).mono ?_
                rintro z v1 ⟨⟨p, q, rfl, hN⟩, C⟩
                have B2 := Lib.hid (below_calm B.out B.out.size C)
                have HN := Lib.hid hN
                clear C c0 c1 c2 c3 M K B hq fx fy hok g1 g2 g3 g4 g5 g6 g7 hn hN
                go_wp2_with fail
                refine (specMilliOf_any _ _ _).mono ?_
                rw [MO.out]
                rintro z v2 ⟨rfl, n, rfl⟩
                by_cases h1 : sK m1 = 0
                · have h2 := hn' h1
                  clear hn'
                  go_wp2_with fail
                  refine (implNear_any _ _ _ _ _ _ (by decide)).mono ?_
                  rw [HN.out]
                  rintro z v3 ⟨rfl, n2, rfl⟩
                  go_wp2_with fail
                  go_ret
                  exact ⟨rfl, below_drewN B2.out _⟩
                · clear hn'
                  go_wp2_with fail
                  refine (implNear_any _ _ _ _ _ _ (by decide)).mono ?_
                  rw [HN.out]
                  rintro z v3 ⟨rfl, n2, rfl⟩
                  go_wp2_with fail
                  go_ret
                  exact ⟨rfl, below_drewN B2.out _⟩
            · have hm : mOf m1 n1 = .tuple #[.int .i64 0, .int .i64 0, .bool false] := by
                unfold mOf
                have hf : (okK m1 && okK n1) = false := by simpa using hok
                rw [fx, fy, Bool.true_and, Bool.true_and, hf]; rfl
              have MO := Lib.hid hm
              refine (implDeterminant_any _ _ _ _ _ _ _ _ _).mono ?_
              rintro z v1 ⟨⟨p, q, γ, rfl⟩, C⟩
              have B2 := Lib.hid (below_calm B.out B.out.size C)
              clear C c0 c1 c2 c3 M K B hq fx fy hok hm
              go_wp2_with fail
              refine (specMilliOf_any _ _ _).mono ?_
              rw [MO.out]
              rintro z v2 ⟨rfl, n, rfl⟩
              cases γ
              all_goals
                go_wp2_with fail
                go_ret
                exact ⟨rfl, below_drewN B2.out _⟩

end Go.Proofs.Ytlndnghdddekaaa
