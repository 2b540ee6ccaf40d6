/-
  The draws of chapter 3's laws that draw one number or one matrix.
-/
import Derived.Test.YtlndnghdddekaaaDrawT
import Derived.Test.YtlndnghdddekaaaWTwoOk
namespace Go.Proofs.Ytlndnghdddekaaa
open Go.RowKit Fl

set_option maxHeartbeats 400000 in
theorem drawSeriesPart_any {a : Option Addr} {len cap : Nat} {zs : List Int} {w : World} (h : IsRow .u8 w a len cap zs) :
    Calls Try.prog 11 #[.slice a len cap] w (Got (NumOk 4) w) := by
  go_enter Try.func11, Try.ntmps11
  go_wp2_with fail
  refine (open_any h).mono ?_
  rintro e w1 ⟨b, a1, len1, cap1, rfl, R1, hb, B1⟩
  go_wp2_with fail
  refine (num_any R1 (by omega) (by omega) (by omega)).mono ?_
  rintro e w2 ⟨v, k2, hv, rfl, _, R2, G2⟩
  have B2 := below_drawn B1 hb B1.size G2
  clear R1 R2 G2 B1
  obtain ⟨x, y, re, im, rfl, hrest⟩ := hv
  have HR := Lib.hid hrest
  clear hrest
  go_wp2_with fail
  go_ret
  exact ⟨_, ⟨x, y, re, im, rfl, HR.out⟩, rfl, B2⟩

set_option maxHeartbeats 400000 in
theorem drawShuntPart_any {a : Option Addr} {len cap : Nat} {zs : List Int} {w : World} (h : IsRow .u8 w a len cap zs) :
    Calls Try.prog 22 #[.slice a len cap] w (Got (NumOk 4) w) := by
  go_enter Try.func22, Try.ntmps22
  go_wp2_with fail
  refine (open_any h).mono ?_
  rintro e w1 ⟨b, a1, len1, cap1, rfl, R1, hb, B1⟩
  go_wp2_with fail
  refine (num_any R1 (by omega) (by omega) (by omega)).mono ?_
  rintro e w2 ⟨v, k2, hv, rfl, _, R2, G2⟩
  have B2 := below_drawn B1 hb B1.size G2
  clear R1 R2 G2 B1
  obtain ⟨x, y, re, im, rfl, hrest⟩ := hv
  have HR := Lib.hid hrest
  clear hrest
  go_wp2_with fail
  go_ret
  exact ⟨_, ⟨x, y, re, im, rfl, HR.out⟩, rfl, B2⟩

set_option maxHeartbeats 400000 in
theorem drawTurnedChain_any {a : Option Addr} {len cap : Nat} {zs : List Int} {w : World} (h : IsRow .u8 w a len cap zs) :
    Calls Try.prog 42 #[.slice a len cap] w (Got IsTwo w) := by
  go_enter Try.func42, Try.ntmps42
  go_wp2_with fail
  refine (open_any (h.alloc _)).mono ?_
  rintro e w1 ⟨b, a1, len1, cap1, rfl, R1, hb, B1⟩
  have hs : (w.alloc (.cells #[.complex .f32 0 0, .complex .f32 0 0, .complex .f32 0 0, .complex .f32 0 0] 26)).heap.size = w.heap.size + 1 := by simp
  have A1 := (Blk.new w 0 0 0 0 0 0 0 0).below B1 (by omega)
  have B2 := (((Below.refl w.heap.size w).alloc (Nat.le_refl _) (.cells #[.complex .f32 0 0, .complex .f32 0 0, .complex .f32 0 0, .complex .f32 0 0] 26))).trans (B1.mono (B' := w.heap.size) (by omega))
  clear B1
  go_wp2_with fail
  refine (two_any R1 (by omega) (by omega) (by omega)).mono ?_
  rintro e w2 ⟨v, k2, ⟨x1, y1, x2, y2, x3, y3, x4, y4, rfl⟩, rfl, _, R2, G2⟩
  have A2 := A1.grown G2 (by omega)
  have B3 := Lib.hid (below_drawn B2 (show w.heap.size ≤ b by omega) B2.size G2)
  have r0 := A2.c0
  have r1 := A2.c1
  have r2 := A2.c2
  have r3 := A2.c3
  have q0 := A2.fr 0
  have q1 := A2.fr 1
  have q2 := A2.fr 2
  have q3 := A2.fr 3
  have HA := Lib.hid A2
  clear R1 R2 G2 B2 A1 A2 hs
  go_wp2_with fail
  refine bodyPost_ret (results_two rfl _ rfl ((((HA.out.s0 _ _).s1 _ _).s2 _ _).s3 _ _)) rfl ?_
  exact ⟨_, ⟨_, _, _, _, _, _, _, _, rfl⟩, rfl, below_set4 B3.out (Nat.le_refl _) _ _ _ _⟩


end Go.Proofs.Ytlndnghdddekaaa
