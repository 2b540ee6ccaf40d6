/-
  SeenAt in the program where all words are known.
-/
import Derived.Test.YteikkbmmbnihaaaLadQ
namespace Go.Proofs.Yteikkbmmbnihaaa
open Go.RowKit Fl

set_option maxRecDepth 8000 in
set_option maxHeartbeats 4000000 in
theorem implAt_f {m : Words} {x1 y1 x2 y2 o p : Nat} (A : AtW m x1 y1 x2 y2 o p) (w : World) :
    Calls Try.prog 31 #[m.v, .complex .f32 1065353216 0] w fun z w' => z = .returned (.tuple #[.complex .f32 o p, .bool true]) ∧ Calm w w' := by
  obtain ⟨a, b, c, d, e, f, g, h⟩ := m
  have HQ := Lib.hid (implQuotient_w A.k1 A.k2 A.k3 A.nz A.q)
  have m1 := A.m1
  have m2 := A.m2
  obtain ⟨s1, s1'⟩ := A.s1
  obtain ⟨s2, s2'⟩ := A.s2
  obtain ⟨s3, s3'⟩ := A.s3
  obtain ⟨s4, s4'⟩ := A.s4
  dsimp only at m1 m2 s1 s1' s2 s2' s3 s3' s4 s4' HQ
  clear A
  unfold Words.v
  dsimp only
  go_enter Try.func31, Try.ntmps31
  go_wp2_with fail
  refine (HQ.out _).mono ?_
  rintro z w1 ⟨rfl, n, rfl⟩
  go_wp2_with fail
  go_ret2
  exact ⟨rfl, grown_drewN (World.grownBy_alloc w _ none) _⟩

end Go.Proofs.Yteikkbmmbnihaaa
