/-
  What is between two rows, in the program.
-/
import Derived.Test.YthbebgnjidaokaaLost
import Derived.Test.YthbebgnjidaokaaScatS
import Derived.Test.YthbebgnjidaokaaC3
namespace Go.Proofs.Ythbebgnjidaokaa
open Go.RowKit Fl

/-- What is between two rows, out of what is between their numbers. -/
theorem onWays {q r : Words} {t u1 v1 u2 v2 u3 v3 u4 v4 : Nat} (h1 : OnWay (q.a, q.b) (r.a, r.b) t u1 v1) (h2 : OnWay (q.c, q.d) (r.c, r.d) t u2 v2) (h3 : OnWay (q.e, q.f) (r.e, r.f) t u3 v3) (h4 : OnWay (q.g, q.h) (r.g, r.h) t u4 v4) :
    okTwo u1 v1 u2 v2 u3 v3 u4 v4 = scV (betRow q r t) := by
  have key : ∀ {x y : Nat × Nat} {u v : Nat}, OnWay x y t u v → (betB x y t = some (u, v) ∧ (fin .f32 u && fin .f32 v) = true) ∨ (betB x y t = none ∧ (fin .f32 u && fin .f32 v) = false) := by
    intro x y u v h
    rcases h with h | h
    · obtain ⟨a, b⟩ := betB_fin h
      exact .inl ⟨h, by rw [a, b]; rfl⟩
    · exact .inr h
  unfold okTwo finTwo betRow
  rcases key h1 with ⟨a1, b1⟩ | ⟨a1, b1⟩
  · rcases key h2 with ⟨a2, b2⟩ | ⟨a2, b2⟩
    · rcases key h3 with ⟨a3, b3⟩ | ⟨a3, b3⟩
      · rcases key h4 with ⟨a4, b4⟩ | ⟨a4, b4⟩
        · rw [a1, a2, a3, a4, b1, b2, b3, b4]; rfl
        · rw [a1, a2, a3, a4, b1, b2, b3, b4]; rfl
      · rw [a1, a2, a3, b1, b2, b3]
        cases (fin .f32 u4 && fin .f32 v4) <;> rfl
    · rw [a1, a2, b1, b2]
      cases (fin .f32 u3 && fin .f32 v3) <;> cases (fin .f32 u4 && fin .f32 v4) <;> rfl
  · rw [a1, b1]
    cases (fin .f32 u2 && fin .f32 v2) <;> cases (fin .f32 u3 && fin .f32 v3) <;> cases (fin .f32 u4 && fin .f32 v4) <;> rfl
theorem scV_two (o : Option Words) : ∃ a b c d e f g h β, scV o = .tuple #[twoV a b c d e f g h, .bool β] := by
  cases o with
  | none => exact ⟨0, 0, 0, 0, 0, 0, 0, 0, false, rfl⟩
  | some m => exact ⟨m.a, m.b, m.c, m.d, m.e, m.f, m.g, m.h, true, rfl⟩

/-- What the region holds. -/
theorem bt_of {w wx : World} {X Y Z : Nat} {q r : Words} (HX : Blk wx X q.a q.b q.c q.d q.e q.f q.g q.h) (HY : Blk wx Y r.a r.b r.c r.d r.e r.f r.g r.h) (HZ : BlkE wx Z) (C : Calm w wx) : wx.cell? ⟨X, 0, none⟩ = some (.complex .f32 q.a q.b) ∧ wx.cell? ⟨X, 1, none⟩ = some (.complex .f32 q.c q.d) ∧ wx.cell? ⟨X, 2, none⟩ = some (.complex .f32 q.e q.f) ∧ wx.cell? ⟨X, 3, none⟩ = some (.complex .f32 q.g q.h) ∧ wx.cell? ⟨Y, 0, none⟩ = some (.complex .f32 r.a r.b) ∧ wx.cell? ⟨Y, 1, none⟩ = some (.complex .f32 r.c r.d) ∧ wx.cell? ⟨Y, 2, none⟩ = some (.complex .f32 r.e r.f) ∧ wx.cell? ⟨Y, 3, none⟩ = some (.complex .f32 r.g r.h) ∧ Blk wx X q.a q.b q.c q.d q.e q.f q.g q.h ∧ Blk wx Y r.a r.b r.c r.d r.e r.f r.g r.h ∧ BlkE wx Z ∧ Calm w wx :=
  ⟨HX.c0, HX.c1, HX.c2, HX.c3, HY.c0, HY.c1, HY.c2, HY.c3, HX, HY, HZ, C⟩
theorem bt_drew {w wx : World} {X Y Z : Nat} {q r : Words} (H : wx.cell? ⟨X, 0, none⟩ = some (.complex .f32 q.a q.b) ∧ wx.cell? ⟨X, 1, none⟩ = some (.complex .f32 q.c q.d) ∧ wx.cell? ⟨X, 2, none⟩ = some (.complex .f32 q.e q.f) ∧ wx.cell? ⟨X, 3, none⟩ = some (.complex .f32 q.g q.h) ∧ wx.cell? ⟨Y, 0, none⟩ = some (.complex .f32 r.a r.b) ∧ wx.cell? ⟨Y, 1, none⟩ = some (.complex .f32 r.c r.d) ∧ wx.cell? ⟨Y, 2, none⟩ = some (.complex .f32 r.e r.f) ∧ wx.cell? ⟨Y, 3, none⟩ = some (.complex .f32 r.g r.h) ∧ Blk wx X q.a q.b q.c q.d q.e q.f q.g q.h ∧ Blk wx Y r.a r.b r.c r.d r.e r.f r.g r.h ∧ BlkE wx Z ∧ Calm w wx) : wx.drew.cell? ⟨X, 0, none⟩ = some (.complex .f32 q.a q.b) ∧ wx.drew.cell? ⟨X, 1, none⟩ = some (.complex .f32 q.c q.d) ∧ wx.drew.cell? ⟨X, 2, none⟩ = some (.complex .f32 q.e q.f) ∧ wx.drew.cell? ⟨X, 3, none⟩ = some (.complex .f32 q.g q.h) ∧ wx.drew.cell? ⟨Y, 0, none⟩ = some (.complex .f32 r.a r.b) ∧ wx.drew.cell? ⟨Y, 1, none⟩ = some (.complex .f32 r.c r.d) ∧ wx.drew.cell? ⟨Y, 2, none⟩ = some (.complex .f32 r.e r.f) ∧ wx.drew.cell? ⟨Y, 3, none⟩ = some (.complex .f32 r.g r.h) ∧ Blk wx.drew X q.a q.b q.c q.d q.e q.f q.g q.h ∧ Blk wx.drew Y r.a r.b r.c r.d r.e r.f r.g r.h ∧ BlkE wx.drew Z ∧ Calm w wx.drew := by
  obtain ⟨_, _, _, _, _, _, _, _, HX, HY, HZ, C⟩ := H
  exact bt_of HX HY HZ (grown_drew C)
theorem bt_drewN {w wx : World} {X Y Z n : Nat} {q r : Words} (H : wx.cell? ⟨X, 0, none⟩ = some (.complex .f32 q.a q.b) ∧ wx.cell? ⟨X, 1, none⟩ = some (.complex .f32 q.c q.d) ∧ wx.cell? ⟨X, 2, none⟩ = some (.complex .f32 q.e q.f) ∧ wx.cell? ⟨X, 3, none⟩ = some (.complex .f32 q.g q.h) ∧ wx.cell? ⟨Y, 0, none⟩ = some (.complex .f32 r.a r.b) ∧ wx.cell? ⟨Y, 1, none⟩ = some (.complex .f32 r.c r.d) ∧ wx.cell? ⟨Y, 2, none⟩ = some (.complex .f32 r.e r.f) ∧ wx.cell? ⟨Y, 3, none⟩ = some (.complex .f32 r.g r.h) ∧ Blk wx X q.a q.b q.c q.d q.e q.f q.g q.h ∧ Blk wx Y r.a r.b r.c r.d r.e r.f r.g r.h ∧ BlkE wx Z ∧ Calm w wx) : (wx.drewN n).cell? ⟨X, 0, none⟩ = some (.complex .f32 q.a q.b) ∧ (wx.drewN n).cell? ⟨X, 1, none⟩ = some (.complex .f32 q.c q.d) ∧ (wx.drewN n).cell? ⟨X, 2, none⟩ = some (.complex .f32 q.e q.f) ∧ (wx.drewN n).cell? ⟨X, 3, none⟩ = some (.complex .f32 q.g q.h) ∧ (wx.drewN n).cell? ⟨Y, 0, none⟩ = some (.complex .f32 r.a r.b) ∧ (wx.drewN n).cell? ⟨Y, 1, none⟩ = some (.complex .f32 r.c r.d) ∧ (wx.drewN n).cell? ⟨Y, 2, none⟩ = some (.complex .f32 r.e r.f) ∧ (wx.drewN n).cell? ⟨Y, 3, none⟩ = some (.complex .f32 r.g r.h) ∧ Blk (wx.drewN n) X q.a q.b q.c q.d q.e q.f q.g q.h ∧ Blk (wx.drewN n) Y r.a r.b r.c r.d r.e r.f r.g r.h ∧ BlkE (wx.drewN n) Z ∧ Calm w (wx.drewN n) := by
  obtain ⟨_, _, _, _, _, _, _, _, HX, HY, HZ, C⟩ := H
  exact bt_of (HX.drewN n) (HY.drewN n) HZ.drewN (grown_drewN C n)
theorem bt_calm {w wx wy : World} {X Y Z : Nat} {q r : Words} (K : Calm wx wy) (H : wx.cell? ⟨X, 0, none⟩ = some (.complex .f32 q.a q.b) ∧ wx.cell? ⟨X, 1, none⟩ = some (.complex .f32 q.c q.d) ∧ wx.cell? ⟨X, 2, none⟩ = some (.complex .f32 q.e q.f) ∧ wx.cell? ⟨X, 3, none⟩ = some (.complex .f32 q.g q.h) ∧ wx.cell? ⟨Y, 0, none⟩ = some (.complex .f32 r.a r.b) ∧ wx.cell? ⟨Y, 1, none⟩ = some (.complex .f32 r.c r.d) ∧ wx.cell? ⟨Y, 2, none⟩ = some (.complex .f32 r.e r.f) ∧ wx.cell? ⟨Y, 3, none⟩ = some (.complex .f32 r.g r.h) ∧ Blk wx X q.a q.b q.c q.d q.e q.f q.g q.h ∧ Blk wx Y r.a r.b r.c r.d r.e r.f r.g r.h ∧ BlkE wx Z ∧ Calm w wx) : wy.cell? ⟨X, 0, none⟩ = some (.complex .f32 q.a q.b) ∧ wy.cell? ⟨X, 1, none⟩ = some (.complex .f32 q.c q.d) ∧ wy.cell? ⟨X, 2, none⟩ = some (.complex .f32 q.e q.f) ∧ wy.cell? ⟨X, 3, none⟩ = some (.complex .f32 q.g q.h) ∧ wy.cell? ⟨Y, 0, none⟩ = some (.complex .f32 r.a r.b) ∧ wy.cell? ⟨Y, 1, none⟩ = some (.complex .f32 r.c r.d) ∧ wy.cell? ⟨Y, 2, none⟩ = some (.complex .f32 r.e r.f) ∧ wy.cell? ⟨Y, 3, none⟩ = some (.complex .f32 r.g r.h) ∧ Blk wy X q.a q.b q.c q.d q.e q.f q.g q.h ∧ Blk wy Y r.a r.b r.c r.d r.e r.f r.g r.h ∧ BlkE wy Z ∧ Calm w wy := by
  obtain ⟨_, _, _, _, _, _, _, _, HX, HY, ⟨a, b, c, d, e, f, g, h, HZ⟩, C⟩ := H
  exact bt_of (HX.calm K) (HY.calm K) ⟨a, b, c, d, e, f, g, h, HZ.calm K⟩ (calm_trans C K)
theorem bt_set {w wx : World} {X Y Z : Nat} {q r : Words} (hX : X ≠ Z) (hY : Y ≠ Z) (hz : w.heap.size ≤ Z) (x1 y1 x2 y2 x3 y3 x4 y4 : Nat) (H : wx.cell? ⟨X, 0, none⟩ = some (.complex .f32 q.a q.b) ∧ wx.cell? ⟨X, 1, none⟩ = some (.complex .f32 q.c q.d) ∧ wx.cell? ⟨X, 2, none⟩ = some (.complex .f32 q.e q.f) ∧ wx.cell? ⟨X, 3, none⟩ = some (.complex .f32 q.g q.h) ∧ wx.cell? ⟨Y, 0, none⟩ = some (.complex .f32 r.a r.b) ∧ wx.cell? ⟨Y, 1, none⟩ = some (.complex .f32 r.c r.d) ∧ wx.cell? ⟨Y, 2, none⟩ = some (.complex .f32 r.e r.f) ∧ wx.cell? ⟨Y, 3, none⟩ = some (.complex .f32 r.g r.h) ∧ Blk wx X q.a q.b q.c q.d q.e q.f q.g q.h ∧ Blk wx Y r.a r.b r.c r.d r.e r.f r.g r.h ∧ BlkE wx Z ∧ Calm w wx) : ((((wx.setCell ⟨Z, 0, none⟩ (.complex .f32 x1 y1)).setCell ⟨Z, 1, none⟩ (.complex .f32 x2 y2)).setCell ⟨Z, 2, none⟩ (.complex .f32 x3 y3)).setCell ⟨Z, 3, none⟩ (.complex .f32 x4 y4)).cell? ⟨X, 0, none⟩ = some (.complex .f32 q.a q.b) ∧ ((((wx.setCell ⟨Z, 0, none⟩ (.complex .f32 x1 y1)).setCell ⟨Z, 1, none⟩ (.complex .f32 x2 y2)).setCell ⟨Z, 2, none⟩ (.complex .f32 x3 y3)).setCell ⟨Z, 3, none⟩ (.complex .f32 x4 y4)).cell? ⟨X, 1, none⟩ = some (.complex .f32 q.c q.d) ∧ ((((wx.setCell ⟨Z, 0, none⟩ (.complex .f32 x1 y1)).setCell ⟨Z, 1, none⟩ (.complex .f32 x2 y2)).setCell ⟨Z, 2, none⟩ (.complex .f32 x3 y3)).setCell ⟨Z, 3, none⟩ (.complex .f32 x4 y4)).cell? ⟨X, 2, none⟩ = some (.complex .f32 q.e q.f) ∧ ((((wx.setCell ⟨Z, 0, none⟩ (.complex .f32 x1 y1)).setCell ⟨Z, 1, none⟩ (.complex .f32 x2 y2)).setCell ⟨Z, 2, none⟩ (.complex .f32 x3 y3)).setCell ⟨Z, 3, none⟩ (.complex .f32 x4 y4)).cell? ⟨X, 3, none⟩ = some (.complex .f32 q.g q.h) ∧ ((((wx.setCell ⟨Z, 0, none⟩ (.complex .f32 x1 y1)).setCell ⟨Z, 1, none⟩ (.complex .f32 x2 y2)).setCell ⟨Z, 2, none⟩ (.complex .f32 x3 y3)).setCell ⟨Z, 3, none⟩ (.complex .f32 x4 y4)).cell? ⟨Y, 0, none⟩ = some (.complex .f32 r.a r.b) ∧ ((((wx.setCell ⟨Z, 0, none⟩ (.complex .f32 x1 y1)).setCell ⟨Z, 1, none⟩ (.complex .f32 x2 y2)).setCell ⟨Z, 2, none⟩ (.complex .f32 x3 y3)).setCell ⟨Z, 3, none⟩ (.complex .f32 x4 y4)).cell? ⟨Y, 1, none⟩ = some (.complex .f32 r.c r.d) ∧ ((((wx.setCell ⟨Z, 0, none⟩ (.complex .f32 x1 y1)).setCell ⟨Z, 1, none⟩ (.complex .f32 x2 y2)).setCell ⟨Z, 2, none⟩ (.complex .f32 x3 y3)).setCell ⟨Z, 3, none⟩ (.complex .f32 x4 y4)).cell? ⟨Y, 2, none⟩ = some (.complex .f32 r.e r.f) ∧ ((((wx.setCell ⟨Z, 0, none⟩ (.complex .f32 x1 y1)).setCell ⟨Z, 1, none⟩ (.complex .f32 x2 y2)).setCell ⟨Z, 2, none⟩ (.complex .f32 x3 y3)).setCell ⟨Z, 3, none⟩ (.complex .f32 x4 y4)).cell? ⟨Y, 3, none⟩ = some (.complex .f32 r.g r.h) ∧ Blk ((((wx.setCell ⟨Z, 0, none⟩ (.complex .f32 x1 y1)).setCell ⟨Z, 1, none⟩ (.complex .f32 x2 y2)).setCell ⟨Z, 2, none⟩ (.complex .f32 x3 y3)).setCell ⟨Z, 3, none⟩ (.complex .f32 x4 y4)) X q.a q.b q.c q.d q.e q.f q.g q.h ∧ Blk ((((wx.setCell ⟨Z, 0, none⟩ (.complex .f32 x1 y1)).setCell ⟨Z, 1, none⟩ (.complex .f32 x2 y2)).setCell ⟨Z, 2, none⟩ (.complex .f32 x3 y3)).setCell ⟨Z, 3, none⟩ (.complex .f32 x4 y4)) Y r.a r.b r.c r.d r.e r.f r.g r.h ∧ BlkE ((((wx.setCell ⟨Z, 0, none⟩ (.complex .f32 x1 y1)).setCell ⟨Z, 1, none⟩ (.complex .f32 x2 y2)).setCell ⟨Z, 2, none⟩ (.complex .f32 x3 y3)).setCell ⟨Z, 3, none⟩ (.complex .f32 x4 y4)) Z ∧ Calm w ((((wx.setCell ⟨Z, 0, none⟩ (.complex .f32 x1 y1)).setCell ⟨Z, 1, none⟩ (.complex .f32 x2 y2)).setCell ⟨Z, 2, none⟩ (.complex .f32 x3 y3)).setCell ⟨Z, 3, none⟩ (.complex .f32 x4 y4)) := by
  obtain ⟨_, _, _, _, _, _, _, _, HX, HY, ⟨a, b, c, d, e, f, g, h, HZ⟩, C⟩ := H
  exact bt_of ((((HX.other (r := ⟨Z, 0, none⟩) hX _).other (r := ⟨Z, 1, none⟩) hX _).other (r := ⟨Z, 2, none⟩) hX _).other (r := ⟨Z, 3, none⟩) hX _) ((((HY.other (r := ⟨Z, 0, none⟩) hY _).other (r := ⟨Z, 1, none⟩) hY _).other (r := ⟨Z, 2, none⟩) hY _).other (r := ⟨Z, 3, none⟩) hY _) ⟨_, _, _, _, _, _, _, _, (((HZ.s0 _ _).s1 _ _).s2 _ _).s3 _ _⟩ (calm_set4 C hz _ _ _ _)

set_option maxRecDepth 8000 in
set_option maxHeartbeats 8000000 in
theorem implBetween_any {q r : RowW} {f : Int} {w : World} (hq : q.finB = true) (hr : r.finB = true) (h0 : 0 ≤ q.f) (h1 : q.f < f) (h2 : f < r.f) (h9 : r.f ≤ 9999999) :
    Calls Try.prog 39 #[.agg #[.int .i64 q.f, .complex .f32 q.m.a q.m.b, .complex .f32 q.m.c q.m.d, .complex .f32 q.m.e q.m.f, .complex .f32 q.m.g q.m.h], .agg #[.int .i64 r.f, .complex .f32 r.m.a r.m.b, .complex .f32 r.m.c r.m.d, .complex .f32 r.m.e r.m.f, .complex .f32 r.m.g r.m.h], .int .i64 f] w fun z w' => z = .returned (scV (betRow q.m r.m (partB (f - q.f) (r.f - q.f)))) ∧ Calm w w' := by
  have ew1 : IntKind.i64.wrap (f - q.f) = f - q.f := IntWalk.i64_in _ (by omega)
  have ew2 : IntKind.i64.wrap (r.f - q.f) = r.f - q.f := IntWalk.i64_in _ (by omega)
  obtain ⟨hpb, hPart⟩ := part_spec (n := f - q.f) (m := r.f - q.f) (by omega) (by omega) (by omega) (by omega)
  have HPart := Lib.hid hPart
  have u1 : ∀ w, fres .quo .f32 (floatOfInt .f32 (f - q.f)) (floatOfInt .f32 (r.f - q.f)) w = partB (f - q.f) (r.f - q.f) := fun w => fres_some w hpb
  have u2 : fask .quo .f32 (floatOfInt .f32 (f - q.f)) (floatOfInt .f32 (r.f - q.f)) = 0 := fask_some hpb
  clear hpb hPart
  generalize partB (f - q.f) (r.f - q.f) = pt at *
  have hO : ∀ j, j < 4 → ∀ w, Calls Try.prog 53 #[.complex .f32 (q.pts.getD j (0, 0)).1 (q.pts.getD j (0, 0)).2, .complex .f32 (r.pts.getD j (0, 0)).1 (r.pts.getD j (0, 0)).2, .float .f32 pt] w fun z w' => ∃ u v, z = .returned (.complex .f32 u v) ∧ OnWay (q.pts.getD j (0, 0)) (r.pts.getD j (0, 0)) pt u v ∧ ∃ n, w' = w.drewN n :=
    fun j hj w => onTheWay_any (q.pts_fin hq hj).1 (q.pts_fin hq hj).2 (r.pts_fin hr hj).1 (r.pts_fin hr hj).2 HPart.out w
  have HO1 : Hid (∀ w, Calls Try.prog 53 #[.complex .f32 q.m.a q.m.b, .complex .f32 r.m.a r.m.b, .float .f32 pt] w fun z w' => ∃ u v, z = .returned (.complex .f32 u v) ∧ OnWay (q.m.a, q.m.b) (r.m.a, r.m.b) pt u v ∧ ∃ n, w' = w.drewN n) := Lib.hid (hO 0 (by decide))
  have HO2 : Hid (∀ w, Calls Try.prog 53 #[.complex .f32 q.m.c q.m.d, .complex .f32 r.m.c r.m.d, .float .f32 pt] w fun z w' => ∃ u v, z = .returned (.complex .f32 u v) ∧ OnWay (q.m.c, q.m.d) (r.m.c, r.m.d) pt u v ∧ ∃ n, w' = w.drewN n) := Lib.hid (hO 1 (by decide))
  have HO3 : Hid (∀ w, Calls Try.prog 53 #[.complex .f32 q.m.e q.m.f, .complex .f32 r.m.e r.m.f, .float .f32 pt] w fun z w' => ∃ u v, z = .returned (.complex .f32 u v) ∧ OnWay (q.m.e, q.m.f) (r.m.e, r.m.f) pt u v ∧ ∃ n, w' = w.drewN n) := Lib.hid (hO 2 (by decide))
  have HO4 : Hid (∀ w, Calls Try.prog 53 #[.complex .f32 q.m.g q.m.h, .complex .f32 r.m.g r.m.h, .float .f32 pt] w fun z w' => ∃ u v, z = .returned (.complex .f32 u v) ∧ OnWay (q.m.g, q.m.h) (r.m.g, r.m.h) pt u v ∧ ∃ n, w' = w.drewN n) := Lib.hid (hO 3 (by decide))
  obtain ⟨x1, y1, x2, y2, x3, y3, x4, y4, β, hsc⟩ := scV_two (betRow q.m r.m pt)
  have HIf : Hid (∀ u1 v1 u2 v2 u3 v3 u4 v4, OnWay (q.m.a, q.m.b) (r.m.a, r.m.b) pt u1 v1 → OnWay (q.m.c, q.m.d) (r.m.c, r.m.d) pt u2 v2 → OnWay (q.m.e, q.m.f) (r.m.e, r.m.f) pt u3 v3 → OnWay (q.m.g, q.m.h) (r.m.g, r.m.h) pt u4 v4 → ∀ w, Calls Try.prog 52 #[twoV u1 v1 u2 v2 u3 v3 u4 v4] w fun z w' => z = .returned (.tuple #[twoV x1 y1 x2 y2 x3 y3 x4 y4, .bool β]) ∧ Calm w w') := Lib.hid (by
    intro u1 v1 u2 v2 u3 v3 u4 v4 h1 h2 h3 h4 w
    have := ifTwoOk_any u1 v1 u2 v2 u3 v3 u4 v4 w
    rw [onWays h1 h2 h3 h4, hsc] at this
    exact this)
  have HSc := Lib.hid hsc
  clear hsc hO hq hr
  go_enter Try.func39, Try.ntmps39
  go_wp2_with fail
  go_region
  · have e1 : ((((w.alloc (.cells #[.int .i64 q.f, .complex .f32 q.m.a q.m.b, .complex .f32 q.m.c q.m.d, .complex .f32 q.m.e q.m.f, .complex .f32 q.m.g q.m.h] 47)).alloc (.cells #[.int .i64 r.f, .complex .f32 r.m.a r.m.b, .complex .f32 r.m.c r.m.d, .complex .f32 r.m.e r.m.f, .complex .f32 r.m.g r.m.h] 47)).alloc (.cells #[.complex .f32 0 0, .complex .f32 0 0, .complex .f32 0 0, .complex .f32 0 0] 41)).drewN 1).heap.size = w.heap.size + 1 + 1 + 1 := by simp
    have e2 : (((((w.alloc (.cells #[.int .i64 q.f, .complex .f32 q.m.a q.m.b, .complex .f32 q.m.c q.m.d, .complex .f32 q.m.e q.m.f, .complex .f32 q.m.g q.m.h] 47)).alloc (.cells #[.int .i64 r.f, .complex .f32 r.m.a r.m.b, .complex .f32 r.m.c r.m.d, .complex .f32 r.m.e r.m.f, .complex .f32 r.m.g r.m.h] 47)).alloc (.cells #[.complex .f32 0 0, .complex .f32 0 0, .complex .f32 0 0, .complex .f32 0 0] 41)).drewN 1).alloc (.cells #[.complex .f32 q.m.a q.m.b, .complex .f32 q.m.c q.m.d, .complex .f32 q.m.e q.m.f, .complex .f32 q.m.g q.m.h] 41)).heap.size = w.heap.size + 1 + 1 + 1 + 1 := by simp
    have e3 : ((w.alloc (.cells #[.int .i64 q.f, .complex .f32 q.m.a q.m.b, .complex .f32 q.m.c q.m.d, .complex .f32 q.m.e q.m.f, .complex .f32 q.m.g q.m.h] 47)).alloc (.cells #[.int .i64 r.f, .complex .f32 r.m.a r.m.b, .complex .f32 r.m.c r.m.d, .complex .f32 r.m.e r.m.f, .complex .f32 r.m.g r.m.h] 47)).heap.size = w.heap.size + 1 + 1 := by simp
    have B1 := Blk.new ((((w.alloc (.cells #[.int .i64 q.f, .complex .f32 q.m.a q.m.b, .complex .f32 q.m.c q.m.d, .complex .f32 q.m.e q.m.f, .complex .f32 q.m.g q.m.h] 47)).alloc (.cells #[.int .i64 r.f, .complex .f32 r.m.a r.m.b, .complex .f32 r.m.c r.m.d, .complex .f32 r.m.e r.m.f, .complex .f32 r.m.g r.m.h] 47)).alloc (.cells #[.complex .f32 0 0, .complex .f32 0 0, .complex .f32 0 0, .complex .f32 0 0] 41)).drewN 1) q.m.a q.m.b q.m.c q.m.d q.m.e q.m.f q.m.g q.m.h
    rw [e1] at B1
    have HF := Lib.hid (B1.alloc (.cells #[.complex .f32 r.m.a r.m.b, .complex .f32 r.m.c r.m.d, .complex .f32 r.m.e r.m.f, .complex .f32 r.m.g r.m.h] 41))
    have B2 := Blk.new (((((w.alloc (.cells #[.int .i64 q.f, .complex .f32 q.m.a q.m.b, .complex .f32 q.m.c q.m.d, .complex .f32 q.m.e q.m.f, .complex .f32 q.m.g q.m.h] 47)).alloc (.cells #[.int .i64 r.f, .complex .f32 r.m.a r.m.b, .complex .f32 r.m.c r.m.d, .complex .f32 r.m.e r.m.f, .complex .f32 r.m.g r.m.h] 47)).alloc (.cells #[.complex .f32 0 0, .complex .f32 0 0, .complex .f32 0 0, .complex .f32 0 0] 41)).drewN 1).alloc (.cells #[.complex .f32 q.m.a q.m.b, .complex .f32 q.m.c q.m.d, .complex .f32 q.m.e q.m.f, .complex .f32 q.m.g q.m.h] 41)) r.m.a r.m.b r.m.c r.m.d r.m.e r.m.f r.m.g r.m.h
    rw [e2] at B2
    have HS2 := Lib.hid B2
    have B3 := Blk.new ((w.alloc (.cells #[.int .i64 q.f, .complex .f32 q.m.a q.m.b, .complex .f32 q.m.c q.m.d, .complex .f32 q.m.e q.m.f, .complex .f32 q.m.g q.m.h] 47)).alloc (.cells #[.int .i64 r.f, .complex .f32 r.m.a r.m.b, .complex .f32 r.m.c r.m.d, .complex .f32 r.m.e r.m.f, .complex .f32 r.m.g r.m.h] 47)) 0 0 0 0 0 0 0 0
    rw [e3] at B3
    have HZ := Lib.hid (((B3.drewN 1).alloc (.cells #[.complex .f32 q.m.a q.m.b, .complex .f32 q.m.c q.m.d, .complex .f32 q.m.e q.m.f, .complex .f32 q.m.g q.m.h] 41)).alloc (.cells #[.complex .f32 r.m.a r.m.b, .complex .f32 r.m.c r.m.d, .complex .f32 r.m.e r.m.f, .complex .f32 r.m.g r.m.h] 41))
    have HC := Lib.hid (show Calm w ((((((w.alloc (.cells #[.int .i64 q.f, .complex .f32 q.m.a q.m.b, .complex .f32 q.m.c q.m.d, .complex .f32 q.m.e q.m.f, .complex .f32 q.m.g q.m.h] 47)).alloc (.cells #[.int .i64 r.f, .complex .f32 r.m.a r.m.b, .complex .f32 r.m.c r.m.d, .complex .f32 r.m.e r.m.f, .complex .f32 r.m.g r.m.h] 47)).alloc (.cells #[.complex .f32 0 0, .complex .f32 0 0, .complex .f32 0 0, .complex .f32 0 0] 41)).drewN 1).alloc (.cells #[.complex .f32 q.m.a q.m.b, .complex .f32 q.m.c q.m.d, .complex .f32 q.m.e q.m.f, .complex .f32 q.m.g q.m.h] 41)).alloc (.cells #[.complex .f32 r.m.a r.m.b, .complex .f32 r.m.c r.m.d, .complex .f32 r.m.e r.m.f, .complex .f32 r.m.g r.m.h] 41)) from calm_allocR (calm_allocR (grown_drewN (calm_allocR (calm_allocR (calm_new w _) _) _) 1) _) _)
    clear e1 e2 e3 B1 B2 B3
    generalize ((((((w.alloc (.cells #[.int .i64 q.f, .complex .f32 q.m.a q.m.b, .complex .f32 q.m.c q.m.d, .complex .f32 q.m.e q.m.f, .complex .f32 q.m.g q.m.h] 47)).alloc (.cells #[.int .i64 r.f, .complex .f32 r.m.a r.m.b, .complex .f32 r.m.c r.m.d, .complex .f32 r.m.e r.m.f, .complex .f32 r.m.g r.m.h] 47)).alloc (.cells #[.complex .f32 0 0, .complex .f32 0 0, .complex .f32 0 0, .complex .f32 0 0] 41)).drewN 1).alloc (.cells #[.complex .f32 q.m.a q.m.b, .complex .f32 q.m.c q.m.d, .complex .f32 q.m.e q.m.f, .complex .f32 q.m.g q.m.h] 41)).alloc (.cells #[.complex .f32 r.m.a r.m.b, .complex .f32 r.m.c r.m.d, .complex .f32 r.m.e r.m.f, .complex .f32 r.m.g r.m.h] 41)) = v at *
    have hz0 : w.heap.size ≤ w.heap.size + 1 + 1 := by omega
    have hn1 : w.heap.size + 1 + 1 + 1 ≠ w.heap.size + 1 + 1 := by omega
    have hn2 : w.heap.size + 1 + 1 + 1 + 1 ≠ w.heap.size + 1 + 1 := by omega
    generalize w.heap.size + 1 + 1 + 1 + 1 = X2 at *
    generalize w.heap.size + 1 + 1 + 1 = X1 at *
    generalize w.heap.size + 1 + 1 = Z at *
    have HS0 := bt_of (q := q.m) (r := r.m) HF.out HS2.out ⟨_, _, _, _, _, _, _, _, HZ.out⟩ HC.out
    clear HF HS2 HZ HC
    go_wp2_with fail
    go_region_held3 (fun w' => w'.cell? ⟨X1, 0, none⟩ = some (.complex .f32 q.m.a q.m.b) ∧ w'.cell? ⟨X1, 1, none⟩ = some (.complex .f32 q.m.c q.m.d) ∧ w'.cell? ⟨X1, 2, none⟩ = some (.complex .f32 q.m.e q.m.f) ∧ w'.cell? ⟨X1, 3, none⟩ = some (.complex .f32 q.m.g q.m.h) ∧ w'.cell? ⟨X2, 0, none⟩ = some (.complex .f32 r.m.a r.m.b) ∧ w'.cell? ⟨X2, 1, none⟩ = some (.complex .f32 r.m.c r.m.d) ∧ w'.cell? ⟨X2, 2, none⟩ = some (.complex .f32 r.m.e r.m.f) ∧ w'.cell? ⟨X2, 3, none⟩ = some (.complex .f32 r.m.g r.m.h) ∧ Blk w' X1 q.m.a q.m.b q.m.c q.m.d q.m.e q.m.f q.m.g q.m.h ∧ Blk w' X2 r.m.a r.m.b r.m.c r.m.d r.m.e r.m.f r.m.g r.m.h ∧ BlkE w' Z ∧ Calm w w') (first | with_reducible assumption | with_reducible exact bt_drew ‹_› | with_reducible exact bt_drewN ‹_› | with_reducible exact bt_drewN (bt_drew ‹_›) | with_reducible exact bt_set (q := q.m) (r := r.m) hn1 hn2 hz0 _ _ _ _ _ _ _ _ ‹_›)
        (first
        | (go_at_call 53; with_reducible refine Calls.mono (HO1.out _) ?_; rintro e w5 ⟨u, v5, rfl, hO, n, rfl⟩; have HW1 := Lib.hid hO; clear hO)
        | (go_at_call 53; with_reducible refine Calls.mono (HO2.out _) ?_; rintro e w5 ⟨u, v5, rfl, hO, n, rfl⟩; have HW2 := Lib.hid hO; clear hO)
        | (go_at_call 53; with_reducible refine Calls.mono (HO3.out _) ?_; rintro e w5 ⟨u, v5, rfl, hO, n, rfl⟩; have HW3 := Lib.hid hO; clear hO)
        | (go_at_call 53; with_reducible refine Calls.mono (HO4.out _) ?_; rintro e w5 ⟨u, v5, rfl, hO, n, rfl⟩; have HW4 := Lib.hid hO; clear hO)
        | (go_at_call 52; refine Calls.mono (HIf.out _ _ _ _ _ _ _ _ HW1.out HW2.out HW3.out HW4.out _) ?_; rintro e w5 ⟨rfl, C'⟩; have HSx := bt_calm (q := q.m) (r := r.m) C' ‹_›; clear C'; have HC5 := Lib.hid HSx.2.2.2.2.2.2.2.2.2.2.2; obtain ⟨za, zb, zc, zd, ze, zf, zg, zh, hzb⟩ := HSx.2.2.2.2.2.2.2.2.2.2.1; have z0 := hzb.c0; have z1 := hzb.c1; have z2 := hzb.c2; have z3 := hzb.c3; have f0 := hzb.fr 0; have f1 := hzb.fr 1; have f2 := hzb.fr 2; have f3 := hzb.fr 3; have HZb := Lib.hid hzb; clear hzb))
    all_goals
      go_wp2_with fail
      refine bodyPost_ret (results_two_tmp rfl _ rfl ((((HZb.out.s0 _ _).s1 _ _).s2 _ _).s3 _ _)) rfl ?_
      exact ⟨by rw [HSc.out]; rfl, calm_set4 HC5.out hz0 _ _ _ _⟩
  · have e1 : ((((w.alloc (.cells #[.int .i64 q.f, .complex .f32 q.m.a q.m.b, .complex .f32 q.m.c q.m.d, .complex .f32 q.m.e q.m.f, .complex .f32 q.m.g q.m.h] 47)).alloc (.cells #[.int .i64 r.f, .complex .f32 r.m.a r.m.b, .complex .f32 r.m.c r.m.d, .complex .f32 r.m.e r.m.f, .complex .f32 r.m.g r.m.h] 47)).alloc (.cells #[.complex .f32 0 0, .complex .f32 0 0, .complex .f32 0 0, .complex .f32 0 0] 41)).drewN 1).heap.size = w.heap.size + 1 + 1 + 1 := by simp
    have e2 : (((((w.alloc (.cells #[.int .i64 q.f, .complex .f32 q.m.a q.m.b, .complex .f32 q.m.c q.m.d, .complex .f32 q.m.e q.m.f, .complex .f32 q.m.g q.m.h] 47)).alloc (.cells #[.int .i64 r.f, .complex .f32 r.m.a r.m.b, .complex .f32 r.m.c r.m.d, .complex .f32 r.m.e r.m.f, .complex .f32 r.m.g r.m.h] 47)).alloc (.cells #[.complex .f32 0 0, .complex .f32 0 0, .complex .f32 0 0, .complex .f32 0 0] 41)).drewN 1).alloc (.cells #[.complex .f32 r.m.a r.m.b, .complex .f32 r.m.c r.m.d, .complex .f32 r.m.e r.m.f, .complex .f32 r.m.g r.m.h] 41)).heap.size = w.heap.size + 1 + 1 + 1 + 1 := by simp
    have e3 : ((w.alloc (.cells #[.int .i64 q.f, .complex .f32 q.m.a q.m.b, .complex .f32 q.m.c q.m.d, .complex .f32 q.m.e q.m.f, .complex .f32 q.m.g q.m.h] 47)).alloc (.cells #[.int .i64 r.f, .complex .f32 r.m.a r.m.b, .complex .f32 r.m.c r.m.d, .complex .f32 r.m.e r.m.f, .complex .f32 r.m.g r.m.h] 47)).heap.size = w.heap.size + 1 + 1 := by simp
    have B1 := Blk.new ((((w.alloc (.cells #[.int .i64 q.f, .complex .f32 q.m.a q.m.b, .complex .f32 q.m.c q.m.d, .complex .f32 q.m.e q.m.f, .complex .f32 q.m.g q.m.h] 47)).alloc (.cells #[.int .i64 r.f, .complex .f32 r.m.a r.m.b, .complex .f32 r.m.c r.m.d, .complex .f32 r.m.e r.m.f, .complex .f32 r.m.g r.m.h] 47)).alloc (.cells #[.complex .f32 0 0, .complex .f32 0 0, .complex .f32 0 0, .complex .f32 0 0] 41)).drewN 1) r.m.a r.m.b r.m.c r.m.d r.m.e r.m.f r.m.g r.m.h
    rw [e1] at B1
    have HF := Lib.hid (B1.alloc (.cells #[.complex .f32 q.m.a q.m.b, .complex .f32 q.m.c q.m.d, .complex .f32 q.m.e q.m.f, .complex .f32 q.m.g q.m.h] 41))
    have B2 := Blk.new (((((w.alloc (.cells #[.int .i64 q.f, .complex .f32 q.m.a q.m.b, .complex .f32 q.m.c q.m.d, .complex .f32 q.m.e q.m.f, .complex .f32 q.m.g q.m.h] 47)).alloc (.cells #[.int .i64 r.f, .complex .f32 r.m.a r.m.b, .complex .f32 r.m.c r.m.d, .complex .f32 r.m.e r.m.f, .complex .f32 r.m.g r.m.h] 47)).alloc (.cells #[.complex .f32 0 0, .complex .f32 0 0, .complex .f32 0 0, .complex .f32 0 0] 41)).drewN 1).alloc (.cells #[.complex .f32 r.m.a r.m.b, .complex .f32 r.m.c r.m.d, .complex .f32 r.m.e r.m.f, .complex .f32 r.m.g r.m.h] 41)) q.m.a q.m.b q.m.c q.m.d q.m.e q.m.f q.m.g q.m.h
    rw [e2] at B2
    have HS2 := Lib.hid B2
    have B3 := Blk.new ((w.alloc (.cells #[.int .i64 q.f, .complex .f32 q.m.a q.m.b, .complex .f32 q.m.c q.m.d, .complex .f32 q.m.e q.m.f, .complex .f32 q.m.g q.m.h] 47)).alloc (.cells #[.int .i64 r.f, .complex .f32 r.m.a r.m.b, .complex .f32 r.m.c r.m.d, .complex .f32 r.m.e r.m.f, .complex .f32 r.m.g r.m.h] 47)) 0 0 0 0 0 0 0 0
    rw [e3] at B3
    have HZ := Lib.hid (((B3.drewN 1).alloc (.cells #[.complex .f32 r.m.a r.m.b, .complex .f32 r.m.c r.m.d, .complex .f32 r.m.e r.m.f, .complex .f32 r.m.g r.m.h] 41)).alloc (.cells #[.complex .f32 q.m.a q.m.b, .complex .f32 q.m.c q.m.d, .complex .f32 q.m.e q.m.f, .complex .f32 q.m.g q.m.h] 41))
    have HC := Lib.hid (show Calm w ((((((w.alloc (.cells #[.int .i64 q.f, .complex .f32 q.m.a q.m.b, .complex .f32 q.m.c q.m.d, .complex .f32 q.m.e q.m.f, .complex .f32 q.m.g q.m.h] 47)).alloc (.cells #[.int .i64 r.f, .complex .f32 r.m.a r.m.b, .complex .f32 r.m.c r.m.d, .complex .f32 r.m.e r.m.f, .complex .f32 r.m.g r.m.h] 47)).alloc (.cells #[.complex .f32 0 0, .complex .f32 0 0, .complex .f32 0 0, .complex .f32 0 0] 41)).drewN 1).alloc (.cells #[.complex .f32 r.m.a r.m.b, .complex .f32 r.m.c r.m.d, .complex .f32 r.m.e r.m.f, .complex .f32 r.m.g r.m.h] 41)).alloc (.cells #[.complex .f32 q.m.a q.m.b, .complex .f32 q.m.c q.m.d, .complex .f32 q.m.e q.m.f, .complex .f32 q.m.g q.m.h] 41)) from calm_allocR (calm_allocR (grown_drewN (calm_allocR (calm_allocR (calm_new w _) _) _) 1) _) _)
    clear e1 e2 e3 B1 B2 B3
    generalize ((((((w.alloc (.cells #[.int .i64 q.f, .complex .f32 q.m.a q.m.b, .complex .f32 q.m.c q.m.d, .complex .f32 q.m.e q.m.f, .complex .f32 q.m.g q.m.h] 47)).alloc (.cells #[.int .i64 r.f, .complex .f32 r.m.a r.m.b, .complex .f32 r.m.c r.m.d, .complex .f32 r.m.e r.m.f, .complex .f32 r.m.g r.m.h] 47)).alloc (.cells #[.complex .f32 0 0, .complex .f32 0 0, .complex .f32 0 0, .complex .f32 0 0] 41)).drewN 1).alloc (.cells #[.complex .f32 r.m.a r.m.b, .complex .f32 r.m.c r.m.d, .complex .f32 r.m.e r.m.f, .complex .f32 r.m.g r.m.h] 41)).alloc (.cells #[.complex .f32 q.m.a q.m.b, .complex .f32 q.m.c q.m.d, .complex .f32 q.m.e q.m.f, .complex .f32 q.m.g q.m.h] 41)) = v at *
    have hz0 : w.heap.size ≤ w.heap.size + 1 + 1 := by omega
    have hn1 : w.heap.size + 1 + 1 + 1 ≠ w.heap.size + 1 + 1 := by omega
    have hn2 : w.heap.size + 1 + 1 + 1 + 1 ≠ w.heap.size + 1 + 1 := by omega
    generalize w.heap.size + 1 + 1 + 1 + 1 = X2 at *
    generalize w.heap.size + 1 + 1 + 1 = X1 at *
    generalize w.heap.size + 1 + 1 = Z at *
    have HS0 := bt_of (q := q.m) (r := r.m) HS2.out HF.out ⟨_, _, _, _, _, _, _, _, HZ.out⟩ HC.out
    clear HF HS2 HZ HC
    go_wp2_with fail
    go_region_held3 (fun w' => w'.cell? ⟨X2, 0, none⟩ = some (.complex .f32 q.m.a q.m.b) ∧ w'.cell? ⟨X2, 1, none⟩ = some (.complex .f32 q.m.c q.m.d) ∧ w'.cell? ⟨X2, 2, none⟩ = some (.complex .f32 q.m.e q.m.f) ∧ w'.cell? ⟨X2, 3, none⟩ = some (.complex .f32 q.m.g q.m.h) ∧ w'.cell? ⟨X1, 0, none⟩ = some (.complex .f32 r.m.a r.m.b) ∧ w'.cell? ⟨X1, 1, none⟩ = some (.complex .f32 r.m.c r.m.d) ∧ w'.cell? ⟨X1, 2, none⟩ = some (.complex .f32 r.m.e r.m.f) ∧ w'.cell? ⟨X1, 3, none⟩ = some (.complex .f32 r.m.g r.m.h) ∧ Blk w' X2 q.m.a q.m.b q.m.c q.m.d q.m.e q.m.f q.m.g q.m.h ∧ Blk w' X1 r.m.a r.m.b r.m.c r.m.d r.m.e r.m.f r.m.g r.m.h ∧ BlkE w' Z ∧ Calm w w') (first | with_reducible assumption | with_reducible exact bt_drew ‹_› | with_reducible exact bt_drewN ‹_› | with_reducible exact bt_drewN (bt_drew ‹_›) | with_reducible exact bt_set (q := q.m) (r := r.m) hn2 hn1 hz0 _ _ _ _ _ _ _ _ ‹_›)
        (first
        | (go_at_call 53; with_reducible refine Calls.mono (HO1.out _) ?_; rintro e w5 ⟨u, v5, rfl, hO, n, rfl⟩; have HW1 := Lib.hid hO; clear hO)
        | (go_at_call 53; with_reducible refine Calls.mono (HO2.out _) ?_; rintro e w5 ⟨u, v5, rfl, hO, n, rfl⟩; have HW2 := Lib.hid hO; clear hO)
        | (go_at_call 53; with_reducible refine Calls.mono (HO3.out _) ?_; rintro e w5 ⟨u, v5, rfl, hO, n, rfl⟩; have HW3 := Lib.hid hO; clear hO)
        | (go_at_call 53; with_reducible refine Calls.mono (HO4.out _) ?_; rintro e w5 ⟨u, v5, rfl, hO, n, rfl⟩; have HW4 := Lib.hid hO; clear hO)
        | (go_at_call 52; refine Calls.mono (HIf.out _ _ _ _ _ _ _ _ HW1.out HW2.out HW3.out HW4.out _) ?_; rintro e w5 ⟨rfl, C'⟩; have HSx := bt_calm (q := q.m) (r := r.m) C' ‹_›; clear C'; have HC5 := Lib.hid HSx.2.2.2.2.2.2.2.2.2.2.2; obtain ⟨za, zb, zc, zd, ze, zf, zg, zh, hzb⟩ := HSx.2.2.2.2.2.2.2.2.2.2.1; have z0 := hzb.c0; have z1 := hzb.c1; have z2 := hzb.c2; have z3 := hzb.c3; have f0 := hzb.fr 0; have f1 := hzb.fr 1; have f2 := hzb.fr 2; have f3 := hzb.fr 3; have HZb := Lib.hid hzb; clear hzb))
    all_goals
      go_wp2_with fail
      refine bodyPost_ret (results_two_tmp rfl _ rfl ((((HZb.out.s0 _ _).s1 _ _).s2 _ _).s3 _ _)) rfl ?_
      exact ⟨by rw [HSc.out]; rfl, calm_set4 HC5.out hz0 _ _ _ _⟩

end Go.Proofs.Ythbebgnjidaokaa
