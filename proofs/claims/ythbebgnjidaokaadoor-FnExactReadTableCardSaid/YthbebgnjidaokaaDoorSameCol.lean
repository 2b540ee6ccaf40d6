/-
  Columns compared.
-/
import Derived.Test.YthbebgnjidaokaaDoorCol
import Derived.Test.YthbebgnjidaokaaDoorImplTb
import Derived.Test.YthbebgnjidaokaaDoorSame
import Derived.Deep.RegionHeld3
namespace Go.Proofs.YthbebgnjidaokaaDoor
open Go.RowKit Fl

theorem col_drew {w wx : World} {g h j x y : Nat} (H : wx.cell? ⟨g, j, none⟩ = some (.complex .f32 x y) ∧ wx.cell? ⟨h, j, none⟩ = some (.complex .f32 x y) ∧ Calm w wx) : wx.drew.cell? ⟨g, j, none⟩ = some (.complex .f32 x y) ∧ wx.drew.cell? ⟨h, j, none⟩ = some (.complex .f32 x y) ∧ Calm w wx.drew := by
  obtain ⟨a, b, C⟩ := H
  exact ⟨a, b, grown_drew C⟩
theorem col_drewN {w wx : World} {g h j x y n : Nat} (H : wx.cell? ⟨g, j, none⟩ = some (.complex .f32 x y) ∧ wx.cell? ⟨h, j, none⟩ = some (.complex .f32 x y) ∧ Calm w wx) : (wx.drewN n).cell? ⟨g, j, none⟩ = some (.complex .f32 x y) ∧ (wx.drewN n).cell? ⟨h, j, none⟩ = some (.complex .f32 x y) ∧ Calm w (wx.drewN n) := by
  obtain ⟨a, b, C⟩ := H
  exact ⟨a, b, grown_drewN C n⟩
theorem col_done {w wx : World} {g h j x y : Nat} (H : wx.cell? ⟨g, j, none⟩ = some (.complex .f32 x y) ∧ wx.cell? ⟨h, j, none⟩ = some (.complex .f32 x y) ∧ Calm w wx) : Calm w wx := H.2.2

end Go.Proofs.YthbebgnjidaokaaDoor
