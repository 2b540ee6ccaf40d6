/-
  Columns compared.
-/
import Derived.Test.YthbebgnjidaokaaCol
import Derived.Test.YthbebgnjidaokaaImplTb
import Derived.Test.YthbebgnjidaokaaSame
import Derived.Deep.RegionHeld3
namespace Go.Proofs.Ythbebgnjidaokaa
open Go.RowKit Fl

theorem col_drew {w wx : World} {g h j x y : Nat} (H : wx.cell? ⟨g, j, none⟩ = some (.complex .f32 x y) ∧ wx.cell? ⟨h, j, none⟩ = some (.complex .f32 x y) ∧ Calm w wx) : wx.drew.cell? ⟨g, j, none⟩ = some (.complex .f32 x y) ∧ wx.drew.cell? ⟨h, j, none⟩ = some (.complex .f32 x y) ∧ Calm w wx.drew := by
  obtain ⟨a, b, C⟩ := H
  exact ⟨a, b, grown_drew C⟩
theorem col_drewN {w wx : World} {g h j x y n : Nat} (H : wx.cell? ⟨g, j, none⟩ = some (.complex .f32 x y) ∧ wx.cell? ⟨h, j, none⟩ = some (.complex .f32 x y) ∧ Calm w wx) : (wx.drewN n).cell? ⟨g, j, none⟩ = some (.complex .f32 x y) ∧ (wx.drewN n).cell? ⟨h, j, none⟩ = some (.complex .f32 x y) ∧ Calm w (wx.drewN n) := by
  obtain ⟨a, b, C⟩ := H
  exact ⟨a, b, grown_drewN C n⟩
theorem col_done {w wx : World} {g h j x y : Nat} (H : wx.cell? ⟨g, j, none⟩ = some (.complex .f32 x y) ∧ wx.cell? ⟨h, j, none⟩ = some (.complex .f32 x y) ∧ Calm w wx) : Calm w wx := H.2.2

set_option maxRecDepth 8000 in
set_option maxHeartbeats 2000000 in
theorem sameColumn_same {a b : Option Addr} {n c d : Nat} {zs : List (Nat × Nat)} {w : World} (ha : CRow w a zs) (hb : CRow w b zs) (hn : zs.length = n) (hl : n ≤ 1048576) :
    Calls Try.prog 13 #[.slice a n c, .slice b n d] w fun z w' => z = .returned (.bool true) ∧ Calm w w' := by
  have HA := Lib.hid ha
  have HB := Lib.hid hb
  clear ha hb
  go_enter Try.func13, Try.ntmps13
  go_wp2_with fail
  go_loopw [5] (fun k wr => ∃ j : Nat, j ≤ n ∧ k = .int .i64 j ∧ Calm w wr)
    (fun k _ => n - (intOf k).toNat)
  case atStart => exact ⟨0, by omega, rfl, grown_refl _ _⟩
  case round =>
    obtain ⟨j, hj, rfl, C⟩ := hrel
    have HC := Lib.hid C
    clear C
    by_cases hlt : j < n
    · obtain ⟨g, rfl, hg⟩ := (HA.out.calm HC.out).resolve_left (by intro e; subst e; simp at hn; omega)
      obtain ⟨h, rfl, hh⟩ := (HB.out.calm HC.out).resolve_left (by intro e; subst e; simp at hn; omega)
      have a1 := hg j (by omega)
      have b1 := hh j (by omega)
      have al := World.block_lt_of_cell? wr _ a1
      have bl := World.block_lt_of_cell? wr _ b1
      clear hg hh
      generalize zs[j] = p at *
      obtain ⟨x, y⟩ := p
      dsimp only at a1 b1 al bl
      have HS0 : wr.cell? ⟨g, j, none⟩ = some (.complex .f32 x y) ∧ wr.cell? ⟨h, j, none⟩ = some (.complex .f32 x y) ∧ Calm w wr := ⟨a1, b1, HC.out⟩
      clear a1 b1
      go_wp2_with fail
      go_region_held3 (fun w' => w'.cell? ⟨g, j, none⟩ = some (.complex .f32 x y) ∧ w'.cell? ⟨h, j, none⟩ = some (.complex .f32 x y) ∧ Calm w w') (first | with_reducible assumption | with_reducible exact col_drew ‹_› | with_reducible exact col_drewN ‹_› | with_reducible exact col_drewN (col_drew ‹_›))
          (first
          | (go_at_call 34; refine Calls.mono (sameBits_same _ _ _) ?_; rintro e w' ⟨rfl, ⟨n', rfl⟩⟩))
      have hL := col_done ‹_›
      go_wp2_with fail
      exact ⟨⟨j + 1, by omega, by go_num, hL⟩, by simp [intOf]; omega⟩
    · go_wp2_with fail
      go_ret
      exact ⟨rfl, HC.out⟩


end Go.Proofs.Ythbebgnjidaokaa
