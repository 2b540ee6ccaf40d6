/-
  The walk of FnSeriesPart: it answers true.
-/
import Derived.Test.YteikkbmmbnihaaaDraw4
import Derived.Test.YteikkbmmbnihaaaC3
namespace Go.Proofs.Yteikkbmmbnihaaa
open Go.RowKit Fl

theorem ifV_true (a b c d e f g h : Nat) : ifV true a b c d e f g h = .tuple #[twoV a b c d e f g h, .bool true] := rfl
theorem ifV_false (a b c d e f g h : Nat) : ifV false a b c d e f g h = .tuple #[twoV 0 0 0 0 0 0 0 0, .bool false] := rfl

theorem one_int : IsInt 1065353216 0 1 0 := ⟨by decide, by decide, by decide +kernel, by decide +kernel⟩
theorem zero_int : IsInt 0 0 0 0 := ⟨by decide, by decide, by decide +kernel, by decide +kernel⟩

theorem eqs_int {a b c d : Nat} {i j k l : Int} (h1 : IsInt a b i j) (h2 : IsInt c d k l) (e1 : i = k) (e2 : j = l) : Eqs a b c d := by
  obtain ⟨ha, hb, va, vb⟩ := h1
  obtain ⟨hc, hd, vc, vd⟩ := h2
  exact ⟨(order_spec _ (fin_num.1 ha) (fin_num.1 hc)).2.1.2 (by rw [va, vc, e1]), (order_spec _ (fin_num.1 hb) (fin_num.1 hd)).2.1.2 (by rw [vb, vd, e2])⟩

theorem whole_int {x y : Nat} {most : Int} (h : Whole x y most) (hm : most ≤ 1000) : ∃ i j : Int, IsInt x y i j ∧ i.natAbs ≤ 1000 ∧ j.natAbs ≤ 1000 := by
  obtain ⟨hx, hy, i, j, vx, vy, i0, i1, j0, j1⟩ := h
  exact ⟨i, j, ⟨hx, hy, vx, vy⟩, by omega, by omega⟩

theorem finTwo_series (x y : Nat) (h : (fin .f32 x && fin .f32 y) = true) : finTwo 1065353216 0 x y 0 0 1065353216 0 = true := by
  unfold finTwo
  rw [h]
  decide

end Go.Proofs.Yteikkbmmbnihaaa
