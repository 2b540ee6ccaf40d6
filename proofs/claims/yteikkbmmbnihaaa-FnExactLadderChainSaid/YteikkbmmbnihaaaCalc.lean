/-
  Products and quotients of given complex64 numbers, reckoned out.
-/
import Derived.Test.YteikkbmmbnihaaaInv
import Derived.Test.YteikkbmmbnihaaaWhole
namespace Go.Proofs.Yteikkbmmbnihaaa
open Go.RowKit Fl
open Ieee

def pNarrow (ef : Nat × Nat) : Option (Nat × Nat) := (floatToFloatBits .f64 ef.1 .f32).bind fun e => (floatToFloatBits .f64 ef.2 .f32).bind fun f => some (e, f)
def pMul (a b c d : Nat) : Option (Nat × Nat) := (cMulBits (yW a) (yW b) (yW c) (yW d)).bind pNarrow
def pInv (c d : Nat) : Option (Nat × Nat) := (cQuoBits 4607182418800017408 0 (yW c) (yW d)).bind pNarrow
def pQuo (a b c d : Nat) : Option (Nat × Nat) := (cQuoBits (yW a) (yW b) (yW c) (yW d)).bind pNarrow

theorem narrow_of {e f e' f' : Nat} (h : pNarrow (e, f) = some (e', f')) : floatToFloatBits .f64 e .f32 = some e' ∧ floatToFloatBits .f64 f .f32 = some f' := by
  unfold pNarrow at h
  obtain ⟨x, h1, h⟩ := bind_some h
  obtain ⟨y, h2, h⟩ := bind_some h
  injection h with h
  injection h with g1 g2
  subst g1; subst g2
  exact ⟨h1, h2⟩

theorem run_pMul {a b c d e f : Nat} (ha : fin .f32 a = true) (hb : fin .f32 b = true) (hc : fin .f32 c = true) (hd : fin .f32 d = true) (h : pMul a b c d = some (e, f)) (P : Program) (t : TypeId) (w : World) :
    (binOp .mul t (.complex .f32 a b) (.complex .f32 c d)).run P w = .ok (.complex .f32 e f) w := by
  unfold pMul at h
  obtain ⟨⟨x, y⟩, h1, h⟩ := bind_some h
  obtain ⟨h2, h3⟩ := narrow_of h
  exact run_mul64 P t ha hb hc hd h1 h2 h3 w

theorem quotient_of_bits {a b c d e f : Nat} (h : cQuoBits a b c d = some (e, f)) (P : Program) (w : World) : (Op.Complex.quotient a b c d).run P w = .ok (e, f) w := by
  unfold cQuoBits at h
  simp only at h
  obtain ⟨⟨e1, f1⟩, hef, hfin⟩ := bind_some h
  clear h
  simp only at hfin
  by_cases hnn : (!(Op.Complex.isNaN e1 && Op.Complex.isNaN f1)) = true
  · rw [if_pos hnn] at hfin
    simp only [Option.some.injEq, Prod.mk.injEq] at hfin
    obtain ⟨rfl, rfl⟩ := hfin
    by_cases hge : absGe c d = true
    · rw [if_pos hge] at hef
      obtain ⟨ratio, h1, hef⟩ := bind_some hef
      obtain ⟨rd, h2, hef⟩ := bind_some hef
      obtain ⟨denom, h3, hef⟩ := bind_some hef
      obtain ⟨br, h4, hef⟩ := bind_some hef
      obtain ⟨n1, h5, hef⟩ := bind_some hef
      obtain ⟨e', h6, hef⟩ := bind_some hef
      obtain ⟨ar, h7, hef⟩ := bind_some hef
      obtain ⟨n2, h8, hef⟩ := bind_some hef
      obtain ⟨f', h9, hef⟩ := bind_some hef
      simp only [Option.some.injEq, Prod.mk.injEq] at hef
      obtain ⟨rfl, rfl⟩ := hef
      exact run_quotient_ge w hge h1 h2 h3 h4 h5 h6 h7 h8 h9 hnn
    · rw [if_neg hge] at hef
      obtain ⟨ratio, h1, hef⟩ := bind_some hef
      obtain ⟨rd, h2, hef⟩ := bind_some hef
      obtain ⟨denom, h3, hef⟩ := bind_some hef
      obtain ⟨br, h4, hef⟩ := bind_some hef
      obtain ⟨n1, h5, hef⟩ := bind_some hef
      obtain ⟨e', h6, hef⟩ := bind_some hef
      obtain ⟨ar, h7, hef⟩ := bind_some hef
      obtain ⟨n2, h8, hef⟩ := bind_some hef
      obtain ⟨f', h9, hef⟩ := bind_some hef
      simp only [Option.some.injEq, Prod.mk.injEq] at hef
      obtain ⟨rfl, rfl⟩ := hef
      exact run_quotient_lt w (by simpa using hge) h1 h2 h3 h4 h5 h6 h7 h8 h9 hnn
  · rw [if_neg hnn] at hfin
    cases hfin

theorem run_pInv {c d e f : Nat} (hc : fin .f32 c = true) (hd : fin .f32 d = true) (h : pInv c d = some (e, f)) (P : Program) (t : TypeId) (w : World) :
    (binOp .quo t (.complex .f32 1065353216 0) (.complex .f32 c d)).run P w = .ok (.complex .f32 e f) w := by
  unfold pInv at h
  obtain ⟨⟨x, y⟩, h1, h⟩ := bind_some h
  obtain ⟨h2, h3⟩ := narrow_of h
  refine run_quo64 P t (by decide) (by decide) hc hd ?_ h2 h3 w
  rw [yW_one.1, yW_one.2]
  exact quotient_of_bits h1 P

theorem run_pQuo {a b c d e f : Nat} (ha : fin .f32 a = true) (hb : fin .f32 b = true) (hc : fin .f32 c = true) (hd : fin .f32 d = true) (h : pQuo a b c d = some (e, f)) (P : Program) (t : TypeId) (w : World) :
    (binOp .quo t (.complex .f32 a b) (.complex .f32 c d)).run P w = .ok (.complex .f32 e f) w := by
  unfold pQuo at h
  obtain ⟨⟨x, y⟩, h1, h⟩ := bind_some h
  obtain ⟨h2, h3⟩ := narrow_of h
  exact run_quo64 P t ha hb hc hd (fun w => quotient_of_bits h1 P w) h2 h3 w

end Go.Proofs.Yteikkbmmbnihaaa
