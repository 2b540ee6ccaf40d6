/-
  The walk of FnMilliOf: it answers true.
-/
import Derived.Test.YtneheglollbcdaaDraw3
import Derived.Test.YtneheglollbcdaaNear
namespace Go.Proofs.Ytneheglollbcdaa
open Go.RowKit Fl

/-- The word of 0.0015. -/
theorem bound_spec : fin .f64 4564560351926583034 = true ∧ 14 / 10000 < V FloatKind.f64.format 4564560351926583034 := ⟨by decide +kernel, by decide +kernel⟩

theorem sK_nat (b : Nat) : (sK b).natAbs = kOf b := by unfold sK; split <;> omega

/-- A part and the part of its rounded thousandths are near each other. -/
theorem near_back {b : Nat} (hb : fin .f32 b = true) (hk : okK b = true) : nearP b (milliB (sK b)) 4564560351926583034 = true := by
  have hk' := k_le_of hk
  have hn := sK_nat b
  have s1 : -9999999 ≤ sK b := by omega
  have s2 : sK b ≤ 9999999 := by omega
  obtain ⟨_, _, _, m4, m5⟩ := milli_spec s1 s2
  obtain ⟨d1, d2, d3, d4⟩ := dW_spec hb (fin_milli s1 s2)
  obtain ⟨k1, k2⟩ := kOf_spec b
  have hs : (sK b : Rat) = if V FloatKind.f32.format b < 0 then -(kOf b : Rat) else (kOf b : Rat) := by
    unfold sK
    split
    · rw [Rat.intCast_neg, Rat.intCast_natCast]
    · rw [Rat.intCast_natCast]
  have hd : V FloatKind.f32.format b - V FloatKind.f32.format (milliB (sK b)) ≤ 989 / 1000000 ∧ -(989 / 1000000) ≤ V FloatKind.f32.format b - V FloatKind.f32.format (milliB (sK b)) := by
    rcases absR_cases (V FloatKind.f32.format b) with ⟨c1, c2⟩ | ⟨c1, c2⟩
    · rw [if_pos c1] at hs
      rw [c2] at k1 k2
      constructor <;> grind
    · rw [if_neg (by grind)] at hs
      rw [c2] at k1 k2
      constructor <;> grind
  have he := rndV_err d4 (A := 1) (by grind) (by grind)
  have u1 : (1 : Rat) * p2 (-(FloatKind.f64.format.fractionBits + 1)) + p2 (FloatKind.f64.format.leastPlace - 1) ≤ 1 / 1000000 := by decide +kernel
  unfold nearP
  simp only [decide_eq_true_eq]
  have := bound_spec.2
  have := absR_cases (V FloatKind.f64.format (dW b (milliB (sK b))))
  grind

theorem mOf_back {a b : Nat} (ha : okK a = true) (hb : okK b = true) : milliV (sK a) (sK b) = .complex .f32 (milliB (sK a)) (milliB (sK b)) ∧
    mOf (milliB (sK a)) (milliB (sK b)) = .tuple #[.int .i64 (sK a), .int .i64 (sK b), .bool true] ∧ fin .f32 (milliB (sK a)) = true ∧ fin .f32 (milliB (sK b)) = true := by
  have a1 := k_le_of ha
  have b1 := k_le_of hb
  have an := sK_nat a
  have bn := sK_nat b
  have r2 : -9999999 ≤ sK a := by omega
  have r3 : sK a ≤ 9999999 := by omega
  have i2 : -9999999 ≤ sK b := by omega
  have i3 : sK b ≤ 9999999 := by omega
  refine ⟨?_, ?_, fin_milli r2 r3, fin_milli i2 i3⟩
  · unfold milliV; rw [okM_iff.2 ⟨r2, r3⟩, okM_iff.2 ⟨i2, i3⟩]; rfl
  · have k1 : okK (milliB (sK a)) = true := by unfold okK; rw [kOf_milli r2 r3]; simp; omega
    have k2 : okK (milliB (sK b)) = true := by unfold okK; rw [kOf_milli i2 i3]; simp; omega
    unfold mOf
    rw [fin_milli r2 r3, fin_milli i2 i3, k1, k2, sK_milli r2 r3, sK_milli i2 i3]
    rfl

set_option maxHeartbeats 1000000 in
theorem FnMilliOf_walk (a : Option Addr) (len cap : Nat) (zs : List Int) (w : World) (h : IsRow .u8 w a len cap zs) :
    Calls Try.prog 5 #[.slice a len cap] w fun e w' => e = .returned (.bool true) ∧ Below w.heap.size w w' := by
  by_cases hl : (1048576 : Int) < (len : Int)
  · go_enter Try.func5, Try.ntmps5
    go_wp2_with fail
    go_ret
    exact ⟨rfl, Below.refl _ _⟩
  · go_enter Try.func5, Try.ntmps5
    go_wp2_with fail
    refine (drawMilliOf_any h).mono ?_
    rintro e w1 ⟨v, ⟨x, y, re, im, rfl, hrest⟩, rfl, B1⟩
    clear hrest h
    by_cases hok : (fin .f32 x && fin .f32 y && okK x && okK y) = true
    · have hm : mOf x y = .tuple #[.int .i64 (sK x), .int .i64 (sK y), .bool true] := by unfold mOf; rw [hok]; rfl
      simp only [Bool.and_eq_true] at hok
      obtain ⟨⟨⟨h1, h2⟩, h3⟩, h4⟩ := hok
      obtain ⟨z1, z2, z3, z4⟩ := mOf_back h3 h4
      have hnear : nearB x y (milliB (sK x)) (milliB (sK y)) 4564560351926583034 = true := by unfold nearB; rw [h1, h2, z3, z4, near_back h1 h3, near_back h2 h4]; rfl
      have M := Lib.hid hm
      have Z1 := Lib.hid z1
      have Z2 := Lib.hid z2
      have NR := Lib.hid hnear
      clear hm h1 h2 h3 h4 z1 z2 z3 z4 hnear
      go_wp2_with fail
      refine (implMilliOf_any _ _ _).mono ?_
      rw [M.out]
      rintro e w2 ⟨rfl, n1, rfl⟩
      go_wp2_with fail
      refine (specMilliOf_any _ _ _).mono ?_
      rw [M.out]
      rintro e w2 ⟨rfl, n2, rfl⟩
      go_wp2_with fail
      refine (implMilli_any _ _ _).mono ?_
      rw [Z1.out]
      rintro e w2 ⟨rfl, rfl⟩
      go_wp2_with fail
      refine (implMilliOf_any _ _ _).mono ?_
      rw [Z2.out]
      rintro e w2 ⟨rfl, n3, rfl⟩
      go_wp2_with fail
      refine (implNear_any _ _ _ _ _ _ bound_spec.1).mono ?_
      rw [NR.out]
      rintro e w2 ⟨rfl, n4, rfl⟩
      go_wp2_with fail
      go_ret
      exact ⟨rfl, below_drewN B1 _⟩
    · have hok' : (fin .f32 x && fin .f32 y && okK x && okK y) = false := by simpa using hok
      have hm : mOf x y = .tuple #[.int .i64 0, .int .i64 0, .bool false] := by unfold mOf; rw [hok']; rfl
      have M := Lib.hid hm
      clear hm hok hok'
      go_wp2_with fail
      refine (implMilliOf_any _ _ _).mono ?_
      rw [M.out]
      rintro e w2 ⟨rfl, n1, rfl⟩
      go_wp2_with fail
      refine (specMilliOf_any _ _ _).mono ?_
      rw [M.out]
      rintro e w2 ⟨rfl, n2, rfl⟩
      go_wp2_with fail
      refine (alive_any _).mono ?_
      rintro e w2 ⟨rfl, rfl⟩
      go_wp2_with fail
      go_ret
      exact ⟨rfl, below_drewN B1 _⟩

end Go.Proofs.Ytneheglollbcdaa
