/-
  What DrawBehindLine draws: a number that is not too great, sixteenths and thousandths.
-/
import Derived.Test.YtdmacimafkiijaaRefC
import Derived.Test.YtdmacimafkiijaaNc
namespace Go.Proofs.Ytdmacimafkiijaa
open Go.RowKit Fl

/-- A number whose parts, if they are finite, are together at most 3.19e38. -/
def GOk (x y : Nat) : Prop := fin .f32 x = true → fin .f32 y = true → absR (V FloatKind.f32.format x) + absR (V FloatKind.f32.format y) ≤ 319000000000000000000000000000000000000

theorem gok_small {x y : Nat} {A : Rat} (h1 : absR (V FloatKind.f32.format x) ≤ A) (h2 : absR (V FloatKind.f32.format y) ≤ A) (hA : A + A ≤ 319000000000000000000000000000000000000) : GOk x y := fun _ _ => by grind

theorem gok_num {x y : Nat} {n : Int} (h : NumOk n (.complex .f32 x y)) : GOk x y := by
  obtain ⟨x', y', re, im, e, r0, r1, i0, i1, h⟩ := h
  injection e with _ e1 e2
  subst e1; subst e2
  have hk : ∀ m : Int, -25000 ≤ m → m ≤ 50000 → absR (V FloatKind.f32.format (milliB m)) ≤ 20000 := by
    intro m h0 h1
    exact small_of_k (by rw [kOf_milli (by omega) (by omega)]; omega)
  rcases h with ⟨rfl, rfl⟩ | ⟨_, ⟨rfl, _⟩ | ⟨_, hn, _⟩ | ⟨rfl, rfl⟩ | ⟨rfl, rfl⟩ | ⟨h1, h2⟩ | ⟨rfl, rfl⟩⟩
  · exact gok_small (hk _ r0 r1) (hk _ i0 i1) (by decide +kernel)
  · intro h; exact absurd h (by decide)
  · intro _ h
    have := fin_not_nan h
    rw [hn] at this
    cases this
  · intro _ _; decide +kernel
  · intro _ _; decide +kernel
  · intro _ _
    rcases h1 with rfl | rfl <;> rcases h2 with rfl | rfl <;> decide +kernel
  · intro _ _
    have h1 : absR (V FloatKind.f32.format 2137108966) ≤ 301000000000000000000000000000000000000 := by decide +kernel
    have := hk _ r0 r1
    grind

theorem load_form {v : Value} (h : LoadOk v) : ∃ x y, v = .complex .f32 x y := by
  rcases h with ⟨re, im, e, _⟩ | ⟨x, y, _, _, e, _⟩
  · exact ⟨_, _, e⟩
  · exact ⟨_, _, e⟩

theorem Rd.calm' {w w' : World} {b : Nat} {a : Option Addr} {len cap k : Nat} (h : Rd w b a len cap k) (C : Calm w w') : Rd w' b a len cap k := by
  have hlt := h.lt
  obtain ⟨T, hb⟩ := h.blk
  refine ⟨⟨T, by rw [C.block b hlt (fun e => by cases e)]; exact hb⟩, h.lim, ?_⟩
  intro i hi
  obtain ⟨ab, off, x, h1, h2, h3, h4, h5⟩ := h.data i hi
  refine ⟨ab, off, x, h1, h2, h3, h4, ?_⟩
  rw [World.cell?_of_block (w := w) (C.block ab (by omega) (fun e => by cases e))]
  exact h5

def BehDrawn (v : Value) : Prop := ∃ x y k l, v = .tuple #[.complex .f32 x y, .int .i64 k, .int .i64 l] ∧ GOk x y ∧ (-40 ≤ k ∧ k < 33) ∧ 0 ≤ l ∧ l ≤ 249

set_option maxHeartbeats 2000000 in
theorem drawBehindLine_any {a : Option Addr} {len cap : Nat} {zs : List Int} {w : World} (h : IsRow .u8 w a len cap zs) :
    Calls Try.prog 38 #[.slice a len cap] w (Got BehDrawn w) := by
  go_enter Try.func38, Try.ntmps38
  go_wp2_with fail
  refine (open_any h).mono ?_
  rintro e w1 ⟨b, a1, len1, cap1, rfl, R1, hb, B1⟩
  clear h
  go_wp2_with fail
  refine (load_any R1 (by omega) (by omega) (by omega)).mono ?_
  rintro e w2 ⟨v, k2, hv, rfl, hk2, R2, G2⟩
  have B2 := below_drawn B1 hb B1.size G2
  clear R1 G2 B1
  obtain ⟨x, y, rfl⟩ := load_form hv
  have hr : RefOk (.complex .f32 1065353216 0) := .inl (.inl rfl)
  obtain ⟨e, f, β, hi⟩ := refI_of hv hr
  have HI := Lib.hid hi
  have hg : ∀ w0 : World, GOk (if β then e else 0) (if β then f else 0) := by
    intro w0
    cases β
    · intro _ _; show absR (V FloatKind.f32.format 0) + absR (V FloatKind.f32.format 0) ≤ _; decide +kernel
    · obtain ⟨_, _, b1, b2⟩ := refI_bound w0 hv hr hi
      exact gok_small b1 b2 (by decide +kernel)
  have HG := Lib.hid (hg w2)
  clear hv hr hi hg
  go_wp2_with fail
  refine (specReflection_of HI.out _).mono ?_
  rintro z w3 ⟨rfl, C⟩
  have hn : numV β e f = .tuple #[.complex .f32 (if β then e else 0) (if β then f else 0), .bool β] := by cases β <;> rfl
  rw [hn]
  have hg := HG.out
  generalize (if β then e else 0) = p at *
  generalize (if β then f else 0) = q at *
  have R3 : Rd w3 b a1 len1 cap1 k2 := Rd.calm' R2 C
  have B3 := below_calm B2 B2.size C
  have HQ := Lib.hid hg
  clear hn HG HI C R2 B2 hg
  go_wp2_with fail
  refine (odd_any R3 (by omega) (by omega) (by omega)).mono ?_
  rintro z w4 ⟨v, k4, ⟨γ, rfl, _⟩, rfl, hk4, R4, G4⟩
  have B4 := below_drawn B3 hb B3.size G4
  clear R3 G4 B3
  cases γ
  · go_wp2_with fail
    refine (pick_any R4 (by omega) (by omega) (by omega)).mono ?_
    rintro e w5 ⟨k, m5, k0, k1, rfl, hw5⟩
    have R5 : Rd w5 b a1 len1 cap1 (k4 + 1) := by rw [hw5]; exact R4.step m5
    have B5 : Below w.heap.size w w5 := by rw [hw5]; exact below_drawn B4 hb B4.size (step_grown ..)
    clear hw5 R4 B4
    go_wp2_with fail
    refine (pick_any R5 (by omega) (by omega) (by omega)).mono ?_
    rintro e w6 ⟨u, m6, u0, u1, rfl, hw6⟩
    have R6 : Rd w6 b a1 len1 cap1 (k4 + 1 + 1) := by rw [hw6]; exact R5.step m6
    have B6 : Below w.heap.size w w6 := by rw [hw6]; exact below_drawn B5 hb B5.size (step_grown ..)
    clear hw6 R5 B5
    go_wp2_with fail
    refine (pick_any R6 (by omega) (by omega) (by omega)).mono ?_
    rintro e w7 ⟨s, m7, s0, s1, rfl, hw7⟩
    have R7 : Rd w7 b a1 len1 cap1 (k4 + 1 + 1 + 1) := by rw [hw7]; exact R6.step m7
    have B7 : Below w.heap.size w w7 := by rw [hw7]; exact below_drawn B6 hb B6.size (step_grown ..)
    clear hw7 R6 B6
    go_wp2_with fail
    refine (pick_any R7 (by omega) (by omega) (by omega)).mono ?_
    rintro e w8 ⟨t, m8, t0, t1, rfl, hw8⟩
    have B8 : Below w.heap.size w w8 := by rw [hw8]; exact below_drawn B7 hb B7.size (step_grown ..)
    clear hw8 R7 B7
    have hs : s = 0 ∨ s = 1 := by omega
    rcases hs with rfl | rfl
    all_goals
      go_wp2_with fail
      go_ret3
      exact ⟨_, ⟨p, q, _, _, rfl, HQ.out, by omega, by omega, by omega⟩, rfl, B8⟩
  · go_wp2_with fail
    refine (num_any R4 (by omega) (by omega) (by omega)).mono ?_
    rintro e w5 ⟨v, k5, hv, rfl, hk5, R5, G5⟩
    obtain ⟨x', y', re, im, rfl, hrest⟩ := hv
    have HQ' := Lib.hid (gok_num (n := 2) ⟨x', y', re, im, rfl, hrest⟩)
    have B5 := below_drawn B4 hb B4.size G5
    clear hrest R4 B4 G5
    go_wp2_with fail
    refine (pick_any R5 (by omega) (by omega) (by omega)).mono ?_
    rintro e w5 ⟨k, m5, k0, k1, rfl, hw5⟩
    have R5 : Rd w5 b a1 len1 cap1 (k5 + 1) := by rw [hw5]; exact R5.step m5
    have B5 : Below w.heap.size w w5 := by rw [hw5]; exact below_drawn B5 hb B5.size (step_grown ..)
    clear hw5
    go_wp2_with fail
    refine (pick_any R5 (by omega) (by omega) (by omega)).mono ?_
    rintro e w6 ⟨u, m6, u0, u1, rfl, hw6⟩
    have R6 : Rd w6 b a1 len1 cap1 (k5 + 1 + 1) := by rw [hw6]; exact R5.step m6
    have B6 : Below w.heap.size w w6 := by rw [hw6]; exact below_drawn B5 hb B5.size (step_grown ..)
    clear hw6 R5 B5
    go_wp2_with fail
    refine (pick_any R6 (by omega) (by omega) (by omega)).mono ?_
    rintro e w7 ⟨s, m7, s0, s1, rfl, hw7⟩
    have R7 : Rd w7 b a1 len1 cap1 (k5 + 1 + 1 + 1) := by rw [hw7]; exact R6.step m7
    have B7 : Below w.heap.size w w7 := by rw [hw7]; exact below_drawn B6 hb B6.size (step_grown ..)
    clear hw7 R6 B6
    go_wp2_with fail
    refine (pick_any R7 (by omega) (by omega) (by omega)).mono ?_
    rintro e w8 ⟨t, m8, t0, t1, rfl, hw8⟩
    have B8 : Below w.heap.size w w8 := by rw [hw8]; exact below_drawn B7 hb B7.size (step_grown ..)
    clear hw8 R7 B7
    have hs : s = 0 ∨ s = 1 := by omega
    rcases hs with rfl | rfl
    all_goals
      go_wp2_with fail
      go_ret3
      exact ⟨_, ⟨x', y', _, _, rfl, HQ'.out, by omega, by omega, by omega⟩, rfl, B8⟩

end Go.Proofs.Ytdmacimafkiijaa
