/-
  The draw of a text that is often that of a table.
-/
import Derived.Test.YthbebgnjidaokaaGreatDoorSameTab
import Derived.Test.YthbebgnjidaokaaGreatDoorTabW
namespace Go.Proofs.YthbebgnjidaokaaGreatDoor
open Go.RowKit Fl

theorem tabT_len {rs : List RowW} {l : Tx.Bs} (h : tabT rs = some l) : l.length ≤ 960 := by
  unfold tabT at h
  cases ht : tabB rs
  · rw [ht] at h; simp at h
  · rw [ht] at h
    split at h
    · injection h with h
      have h8 := (tabB_len ht).2
      have := headT_len (tabB_freq ht) rs.length (Nat.le_refl _)
      unfold headT at this
      rw [List.take_length] at this
      rw [← h]
      omega
    · cases h

/-- What is put in for a byte. -/
def inS (q : Nat) : ByteArray := match q with
  | 0 => ⟨#[]⟩
  | 1 => ⟨#[48]⟩
  | 2 => ⟨#[32]⟩
  | 3 => ⟨#[10]⟩
  | 4 => ⟨#[45]⟩
  | _ => ⟨#[44]⟩
theorem inS_at (q : Nat) (h : q < [Value.string ⟨#[]⟩, .string ⟨#[48]⟩, .string ⟨#[32]⟩, .string ⟨#[10]⟩, .string ⟨#[45]⟩, .string ⟨#[44]⟩].length) :
    [Value.string ⟨#[]⟩, .string ⟨#[48]⟩, .string ⟨#[32]⟩, .string ⟨#[10]⟩, .string ⟨#[45]⟩, .string ⟨#[44]⟩][q]'h = .string (inS q) := by
  have hq : q = 0 ∨ q = 1 ∨ q = 2 ∨ q = 3 ∨ q = 4 ∨ q = 5 := by simp at h; omega
  rcases hq with rfl | rfl | rfl | rfl | rfl | rfl
  all_goals rfl
theorem inS_len (q : Nat) : (inS q).size ≤ 1 := by
  unfold inS
  split <;> decide

set_option maxRecDepth 8000 in
set_option maxHeartbeats 2000000 in
theorem drawReadTable_any {a : Option Addr} {len cap : Nat} {zs : List Int} {w : World} (h : IsRow .u8 w a len cap zs) :
    Calls Tryz.prog 14 #[.slice a len cap] w fun e w' => ∃ s : ByteArray, e = .returned (.string s) ∧ s.size ≤ 1000 ∧ Below w.heap.size w w' := by
  go_enter Tryz.func14, Tryz.ntmps14
  go_wp2_with fail
  refine (open_any h).mono ?_
  rintro e w1 ⟨b, a1, len1, cap1, rfl, R1, hb, B1⟩
  have hlt := R1.lt
  go_wp2_with fail
  refine (table_any R1 (by omega) (by omega) (by omega)).mono ?_
  rintro e w2 ⟨g, c, k2, rs, rfl, hl, _, hk2, R2, O2, G2⟩
  have HO := Lib.hid O2
  have HB := Lib.hid (below_drawn B1 hb B1.size G2)
  have HR := Lib.hid R2
  clear O2 G2 B1 R2
  go_wp2_with fail
  refine (specTableText_any (row5_of HO.out) rfl (by omega)).mono ?_
  rintro z w3 ⟨rfl, C⟩
  have HR3 := Lib.hid (HR.out.calmE C)
  have HB3 := Lib.hid (below_calm HB.out HB.out.size C)
  clear C HR HB HO
  obtain ⟨s, β, hs, hs2⟩ : ∃ (s : ByteArray) (β : Bool), textV (tabT rs) = .tuple #[.string s, .bool β] ∧ s.size ≤ 960 := by
    cases ht : tabT rs with
    | none => exact ⟨_, _, rfl, by rw [txt_size]; simp⟩
    | some l => exact ⟨_, _, rfl, by rw [txt_size]; exact tabT_len ht⟩
  rw [hs]
  clear hs
  go_wp2_with fail
  refine (pick_any HR3.out (by omega) (by omega) (by omega)).mono ?_
  rintro e w4 ⟨q, m4, q0, q1, rfl, hw4⟩
  have G4 : w3.grownBy w4 (some b) := by rw [hw4]; exact grown_drewN (Lib.grownBy_setB (grown_refl _ _) 1 _) m4
  have HR4 := Lib.hid (show Rd w4 b a1 len1 cap1 (k2 + 1) by rw [hw4]; exact HR3.out.step m4)
  have HB4 := Lib.hid (below_drawn HB3.out hb HB3.out.size G4)
  clear hw4 HR3 HB3 G4
  by_cases hq : q = 0
  · subst hq
    by_cases hs0 : s.size = 0
    · go_wp2_with fail
      go_ret
      exact ⟨s, rfl, by omega, HB4.out⟩
    · have hs1 : 0 < s.size := by omega
      go_wp2_with fail
      all_goals
        refine (pick_any HR4.out (by omega) (by omega) (by omega)).mono ?_
        rintro e w5 ⟨y, m5, y0, y1, rfl, hw5⟩
        have G5 : w4.grownBy w5 (some b) := by rw [hw5]; exact grown_drewN (Lib.grownBy_setB (grown_refl _ _) 1 _) m5
        have HR5 := Lib.hid (show Rd w5 b a1 len1 cap1 (k2 + 1 + 1) by rw [hw5]; exact HR4.out.step m5)
        have HB5 := Lib.hid (below_drawn HB4.out hb HB4.out.size G5)
        clear hw5 HR4 HB4 G5
        obtain ⟨k, rfl⟩ : ∃ k : Nat, y = (k : Int) := ⟨y.toNat, by omega⟩
        have hk : k < s.size := by omega
        clear y0 y1
        have hU := inS_at
        have hsx : (s.extract 0 k).size = k := by simp; omega
        have hsy : (s.extract (k + 1) s.size).size = s.size - (k + 1) := by simp
        obtain ⟨sa, hsa⟩ : ∃ sa, s.extract 0 k = sa := ⟨_, rfl⟩
        obtain ⟨sb, hsb⟩ : ∃ sb, s.extract (k + 1) s.size = sb := ⟨_, rfl⟩
        rw [hsa] at hsx
        rw [hsb] at hsy
        have hC1 : ∀ q : Nat, sa.size + (inS q).size ≤ 9223372036854775807 := fun q => by have := inS_len q; omega
        have hC2 : ∀ q : Nat, sa.size + (inS q).size + sb.size ≤ 9223372036854775807 := fun q => by have := inS_len q; omega
        have hC3 : ∀ q : Nat, ¬ (9223372036854775807 < sa.size + (inS q).size) := fun q => by have := inS_len q; omega
        have hC4 : ∀ q : Nat, ¬ (9223372036854775807 < sa.size + (inS q).size + sb.size) := fun q => by have := inS_len q; omega
        have hk2 : (k : Int) + 1 ≤ (s.size : Int) := by omega
        have hk3 : (0 : Int) ≤ (k : Int) + 1 := by omega
        have ej : IntKind.i64.wrap ((k : Int) + 1) = (k : Int) + 1 := IntWalk.i64_in _ (by omega)
        clear hsx hsy
        have R0 := HR5.out
        have hltb := R0.lt
        go_wp2_with fail
        go_region_with (first
          | (go_at_call 37; refine Calls.mono (pick_any (a := a1) (len := len1) (cap := cap1) (by with_reducible (repeat (first | exact R0 | apply Rd.drewN | apply Rd.drew | apply Rd.alloc))) (by omega) (by omega) (by omega)) ?_; rintro e w' ⟨p', m', q0, q1, rfl, rfl⟩))
        all_goals
          go_wp2_with fail
          go_ret
          refine ⟨_, rfl, ?_, below_drawn HB5.out hb HB5.out.size ?_⟩
          · have e1 : sa.size ≤ s.size := by rw [← hsa]; simp; omega
            have e2 : sb.size ≤ s.size - (k + 1) := by rw [← hsb]; simp
            have e3 := inS_len p'.toNat
            have e4 : sa.size = k := by rw [← hsa]; simp; omega
            simp only [ByteArray.size_append]
            omega
          · with_reducible repeat (first | exact grown_refl _ _ | apply grown_drewN | apply grown_drew | apply Lib.grownBy_allocR | apply Lib.grownBy_setB)
  · go_wp2_with fail
    go_ret
    exact ⟨s, rfl, by omega, HB4.out⟩

theorem byt_txt (l : Tx.Bs) : byt (txt l) = l := by unfold byt txt; simp
theorem txt_byt (s : ByteArray) : txt (byt s) = s := by unfold byt txt; simp
theorem byt_app (s t : ByteArray) : byt (s ++ t) = byt s ++ byt t := by unfold byt; simp
theorem trow_own {w : World} {base n : Nat} {v : Value} {rs : List RowW} (O : w.ownsRow base 34 5 v n (cells5 rs)) (hn : rs.length = n) : ∃ a c, v = .slice a n c ∧ TRow w a rs := by
  subst hn
  by_cases hv : v = .slice none 0 0
  · subst hv
    have h0 : rs = [] := by
      have := O.1
      rcases O.2 with ⟨_, h⟩ | ⟨g, c, cur, h, _⟩
      · cases rs with
        | nil => rfl
        | cons r t => exfalso; simp at h
      · cases h
    subst h0
    exact ⟨none, 0, rfl, .inl rfl⟩
  · obtain ⟨g, c, rfl⟩ := own_formT O hv
    exact ⟨some ⟨g, 0, none⟩, c, rfl, .inr ⟨g, rfl, row5_of O⟩⟩

end Go.Proofs.YthbebgnjidaokaaGreatDoor
