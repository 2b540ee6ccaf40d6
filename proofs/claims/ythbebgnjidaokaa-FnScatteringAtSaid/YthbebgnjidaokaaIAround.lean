/-
  The rows around a frequency, in the program.
-/
import Derived.Test.YthbebgnjidaokaaScatS
import Derived.Test.YthbebgnjidaokaaImplTb
namespace Go.Proofs.Ythbebgnjidaokaa
open Go.RowKit Fl

/-- What rowsAround gives: no row, the row at the frequency, or both rows around it. -/
inductive Around (g : Nat) (rs : List RowW) (f : Int) : Value → Prop where
  | no : scatR f none rs = none → Around g rs f (.slice none 0 0)
  | one (k : Nat) (h : k < rs.length) : scatR f none rs = some rs[k].m → Around g rs f (.slice (some ⟨g, k * 5, none⟩) 1 1)
  | two (k : Nat) (h : k + 1 < rs.length) : rs[k].f < f → f < rs[k + 1].f → scatR f none rs = betRow rs[k].m rs[k + 1].m (partB (f - rs[k].f) (rs[k + 1].f - rs[k].f)) → Around g rs f (.slice (some ⟨g, k * 5, none⟩) 2 2)

theorem around_low {rs : List RowW} {f : Int} (hb : rowsB none rs = true) (h0 : 0 < rs.length) (h : f < rs[0].f) : scatR f none rs = none := by
  cases rs with
  | nil => simp at h0
  | cons r rs =>
    have h' : (freqB r.f && r.finB && afterB none r.f && rowsB (some r.f) rs) = true := hb
    simp only [Bool.and_eq_true] at h'
    have hlt : f < r.f := h
    unfold scatR
    rw [if_neg (by omega)]
    exact scatR_low f rs hlt h'.2
theorem around_next {rs : List RowW} {f : Int} {k : Nat} (h : k < rs.length) (F : scatR f (prevR rs k) (rs.drop k) = scatR f none rs) (hf : rs[k].f < f) : scatR f (prevR rs (k + 1)) (rs.drop (k + 1)) = scatR f none rs := by
  have := scatR_step h F
  rw [if_neg (by omega)] at this
  cases hp : prevR rs k with
  | none => rw [hp] at this; exact this.symm
  | some q =>
    rw [hp] at this
    dsimp only at this
    rw [if_pos (.inr hf)] at this
    exact this.symm
theorem around_two {rs : List RowW} {f : Int} {k : Nat} (h : k + 1 < rs.length) (F : scatR f (prevR rs (k + 1)) (rs.drop (k + 1)) = scatR f none rs) (h1 : rs[k].f < f) (h2 : f < rs[k + 1].f) : scatR f none rs = betRow rs[k].m rs[k + 1].m (partB (f - rs[k].f) (rs[k + 1].f - rs[k].f)) := by
  have := scatR_step h F
  rw [if_neg (by omega)] at this
  have hp : prevR rs (k + 1) = some rs[k] := List.getElem?_eq_getElem (by omega)
  rw [hp] at this
  dsimp only at this
  rw [if_neg (by omega)] at this
  exact this

set_option maxRecDepth 8000 in
set_option maxHeartbeats 4000000 in
theorem rowsAround_any {g n cap : Nat} {rs : List RowW} {f : Int} {w : World} (hR : Row5 w g rs) (hn : rs.length = n) (hc : n ≤ cap) (hT : tabB rs = true) :
    Calls Try.prog 38 #[.slice (some ⟨g, 0, none⟩) n cap, .int .i64 f] w fun z w' => (∃ v, z = .returned v ∧ Around g rs f v) ∧ Calm w w' := by
  have HR := Lib.hid hR
  have hl := tabB_len hT
  have HB := Lib.hid (show rowsB none rs = true by unfold tabB at hT; simp only [Bool.and_eq_true] at hT; exact hT.1)
  clear hR hT
  subst hn
  obtain ⟨a0, _, _, _, _⟩ := HR.out 0 (by omega)
  have hgl := World.block_lt_of_cell? w _ a0
  have hpos : 0 < rs.length := by omega
  have HLow := Lib.hid (fun h => around_low (f := f) HB.out hpos h)
  generalize hr0 : rs[0] = r0 at *
  have HR0 := Lib.hid hr0
  dsimp only at a0 hgl
  rw [Nat.zero_mul] at a0
  clear hr0
  by_cases hlow : f < r0.f
  · have HV := Lib.hid (HLow.out hlow)
    have hd : decide (f < r0.f) = true := by simpa using hlow
    go_enter Try.func38, Try.ntmps38
    go_wp2_with fail
    go_ret
    exact ⟨⟨_, rfl, .no HV.out⟩, grown_refl _ _⟩
  · have hd : decide (f < r0.f) = false := by simpa using hlow
    clear HLow
    go_enter Try.func38, Try.ntmps38
    go_wp2_with fail
    go_loopw [15] (fun kv wr => ∃ k : Nat, k ≤ rs.length ∧ kv = .int .i64 k ∧ scatR f (prevR rs k) (rs.drop k) = scatR f none rs ∧ (∀ i, (h : i < rs.length) → i < k → rs[i].f < f) ∧ Calm w wr)
      (fun kv _ => rs.length - (intOf kv).toNat)
    case atStart => exact ⟨0, by omega, rfl, rfl, fun i _ h => absurd h (by omega), grown_refl _ _⟩
    case round =>
      obtain ⟨k, hk, rfl, hS, hlo, C⟩ := hrel
      have HS := Lib.hid hS
      have HLo := Lib.hid hlo
      have HC := Lib.hid C
      clear C hS hlo
      by_cases hlt : k < rs.length
      · obtain ⟨b0, b1, b2, b3, b4⟩ := HR.out.calm HC.out k hlt
        have HNx := Lib.hid (fun h : rs[k].f < f => around_next hlt HS.out h)
        have HLn : Hid (rs[k].f < f → ∀ i, (h : i < rs.length) → i < k + 1 → rs[i].f < f) := Lib.hid (by
          intro h i hi hik
          by_cases e : i = k
          · subst e; exact h
          · exact HLo.out i hi (by omega))
        have HOne : Hid (rs[k].f = f → Around g rs f (.slice (some ⟨g, k * 5, none⟩) 1 1)) := Lib.hid (fun h => .one k hlt (by
          have := scatR_row rs (p := none) hlt HB.out
          rw [h] at this
          exact this))
        have HTwo : Hid (f < rs[k].f → 1 ≤ k ∧ Around g rs f (.slice (some ⟨g, (k - 1) * 5, none⟩) 2 2)) := Lib.hid (by
          intro h
          cases k with
          | zero =>
            exfalso
            have := HR0.out
            have : rs[0].f = r0.f := by rw [this]
            omega
          | succ j =>
            have hj := HLo.out j (by omega) (by omega)
            exact ⟨by omega, .two j (by omega) hj h (around_two (by omega) HS.out hj h)⟩)
        generalize rs[k] = r at *
        have hgl := World.block_lt_of_cell? wr _ b0
        dsimp only at b0 b1 b2 b3 b4 hgl
        clear HR0
        rcases Int.lt_trichotomy r.f f with h | h | h
        · have e1 : (r.f == f) = false := by simp; omega
          have e2 : decide (f < r.f) = false := by simp; omega
          have HN2 := Lib.hid (HNx.out h)
          have HL2 := Lib.hid (HLn.out h)
          clear HNx HLn HOne HTwo
          go_wp2_with fail
          exact ⟨⟨k + 1, by omega, by go_num, HN2.out, HL2.out, calm_allocR HC.out _⟩, by simp [intOf]; omega⟩
        · have e1 : (r.f == f) = true := by simp; omega
          have HV := Lib.hid (HOne.out h)
          have hkc : (k : Int) + 1 ≤ cap := by omega
          have hkd : ((k : Int) + 1).toNat = k + 1 := by omega
          clear HNx HLn HOne HTwo
          go_wp2_with fail
          go_ret
          exact ⟨⟨_, rfl, HV.out⟩, calm_allocR HC.out _⟩
        · have e1 : (r.f == f) = false := by simp; omega
          have e2 : decide (f < r.f) = true := by simp; omega
          obtain ⟨hk1, hv⟩ := HTwo.out h
          have HV := Lib.hid hv
          have ej : IntKind.i64.wrap ((k : Int) - 1) = ((k - 1 : Nat) : Int) := by rw [IntWalk.i64_in _ (by omega)]; omega
          have hkc : (k : Int) + 1 ≤ cap := by omega
          have hkd : ((k : Int) + 1).toNat = k + 1 := by omega
          have hke : ((k - 1 : Nat) : Int) ≤ (k : Int) + 1 := by omega
          clear HNx HLn HOne HTwo hv
          go_wp2_with fail
          go_ret
          refine ⟨⟨_, rfl, ?_⟩, calm_allocR HC.out _⟩
          have e3 : k + 1 - (k - 1) = 2 := by omega
          have hv2 := HV.out
          simpa [e3] using hv2
      · have hn' : k = rs.length := by omega
        subst hn'
        rw [List.drop_length] at HS
        have HV := Lib.hid (show scatR f none rs = none from HS.out.symm)
        go_wp2_with fail
        go_ret
        exact ⟨⟨_, rfl, .no HV.out⟩, HC.out⟩

end Go.Proofs.Ythbebgnjidaokaa
