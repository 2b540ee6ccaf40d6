/-
  TableOk in the program.
-/
import Derived.Test.YthbebgnjidaokaaDoorTbl
import Derived.BigQuiet
namespace Go.Proofs.YthbebgnjidaokaaDoor
open Go.RowKit Fl

theorem tabB_len {rs : List RowW} (h : tabB rs = true) : 1 ≤ rs.length ∧ rs.length ≤ 8 := by
  unfold tabB at h
  simp at h
  exact ⟨h.2.1, h.2.2⟩
/-- The frequency before, as the program keeps it. -/
def Befo (p : Option Int) (b : Int) : Prop := (p = none ∧ b = -1) ∨ (p = some b ∧ 0 ≤ b)
theorem befo_low {p : Option Int} {b f : Int} (H : Befo p b) (h : f ≤ b) : (freqB f && afterB p f) = false := by
  rcases H with ⟨rfl, rfl⟩ | ⟨rfl, _⟩
  · unfold freqB; simp; omega
  · unfold afterB; simp; omega
theorem befo_ok {p : Option Int} {b f : Int} (H : Befo p b) (h : b < f) (h9 : f ≤ 9999999) : freqB f = true ∧ afterB p f = true := by
  rcases H with ⟨rfl, rfl⟩ | ⟨rfl, _⟩
  · unfold freqB afterB; simp; omega
  · unfold freqB afterB; simp; omega

set_option maxRecDepth 8000 in
set_option maxHeartbeats 4000000 in
theorem implTableOk_any {g n cap : Nat} {rs : List RowW} {w : World} (hR : Row5 w g rs) (hn : rs.length = n) (hl : n ≤ 1048576) :
    Calls Tryd.prog 24 #[.slice (some ⟨g, 0, none⟩) n cap] w fun z w' => z = .returned (.bool (tabB rs)) ∧ Calm w w' := by
  have HR := Lib.hid hR
  clear hR
  subst hn
  by_cases h1 : rs.length < 1
  · have HX : Hid (tabB rs = false) := Lib.hid (by
      cases h : tabB rs
      · rfl
      · have := (tabB_len h).1; omega)
    go_enter Tryd.func24, Tryd.ntmps24
    go_wp2_with fail
    go_ret
    exact ⟨by rw [HX.out]; rfl, grown_refl _ _⟩
  · by_cases h8 : 8 < rs.length
    · have HX : Hid (tabB rs = false) := Lib.hid (by
        cases h : tabB rs
        · rfl
        · have := (tabB_len h).2; omega)
      go_enter Tryd.func24, Tryd.ntmps24
      go_wp2_with fail
      go_ret
      exact ⟨by rw [HX.out]; rfl, grown_refl _ _⟩
    · have HI : Hid ((decide (1 ≤ rs.length) && decide (rs.length ≤ 8)) = true) := Lib.hid (by simp; omega)
      go_enter Tryd.func24, Tryd.ntmps24
      go_wp2_with fail
      go_loopw [3, 16] (fun bv kv wr => ∃ (n : Nat) (b : Int), n ≤ rs.length ∧ kv = .int .i64 n ∧ bv = .int .i64 b ∧ Befo (prevF rs n) b ∧ rowsB (prevF rs n) (rs.drop n) = rowsB none rs ∧ Calm w wr)
        (fun _ kv _ => rs.length - (intOf kv).toNat)
      case atStart => exact ⟨0, -1, by omega, rfl, rfl, .inl ⟨rfl, rfl⟩, rfl, grown_refl _ _⟩
      case round =>
        obtain ⟨n, b, hn, rfl, rfl, hB, hF, C⟩ := hrel
        have HC := Lib.hid C
        have HB := Lib.hid hB
        clear C hB
        by_cases hlt : n < rs.length
        · have hS := rowsB_step hlt hF
          obtain ⟨a0, a1, a2, a3, a4⟩ := HR.out.calm HC.out n hlt
          have HPN : Hid (prevF rs (n + 1) = some rs[n].f) := Lib.hid (by show rs[n]?.map RowW.f = _; rw [List.getElem?_eq_getElem hlt]; rfl)
          generalize rs[n] = r at *
          have hgl := World.block_lt_of_cell? wr _ a0
          dsimp only at a0 a1 a2 a3 a4 hgl
          have HT := Lib.hid hS
          clear hF hS
          have HW := Lib.hid (At.new wr (.cells #[.int .i64 r.f, .complex .f32 r.m.a r.m.b, .complex .f32 r.m.c r.m.d, .complex .f32 r.m.e r.m.f, .complex .f32 r.m.g r.m.h] 40))
          by_cases h0 : r.f ≤ b
          · have HX : Hid (tabB rs = false) := Lib.hid (by
              unfold tabB
              rw [HT.out]
              have := befo_low HB.out h0
              rcases Bool.and_eq_false_iff.1 this with e | e <;> rw [e] <;> simp)
            have h0' : decide (r.f ≤ b) = true := by simpa using h0
            go_wp2_with fail
            go_ret
            exact ⟨by rw [HX.out]; rfl, calm_allocR HC.out _⟩
          · have h0' : decide (r.f ≤ b) = false := by simpa using h0
            by_cases h9 : 9999999 < r.f
            · have HX : Hid (tabB rs = false) := Lib.hid (by
                unfold tabB
                rw [HT.out, show freqB r.f = false by unfold freqB; simp; omega]
                rfl)
              go_wp2_with fail
              go_ret
              exact ⟨by rw [HX.out]; rfl, calm_allocR HC.out _⟩
            · obtain ⟨hfq, hfa⟩ := befo_ok HB.out (show b < r.f by omega) (show r.f ≤ 9999999 by omega)
              have HFq := Lib.hid hfq
              have HFa := Lib.hid hfa
              clear hfq hfa
              have HNn : Hid (0 ≤ r.f) := Lib.hid (by have := HFq.out; unfold freqB at this; simp at this; omega)
              cases hfin : r.finB
              · have HG := Lib.hid (show finTwo r.m.a r.m.b r.m.c r.m.d r.m.e r.m.f r.m.g r.m.h = false from hfin)
                have HX : Hid (tabB rs = false) := Lib.hid (by unfold tabB; rw [HT.out, hfin, Bool.and_false]; rfl)
                go_wp2_with fail
                refine (implTwoOk_any _ _ _ _ _ _ _ _ _).mono ?_
                rw [HG.out]
                rintro z w2 ⟨rfl, C⟩
                have K := calm_trans (calm_allocR HC.out _) C
                clear C
                go_wp2_with fail
                go_ret
                exact ⟨by rw [HX.out]; rfl, K⟩
              · have HG := Lib.hid (show finTwo r.m.a r.m.b r.m.c r.m.d r.m.e r.m.f r.m.g r.m.h = true from hfin)
                have HN : Hid (rowsB (prevF rs (n + 1)) (rs.drop (n + 1)) = rowsB none rs) := Lib.hid (by rw [HT.out, HFq.out, hfin, HFa.out]; rfl)
                clear hfin
                go_wp2_with fail
                refine (implTwoOk_any _ _ _ _ _ _ _ _ _).mono ?_
                rw [HG.out]
                rintro z w2 ⟨rfl, C⟩
                have K := calm_trans (calm_allocR HC.out _) C
                have W2 := HW.out.calm C
                have c0 : w2.cell? ⟨wr.heap.size, 0, none⟩ = some (.int .i64 r.f) := W2.cell (i := 0) rfl
                have cl := W2.lt
                clear C a0 a1 a2 a3 a4 hgl
                go_wp2_with fail
                exact ⟨⟨n + 1, r.f, by omega, by go_num, rfl, .inr ⟨HPN.out, HNn.out⟩, HN.out, K⟩, by simp [intOf]; omega⟩
        · have hn' : n = rs.length := by omega
          subst hn'
          rw [List.drop_length] at hF
          have HX : Hid (tabB rs = true) := Lib.hid (by unfold tabB; rw [HI.out, ← hF]; rfl)
          clear hF
          go_wp2_with fail
          go_ret
          exact ⟨by rw [HX.out]; rfl, HC.out⟩

end Go.Proofs.YthbebgnjidaokaaDoor
