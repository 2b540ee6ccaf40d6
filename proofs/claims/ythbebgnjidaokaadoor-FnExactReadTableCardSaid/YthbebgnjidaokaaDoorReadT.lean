/-
  Numbers and tables read from texts, in the model.
-/
import Derived.Test.YthbebgnjidaokaaDoorCutT
import Derived.Test.YthbebgnjidaokaaDoorTbl
namespace Go.Proofs.YthbebgnjidaokaaDoor
open Go.RowKit Fl

theorem cutL_short (c : UInt8) (l : Tx.Bs) : ∀ x ∈ Tx.cutL c l, x.length ≤ l.length := by
  induction l with
  | nil => intro x hx; simp [Tx.cutL] at hx; subst hx; exact Nat.le_refl _
  | cons b r ih =>
    intro x hx
    unfold Tx.cutL at hx
    split at hx
    · rcases List.mem_cons.1 hx with rfl | hx
      · simp
      · have := ih x hx
        simp
        omega
    · split at hx
      · rename_i y ys hc
        rcases List.mem_cons.1 hx with rfl | hx
        · have := ih y (by rw [hc]; exact List.mem_cons_self ..)
          simp
          omega
        · have := ih x (by rw [hc]; exact List.mem_cons_of_mem _ hx)
          simp
          omega
      · simp at hx
        subst hx
        simp
theorem piece_short {c : UInt8} {s : ByteArray} {ps : List ByteArray} (h : ps.map byt = Tx.cutL c (byt s)) {p : ByteArray} (hp : p ∈ ps) : p.size ≤ s.size := by
  rw [← byt_len, ← byt_len]
  exact cutL_short c _ _ (by rw [← h]; exact List.mem_map_of_mem hp)

theorem milliV_in {p q : Int} (hp : -9999999 ≤ p ∧ p ≤ 9999999) (hq : -9999999 ≤ q ∧ q ≤ 9999999) : milliV p q = .complex .f32 (milliB p) (milliB q) := by
  unfold milliV
  rw [okM_iff.2 hp, okM_iff.2 hq]
  rfl

set_option maxRecDepth 8000 in
set_option maxHeartbeats 4000000 in
theorem l8Read_any (s : ByteArray) (hs : s.size ≤ 1048576) (w : World) :
    Calls Tryd.prog 11 #[.string s] w fun z w' => (∃ x y, z = .returned (.tuple #[.complex .f32 x y, .bool (Tx.numV (byt s)).isSome]) ∧ ∀ v, Tx.numV (byt s) = some v → x = milliB v.1 ∧ y = milliB v.2) ∧ Calm w w' := by
  go_enter Tryd.func11, Tryd.ntmps11
  go_wp2_with fail
  refine (l1Cut_any s 44 hs _).mono ?_
  rintro z w1 ⟨g, n, cap, ps, rfl, hn, hps, hL, C1, _⟩
  have HL := Lib.hid hL
  have HC := Lib.hid C1
  clear hL C1
  by_cases h2 : n = 2
  · subst h2
    obtain ⟨a, b, rfl⟩ : ∃ a b, ps = [a, b] := by
      cases ps with
      | nil => simp at hn
      | cons a t =>
        cases t with
        | nil => simp at hn
        | cons b r =>
          cases r with
          | nil => exact ⟨a, b, rfl⟩
          | cons x y => simp at hn
    have ha := piece_short hps (List.mem_cons_self .. : a ∈ [a, b])
    have hb := piece_short hps (List.mem_cons_of_mem _ (List.mem_cons_self ..) : b ∈ [a, b])
    have HV : Hid (Tx.numV (byt s) = match Tx.digV (byt a), Tx.digV (byt b) with
      | some p, some q => some (p, q)
      | _, _ => none) := Lib.hid (by
        unfold Tx.numV
        rw [← hps]
        rfl)
    have c0 : w1.cell? ⟨g, 0, none⟩ = some (.string a) := HL.out 0 (by simp)
    have c1 : w1.cell? ⟨g, 1, none⟩ = some (.string b) := HL.out 1 (by simp)
    have gl := World.block_lt_of_cell? w1 _ c0
    have HA := Lib.hid (l1Digits_any a.size a rfl (by omega))
    have HB := Lib.hid (l1Digits_any b.size b rfl (by omega))
    clear hn hps
    go_wp2_with fail
    refine (HA.out _).mono ?_
    rintro z w2 ⟨⟨p, rfl, hp, p0, p1⟩, hw2⟩
    subst hw2
    go_wp2_with fail
    refine (HB.out _).mono ?_
    rintro z w2 ⟨⟨q, rfl, hq, q0, q1⟩, hw2⟩
    subst hw2
    go_wp2_with fail
    refine (specMilli_any _ _ _).mono ?_
    rw [milliV_in ⟨p0, p1⟩ ⟨q0, q1⟩]
    rintro z w2 ⟨rfl, hw2⟩
    subst hw2
    obtain ⟨α, hα⟩ : ∃ α, Tx.digV (byt a) = α := ⟨_, rfl⟩
    obtain ⟨β, hβ⟩ : ∃ β, Tx.digV (byt b) = β := ⟨_, rfl⟩
    rw [hα] at hp HV ⊢
    rw [hβ] at hq HV ⊢
    clear hα hβ
    have HX : Hid ((Tx.numV (byt s)).isSome = (α.isSome && β.isSome) ∧ ∀ v, Tx.numV (byt s) = some v → milliB p = milliB v.1 ∧ milliB q = milliB v.2) := Lib.hid (by
      rw [HV.out]
      cases α with
      | none => exact ⟨rfl, fun v h => by cases h⟩
      | some x =>
        cases β with
        | none => exact ⟨rfl, fun v h => by cases h⟩
        | some y =>
          refine ⟨rfl, fun v h => ?_⟩
          injection h with h
          subst h
          rcases hp with hp | hp
          · rcases hq with hq | hq
            · injection hp with hp
              injection hq with hq
              subst hp hq
              exact ⟨rfl, rfl⟩
            · cases hq
          · cases hp)
    clear hp hq HV
    cases α <;> cases β
    all_goals
      go_wp2_with fail
      go_ret2
      exact ⟨⟨milliB p, milliB q, by rw [HX.out.1]; rfl, HX.out.2⟩, HC.out⟩
  · have HV : Hid (Tx.numV (byt s) = none) := Lib.hid (by
      unfold Tx.numV
      rw [← hps]
      cases ps with
      | nil => rfl
      | cons a t =>
        cases t with
        | nil => rfl
        | cons b r =>
          cases r with
          | nil => exfalso; simp at hn; omega
          | cons x y => rfl)
    go_wp2_with fail
    go_ret2
    exact ⟨⟨0, 0, by rw [HV.out]; rfl, fun v h => by rw [HV.out] at h; cases h⟩, HC.out⟩

end Go.Proofs.YthbebgnjidaokaaDoor
