/-
  The chain matrix of a ladder, in the model.
-/
import Derived.Test.YteikkbmmbnihaaaLadM
import Derived.Test.YteikkbmmbnihaaaLadD
import Derived.Laws.OwnMore
namespace Go.Proofs.Yteikkbmmbnihaaa
open Go.RowKit Fl

/-- A ladder: its first byte, and its digits. -/
structure LadS (s : ByteArray) (c : Nat) (ns : List Nat) : Prop where
  size : s.size = ns.length + 1
  head : ∀ h : 0 < s.size, (s[0]'h).toNat = c
  dig : ∀ k (h : k + 1 < s.size), (s[k + 1]'h).toNat = 48 + ns.getD k 0
  lt : ∀ n ∈ ns, n < 8
  c : c = 115 ∨ c = 112
  len : ns.length ≤ 3

theorem ladT_get (c : Int) (ds : List Int) (k : Nat) (h : k < ds.length) (h' : k + 1 < (ladT c ds).size) : (ladT c ds)[k + 1]'h' = UInt8.ofNat (48 + ds[k]).toNat := by
  have hd : k + 1 < (ladT c ds).data.size := h'
  show (ladT c ds).data[k + 1]'hd = _
  have e : (ladT c ds).data = (UInt8.ofNat c.toNat :: ds.map fun d => UInt8.ofNat (48 + d).toNat).toArray := rfl
  simp only [e, List.getElem_toArray, List.getElem_cons_succ, List.getElem_map]

theorem ladS_of {s : ByteArray} {c : Int} {ds : List Int} (hc : c = 115 ∨ c = 112) (hl : ds.length ≤ 3) (hd : ∀ d ∈ ds, 0 ≤ d ∧ d < 8) (hs : s = ladT c ds) : LadS s c.toNat (ds.map Int.toNat) := by
  subst hs
  refine ⟨by rw [ladT_size, List.length_map], ?_, ?_, ?_, ?_, by simpa using hl⟩
  · intro h
    rcases hc with rfl | rfl <;> rfl
  · intro k h
    have hk : k < ds.length := by rw [ladT_size] at h; omega
    obtain ⟨h0, h1⟩ := hd ds[k] (List.getElem_mem hk)
    rw [ladT_get c ds k hk h, UInt8.toNat_ofNat', List.getD_eq_getElem?_getD, List.getElem?_map, List.getElem?_eq_getElem hk]
    simp only [Option.map_some, Option.getD_some]
    omega
  · intro n hn
    obtain ⟨d, hd', rfl⟩ := List.mem_map.1 hn
    have := hd d hd'
    omega
  · rcases hc with rfl | rfl
    · exact .inl rfl
    · exact .inr rfl

set_option maxHeartbeats 1000000 in
theorem specCross_any {s : ByteArray} {c : Nat} {ns : List Nat} (L : LadS s c ns) (k : Nat) (w : World) :
    Calls Try.prog 55 #[.string s, .int .i64 k] w fun x w' => x = .returned (.bool (crossB c k)) ∧ w' = w := by
  have h0 : 0 < s.size := by have := L.size; omega
  have hb := L.head h0
  have h1 : (((c : Nat) : Int) == 112) = (c == 112) := by
    rcases L.c with rfl | rfl <;> rfl
  have h2 : ((k : Int) % 2 == 1) = (k % 2 == 1) := by
    rcases (show k % 2 = 0 ∨ k % 2 = 1 by omega) with h | h
    · have : (k : Int) % 2 = 0 := by omega
      rw [this, h]; rfl
    · have : (k : Int) % 2 = 1 := by omega
      rw [this, h]; rfl
  have HE := Lib.hid (show ((((c : Nat) : Int) == 112) == ((k : Int) % 2 == 1)) = crossB c k by rw [h1, h2]; rfl)
  clear h1 h2
  go_enter Try.func55, Try.ntmps55
  go_wp2_with fail
  go_ret
  exact ⟨by rw [← HE.out]; rfl, rfl⟩

/-- The cells of a matrix, and of a list. -/
def Words.cells (m : Words) : List Value := [.complex .f32 m.a m.b, .complex .f32 m.c m.d, .complex .f32 m.e m.f, .complex .f32 m.g m.h]
def cellsL (ws : List Words) : List Value := ws.flatMap Words.cells
theorem cellsL_add (ws : List Words) (m : Words) : cellsL (ws ++ [m]) = cellsL ws ++ m.cells := by unfold cellsL; simp
theorem cellsL_length (ws : List Words) : (cellsL ws).length = ws.length * 4 := by
  induction ws with
  | nil => rfl
  | cons x xs ih =>
    have : cellsL (x :: xs) = x.cells ++ cellsL xs := by unfold cellsL; simp
    rw [this, List.length_append, ih]
    show 4 + xs.length * 4 = _
    simp
    omega
theorem cellsL_at (ws : List Words) : ∀ i, (h : i < ws.length) → (cellsL ws)[4 * i]? = some (.complex .f32 ws[i].a ws[i].b) ∧ (cellsL ws)[4 * i + 1]? = some (.complex .f32 ws[i].c ws[i].d) ∧
    (cellsL ws)[4 * i + 2]? = some (.complex .f32 ws[i].e ws[i].f) ∧ (cellsL ws)[4 * i + 3]? = some (.complex .f32 ws[i].g ws[i].h) := by
  induction ws with
  | nil => intro i h; simp at h
  | cons x xs ih =>
    intro i h
    have e : cellsL (x :: xs) = x.cells ++ cellsL xs := by unfold cellsL; simp
    cases i with
    | zero => exact ⟨rfl, rfl, rfl, rfl⟩
    | succ i =>
      obtain ⟨a, b, c, d⟩ := ih i (by simpa using h)
      have sh : ∀ j, (cellsL (x :: xs))[4 * (i + 1) + j]? = (cellsL xs)[4 * i + j]? := by
        intro j
        rw [e, show 4 * (i + 1) + j = (4 * i + j) + 4 by omega]
        show (x.cells ++ cellsL xs)[4 * i + j + 4]? = _
        rw [List.getElem?_append_right (by show 4 ≤ _; omega)]
        show (cellsL xs)[4 * i + j + 4 - 4]? = _
        rw [Nat.add_sub_cancel]
      refine ⟨?_, ?_, ?_, ?_⟩
      · have := sh 0; simp only [Nat.add_zero] at this; rw [this]; exact a
      · rw [sh 1]; exact b
      · rw [sh 2]; exact c
      · rw [sh 3]; exact d

/-- A list of its own is a row. -/
theorem own_row {w : World} {base : Nat} {v : Value} {ws : List Words} (h : w.ownsRow base 39 4 v ws.length (cellsL ws)) (hv : v ≠ .slice none 0 0) : ∃ g cap, v = .slice (some ⟨g, 0, none⟩) ws.length cap ∧ Row w g ws := by
  rcases h.2 with ⟨h', _⟩ | ⟨g, cap, cur, rfl, _⟩
  · exact absurd h' hv
  · refine ⟨g, cap, rfl, ?_⟩
    intro i hi
    obtain ⟨a, b, c, d⟩ := cellsL_at ws i hi
    exact ⟨by rw [h.cellAt _ (by omega)]; exact a, by rw [h.cellAt _ (by omega)]; exact b, by rw [h.cellAt _ (by omega)]; exact c, by rw [h.cellAt _ (by omega)]; exact d⟩

/-- What a ladder's loop has gathered behind the place k: the parts from the last digit on. -/
def gath (c : Nat) (ns : List Nat) (k : Nat) : List Words := (partsFrom c (k + 1) (ns.drop k)).map fun p => partW p.1 (tabI p.2)
theorem gath_end (c : Nat) (ns : List Nat) : gath c ns ns.length = [] := by unfold gath; rw [List.drop_length]; rfl
theorem gath_step (c : Nat) (ns : List Nat) {k : Nat} (h : k < ns.length) : gath c ns k = gath c ns (k + 1) ++ [partW (crossB c (k + 1)) (tabI (ns.getD k 0))] := by
  unfold gath
  rw [List.drop_eq_getElem_cons h, List.getD_eq_getElem?_getD, List.getElem?_eq_getElem h]
  simp [partsFrom]
theorem gath_length (c : Nat) (ns : List Nat) (k : Nat) : (gath c ns k).length = ns.length - k := by
  unfold gath
  have key : ∀ (l : List Nat) (j : Nat), (partsFrom c j l).length = l.length := by
    intro l
    induction l with
    | nil => intro j; rfl
    | cons x xs ih => intro j; simp [partsFrom, ih]
  rw [List.length_map, key, List.length_drop]

end Go.Proofs.Yteikkbmmbnihaaa
