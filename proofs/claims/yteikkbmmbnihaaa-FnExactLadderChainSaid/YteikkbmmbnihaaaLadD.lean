/-
  What the draws of ladders come to.
-/
import Derived.Test.YteikkbmmbnihaaaLad
import Derived.Test.YteikkbmmbnihaaaDraw6
namespace Go.Proofs.Yteikkbmmbnihaaa
open Go.RowKit Fl

/-- The text of one digit. -/
def digT (n : Int) : ByteArray := ⟨#[UInt8.ofNat (48 + n).toNat]⟩

theorem conv_digit (n : Int) (h0 : 0 ≤ n) (h1 : n < 10) (w : World) (T : TypeId) : (convert 22 9 (.slice (some ⟨w.heap.size, 0, none⟩) 1 1)).run Try.prog (w.alloc (.cells #[.int .u8 (48 + n)] T)) =
    .ok (.string (digT n)) (w.alloc (.cells #[.int .u8 (48 + n)] T)) := by
  refine run_convert_bytes_back (w.alloc (.cells #[.int .u8 (48 + n)] T)) 22 9 5 ⟨w.heap.size, 0, none⟩ 1 [UInt8.ofNat (48 + n).toNat] Try.underlying22 Try.underlying5 Try.underlying9 ?_
  intro j hj
  have hj0 : j = 0 := by simpa using hj
  subst hj0
  have e : ((UInt8.ofNat (48 + n).toNat).toNat : Int) = 48 + n := by
    rw [UInt8.toNat_ofNat']
    omega
  simp only [List.getElem_cons_zero, e]
  have hh := heap_alloc_new w (.cells #[.int .u8 (48 + n)] T)
  simp [World.cell?, Addr.add] at hh ⊢
  rw [hh]
  rfl

set_option maxRecDepth 8000 in
set_option maxHeartbeats 1000000 in
theorem l1Number_one (n : Int) (h0 : 0 ≤ n) (h1 : n < 10) (w : World) :
    Calls Try.prog 78 #[.int .i64 n] w fun x w' => x = .returned (.string (digT n)) ∧ Calm w w' := by
  have hc := conv_digit n h0 h1 w 5
  go_enter Try.func78, Try.ntmps78
  go_wp2_with fail
  go_ret
  exact ⟨rfl, World.grownBy_alloc w _ none⟩

theorem Rd.calm6 {w w' : World} {b : Nat} {a : Option Addr} {len cap k : Nat} (h : Rd w b a len cap k) (C : Calm w w') : Rd w' b a len cap k := by
  have hlt := h.lt
  obtain ⟨T, hb⟩ := h.blk
  refine ⟨⟨T, by rw [C.block b hlt (fun e => by cases e)]; exact hb⟩, h.lim, ?_⟩
  intro i hi
  obtain ⟨ab, off, x, h1, h2, h3, h4, h5⟩ := h.data i hi
  refine ⟨ab, off, x, h1, h2, h3, h4, ?_⟩
  rw [World.cell?_of_block (w := w) (C.block ab (by omega) (fun e => by cases e))]
  exact h5

theorem calm_row {w w' : World} {b : Nat} (C : Calm w w') : w.grownBy w' (some b) := ⟨C.os, C.tape, C.output, C.size, fun B h _ => C.block B h (fun e => by cases e)⟩

/-- A text: its first byte, and digits. -/
def ladT (h : Int) (ds : List Int) : ByteArray := ⟨(UInt8.ofNat h.toNat :: ds.map fun d => UInt8.ofNat (48 + d).toNat).toArray⟩
theorem ladT_add (h : Int) (ds : List Int) (d : Int) : ladT h ds ++ digT d = ladT h (ds ++ [d]) := by
  unfold ladT digT
  rw [show (#[UInt8.ofNat (48 + d).toNat] : Array UInt8) = [UInt8.ofNat (48 + d).toNat].toArray from rfl, ByteArray.mk_append_mk]
  simp
theorem ladT_size (h : Int) (ds : List Int) : (ladT h ds).size = ds.length + 1 := by
  unfold ladT
  simp [ByteArray.size]

/-- A ladder as it is drawn: its first byte, and its digits. -/
def IsLad (s : ByteArray) : Prop := ∃ (h : Int) (ds : List Int), (h = 115 ∨ h = 112) ∧ ds.length ≤ 3 ∧ (∀ d ∈ ds, 0 ≤ d ∧ d < 8) ∧ s = ladT h ds

theorem two_heads (q : Nat) (h : q < 2) : ∃ c : Int, [Value.string { data := #[115] }, Value.string { data := #[112] }][q]'h = .string (ladT c []) ∧ (c = 115 ∨ c = 112) := by
  have hq : q = 0 ∨ q = 1 := by omega
  rcases hq with rfl | rfl
  · exact ⟨115, rfl, .inl rfl⟩
  · exact ⟨112, rfl, .inr rfl⟩

theorem five_bad (q : Nat) (h : q < 5) : ∃ s : ByteArray, [Value.string { data := #[] }, Value.string { data := #[120, 49] }, Value.string { data := #[115, 56] }, Value.string { data := #[115, 49, 49, 49, 49] }, Value.string { data := #[112, 45] }][q]'h = .string s ∧ s.size ≤ 5 ∧ ladB s = false := by
  have hq : q = 0 ∨ q = 1 ∨ q = 2 ∨ q = 3 ∨ q = 4 := by omega
  rcases hq with rfl | rfl | rfl | rfl | rfl
  · exact ⟨_, rfl, by decide, by decide⟩
  · exact ⟨_, rfl, by decide, by decide⟩
  · exact ⟨_, rfl, by decide, by decide⟩
  · exact ⟨_, rfl, by decide, by decide⟩
  · exact ⟨_, rfl, by decide, by decide⟩

set_option maxRecDepth 8000 in
set_option maxHeartbeats 4000000 in
theorem ladder_any {b len cap k : Nat} {a : Option Addr} {n : Int} {w : World} (R : Rd w b a len cap k) (hk : k < 700000) (h0 : 0 ≤ n) (h1 : n ≤ 1000000) :
    Calls Try.prog 49 #[.pointer (some ⟨b, 0, none⟩), .int .i64 n] w (Drawn (fun v => ∃ s, v = .string s ∧ (IsLad s ∨ (s.size ≤ 5 ∧ ladB s = false))) b a len cap k 7 w) := by
  go_enter Try.func49, Try.ntmps49
  go_wp2_with fail
  have hlt := R.lt
  refine (pick_any (R.alloc _) (by omega) (by omega) (by omega)).mono ?_
  rintro e w4 ⟨q, m3, q0, q1, rfl, rfl⟩
  go_wp2_with fail
  have hq : q.toNat < 2 := by omega
  obtain ⟨c, hM, hc⟩ := two_heads q.toNat hq
  rw [hM]
  have R4 := R.pickedA' (.cells #[.string ⟨#[115]⟩, .string ⟨#[112]⟩] 9) m3
  have G4 := grown_pickedA' (k := k) (grown_refl w (some b)) (.cells #[.string ⟨#[115]⟩, .string ⟨#[112]⟩] 9) m3
  generalize ((w.setCell ⟨b, 1, none⟩ (.int .i64 ((k : Int) + 1))).alloc (.cells #[.string ⟨#[115]⟩, .string ⟨#[112]⟩] 9)).drewN m3 = w4 at R4 G4 ⊢
  have HC := Lib.hid hc
  clear R hM hc hq q0 q1 hlt
  refine (pick_any R4 (by omega) (by omega) (by omega)).mono ?_
  rintro e w5 ⟨x, m4, x0, x1, rfl, hw5⟩
  have R5 : Rd w5 b a len cap (k + 1 + 1) := by rw [hw5]; exact R4.step m4
  have G5 : w.grownBy w5 (some b) := by rw [hw5]; exact grown_drewN (Lib.grownBy_setB G4 1 _) m4
  clear hw5 R4 G4
  have HR5 := Lib.hid R5
  have HG5 := Lib.hid G5
  clear R5 G5
  go_wp2_with fail
  go_loopw [5, 6] (fun s j wr => ∃ (ds : List Int) (y : Int), 0 ≤ y ∧ (ds.length : Int) + y = x ∧ (∀ d ∈ ds, 0 ≤ d ∧ d < 8) ∧ s = .string (ladT c ds) ∧ j = .int .i64 y ∧ Rd wr b a len cap (k + 1 + 1 + ds.length) ∧ w.grownBy wr (some b))
    (fun _ j _ => (intOf j).toNat)
  case atStart => exact ⟨[], x, x0, by simp, by simp, rfl, rfl, HR5.out, HG5.out⟩
  case round =>
    obtain ⟨ds, y, y0, hy, hds, rfl, rfl, R, G⟩ := hrel
    have HD := Lib.hid hds
    clear hds
    by_cases hp : 0 < y
    · go_wp2_with fail
      refine (pick_any R (by omega) (by omega) (by omega)).mono ?_
      rintro e w6 ⟨d, m6, d0, d1, rfl, hw6⟩
      have R6 : Rd w6 b a len cap (k + 1 + 1 + ds.length + 1) := by rw [hw6]; exact R.step m6
      have G6 : w.grownBy w6 (some b) := by rw [hw6]; exact grown_drewN (Lib.grownBy_setB G 1 _) m6
      clear hw6 R G
      go_wp2_with fail
      refine (l1Number_one d d0 (by omega) _).mono ?_
      rintro e w7 ⟨rfl, C⟩
      have R7 := Lib.hid (Rd.calm6 R6 C)
      have G7 := Lib.hid (Lib.grownBy_trans G6 (calm_row C))
      have HT := Lib.hid (ladT_add c ds d)
      have hsz : ¬ ((ladT c ds).size + (digT d).size > 9223372036854775807) := by
        rw [ladT_size]
        have : (digT d).size = 1 := rfl
        omega
      clear C R6 G6
      go_wp2_with fail
      refine ⟨⟨ds ++ [d], y - 1, by omega, by simp; omega, ?_, by rw [HT.out], rfl, by have := R7.out; simpa [Nat.add_assoc] using this, G7.out⟩, by simp [intOf]; omega⟩
      intro d' hd'
      rcases List.mem_append.1 hd' with h | h
      · exact HD.out d' h
      · have : d' = d := by simpa using h
        subst this
        exact ⟨d0, d1⟩
    · have HI := Lib.hid (show IsLad (ladT c ds) from ⟨c, ds, HC.out, by omega, HD.out, rfl⟩)
      have hlen : ds.length ≤ 3 := by omega
      go_wp2_with fail
      refine (odd_any R (by omega) h0 h1).mono ?_
      rintro e w6 ⟨v, k6, ⟨β, rfl, _⟩, rfl, hk6, R6, G6⟩
      have G6 := Lib.grownBy_trans G G6
      clear R G
      cases β
      · go_wp2_with fail
        go_ret
        exact ⟨_, k6, ⟨_, rfl, .inl HI.out⟩, rfl, by omega, R6, G6⟩
      · go_wp2_with fail
        have hlt := R6.lt
        refine (pick_any (R6.alloc _) (by omega) (by omega) (by omega)).mono ?_
        rintro e w7 ⟨q, m7, q0, q1, rfl, rfl⟩
        have R7 := R6.pickedA' (.cells #[.string ⟨#[]⟩, .string ⟨#[120, 49]⟩, .string ⟨#[115, 56]⟩, .string ⟨#[115, 49, 49, 49, 49]⟩, .string ⟨#[112, 45]⟩] 9) m7
        have G7 := grown_pickedA' (k := k6) G6 (.cells #[.string ⟨#[]⟩, .string ⟨#[120, 49]⟩, .string ⟨#[115, 56]⟩, .string ⟨#[115, 49, 49, 49, 49]⟩, .string ⟨#[112, 45]⟩] 9) m7
        go_wp2_with fail
        have hq : q.toNat < 5 := by omega
        obtain ⟨s, hM, hs⟩ := five_bad q.toNat hq
        rw [hM]
        have HS := Lib.hid hs
        clear hM hs hq q0 q1 hlt R6
        go_ret
        exact ⟨_, k6 + 1, ⟨s, rfl, .inr HS.out⟩, rfl, by omega, R7, G7⟩

end Go.Proofs.Yteikkbmmbnihaaa
