/-
  The reader, opened over the bytes that came in; and what the draws of chapter 1 come to.
-/
import Derived.Test.YthbebgnjidaokaaDoorDraw2
namespace Go.Proofs.YthbebgnjidaokaaDoor
open Go.RowKit Fl

/-- A slice of integers that came in: nil, or a row of cells. -/
def IsRow (k : IntKind) (w : World) (a : Option Addr) (len cap : Nat) (zs : List Int) : Prop :=
  (a = none ∧ len = 0 ∧ cap = 0 ∧ zs = []) ∨
  ∃ x, a = some x ∧ len ≤ cap ∧ cap ≤ maxLen ∧ zs.length = cap ∧ (∀ i, i < zs.length → w.cell? (x.add i) = some (.int k (zs.getD i 0))) ∧ ∀ n ∈ zs, (Lit.int k n).wf = true

/-- What opening leaves. -/
def Opened (w : World) (e : Ending) (w' : World) : Prop :=
  ∃ (b : Nat) (a : Option Addr) (len cap : Nat), e = .returned (.pointer (some ⟨b, 0, none⟩)) ∧ Rd w' b a len cap 0 ∧ w.heap.size ≤ b ∧ Below w.heap.size w w'

theorem opened_mk {w : World} {a : Option Addr} {len cap : Nat} {T : TypeId} (hl : len ≤ 2000)
    (hd : ∀ i, i < len → ∃ (ab off : Nat) (x : Int), a = some ⟨ab, off, none⟩ ∧ 0 ≤ x ∧ x < 256 ∧ w.cell? ⟨ab, off + i, none⟩ = some (.int .u8 x)) :
    Opened w (.returned (.pointer (some ⟨w.heap.size, 0, none⟩))) (w.alloc (.cells #[.slice a len cap, .int .i64 0] T)) := by
  refine ⟨w.heap.size, a, len, cap, rfl, ⟨⟨T, ?_⟩, hl, ?_⟩, Nat.le_refl _, (Below.refl _ _).alloc (Nat.le_refl _) _⟩
  · exact heap_alloc_new w _
  · intro i hi
    obtain ⟨ab, off, x, h1, h2, h3, h4⟩ := hd i hi
    have hb : ab < w.heap.size := World.block_lt_of_cell? w ⟨ab, off + i, none⟩ h4
    refine ⟨ab, off, x, h1, hb, h2, h3, ?_⟩
    rw [World.cell?_of_block (w := w) (Below.heap_alloc _ _ _ hb)]
    exact h4

theorem row_data {x : Addr} {len cap : Nat} {zs : List Int} {w : World} (hl : len ≤ cap) (hz : zs.length = cap)
    (hcell : ∀ i, i < zs.length → w.cell? (x.add i) = some (.int .u8 (zs.getD i 0))) (hwz : ∀ n ∈ zs, (Lit.int .u8 n).wf = true) :
    ∀ i, i < len → ∃ (ab off : Nat) (y : Int), some x = some ⟨ab, off, none⟩ ∧ 0 ≤ y ∧ y < 256 ∧ w.cell? ⟨ab, off + i, none⟩ = some (.int .u8 y) := by
  intro i hi
  have hc := hcell i (by omega)
  obtain ⟨ab, off, spot⟩ := x
  have hs : spot = none := by
    have := World.cell?_spot (hcell 0 (by omega))
    simpa [Addr.add] using this
  subst hs
  have hc' : w.cell? ⟨ab, off + i, none⟩ = some (.int .u8 (zs.getD i 0)) := by
    by_cases h0 : i = 0
    · subst h0; simpa [Addr.add] using hc
    · simpa [Addr.add, h0] using hc
  clear hc
  have hm : zs.getD i 0 ∈ zs := by
    rw [List.getD_eq_getElem?_getD, List.getElem?_eq_getElem (by omega)]
    exact List.getElem_mem _
  have hw := hwz _ hm
  generalize zs.getD i 0 = y at *
  simp [Lit.wf, IntKind.min, IntKind.max, IntKind.signed, IntKind.bits] at hw
  exact ⟨ab, off, y, rfl, by omega, by omega, hc'⟩

/-- What a whole draw leaves: a value of which P holds; nothing that was there is written. -/
def Got (P : Value → Prop) (w : World) (e : Ending) (w' : World) : Prop := ∃ v, P v ∧ e = .returned v ∧ Below w.heap.size w w'

/-- A draw out of the opened reader, after nothing was written below. -/
theorem below_drawn {B : Nat} {w w1 w2 : World} {b : Nat} (h1 : Below B w w1) (hB : B ≤ b) (hs : B ≤ w1.heap.size) (h2 : w1.grownBy w2 (some b)) : Below B w w2 :=
  h1.grown h2 hs (fun k hk => by injection hk; omega)


end Go.Proofs.YthbebgnjidaokaaDoor
