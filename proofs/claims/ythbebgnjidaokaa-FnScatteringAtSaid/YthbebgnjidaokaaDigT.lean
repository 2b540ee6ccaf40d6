/-
  Numbers read from texts, in the model.
-/
import Derived.Test.YthbebgnjidaokaaTxt2
import Derived.Test.YthbebgnjidaokaaMo
namespace Go.Proofs.Ythbebgnjidaokaa
open Go.RowKit Fl

/-- A text's bytes. -/
abbrev byt (s : ByteArray) : Tx.Bs := s.data.toList
theorem byt_len (s : ByteArray) : (byt s).length = s.size := by
  show s.data.toList.length = s.data.size
  simp
theorem byt_at (s : ByteArray) {i : Nat} (h : i < s.size) : (byt s)[i]? = some (s[i]'h) := by
  show s.data.toList[i]? = some (s.data[i]'h)
  rw [Array.getElem?_toList, Array.getElem?_eq_getElem h]
theorem byt_drop (s : ByteArray) (a : Nat) : byt (s.extract a s.size) = (byt s).drop a := by
  show (s.extract a s.size).data.toList = s.data.toList.drop a
  rw [ByteArray.data_extract, Array.toList_extract]
  simp [List.extract]
  show List.take (s.data.size - a) _ = _
  rw [List.take_of_length_le]
  simp

theorem digV_plain {l : Tx.Bs} (h : ¬(1 < l.length ∧ l.head? = some 45)) : Tx.digV l = (Tx.natV l).map Int.ofNat := by
  unfold Tx.digV
  split
  · rename_i x r
    exact absurd ⟨by simp, rfl⟩ h
  · rfl
theorem digV_hyphen {r : Tx.Bs} (h : r ≠ []) : Tx.digV (45 :: r) = match Tx.digV r with
    | some n => if 0 < n then some (-n) else none
    | none => none := by
  cases r with
  | nil => exact absurd rfl h
  | cons x t => rfl

/-- What l1Digits gives. -/
def DigV (l : Tx.Bs) (z : Ending) : Prop := ∃ v : Int, z = .returned (.tuple #[.int .i64 v, .bool (Tx.digV l).isSome]) ∧ (Tx.digV l = some v ∨ Tx.digV l = none) ∧ -9999999 ≤ v ∧ v ≤ 9999999

end Go.Proofs.Ythbebgnjidaokaa
