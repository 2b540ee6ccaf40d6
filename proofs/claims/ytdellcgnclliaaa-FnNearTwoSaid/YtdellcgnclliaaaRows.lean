/-
  No cell of these rows narrows 'for every input' (looked for: loops, veiled, ifaces, maps, wideKeys, modest, calm, conditions, laid).
  DERIVED. THE GIVEN ROWS OF THIS SEAT. 7 by the template 'for every input the law returns true; each argument reads behind the call as it read before'; 0 by the template 'total and deterministic' (their statements: YtdellcgnclliaaaTotals.lean).
  GIVEN WITH THE SEED: the statements are not yours to turn. If you find one false, say at which input.
  Laid BY PROGRAM, IN A SANDBOX (cutbox-rows.mjs): the forced cells as the released guide's own fill.sh prints them over the translation c3df0a6f451138a0… (all of the seat's roots in one cut). By AI agents, Wed Nov 11 2026. No macro, syntax, notation, axiom, sorry.
-/
import Derived.Test.YtdellcgnclliaaaChecked
import GoSem.Claim
import GoSem.ClaimJoined
import GoSem.ClaimMapViews
import Derived.JoinedTies
import Derived.KernelRfl
namespace Go.Proofs.Ytdellcgnclliaaa
/- THE CELL 'sum', in the pinned program and in every row, IS THE sha256 OF THE DUMP (.gsa) THAT YtdellcgnclliaaaProg.lean LOADS. Nothing in Lean hashes anything: it is a label: what it is worth is what the hold of that sum in a sandbox is worth. -/
noncomputable def Try.pinned : Pinned := { name := "ytdellcgnclliaaa", sum := "c3df0a6f451138a04316440fc01233f213ae166f63bb54a596370f71de213357", checked := Try.checked }
namespace Rows
def none {H : Type} : Left H := { results := [], args := [] }

/-- 'laws.FnTwoOk': WHATEVER THE INPUT: true; the input reads as it did. -/
def fnTwoOkSpec : ChangeSpec := { name := "fnTwoOk", fn := fun _ => fun
  | [d] => { results := [.lit (.bool true)], args := [d] }
  | _ => none }
def fnTwoOkRow : OpenClaim := { program := "ytdellcgnclliaaa", sum := "c3df0a6f451138a04316440fc01233f213ae166f63bb54a596370f71de213357", func := "loop.example/twoports/laws.FnTwoOk", spec := "fnTwoOk", apart := false }
def FnTwoOkSaid : Prop := fnTwoOkRow.holds Try.pinned (OpenSpec.ofChange fnTwoOkSpec)

/-- ITS FALSE NEIGHBOUR: 'it returns false'. Refute it at one input. -/
def fnTwoOkWrong : ChangeSpec := { name := "fnTwoOk", fn := fun _ => fun
  | [d] => { results := [.lit (.bool false)], args := [d] }
  | _ => none }
def FnTwoOkWrongFalsely : Prop := fnTwoOkRow.holds Try.pinned (OpenSpec.ofChange fnTwoOkWrong)

/-- 'laws.FnDeterminant': WHATEVER THE INPUT: true; the input reads as it did. -/
def fnDeterminantSpec : ChangeSpec := { name := "fnDeterminant", fn := fun _ => fun
  | [d] => { results := [.lit (.bool true)], args := [d] }
  | _ => none }
def fnDeterminantRow : OpenClaim := { program := "ytdellcgnclliaaa", sum := "c3df0a6f451138a04316440fc01233f213ae166f63bb54a596370f71de213357", func := "loop.example/twoports/laws.FnDeterminant", spec := "fnDeterminant", apart := false }
def FnDeterminantSaid : Prop := fnDeterminantRow.holds Try.pinned (OpenSpec.ofChange fnDeterminantSpec)

/-- ITS FALSE NEIGHBOUR: 'it returns false'. Refute it at one input. -/
def fnDeterminantWrong : ChangeSpec := { name := "fnDeterminant", fn := fun _ => fun
  | [d] => { results := [.lit (.bool false)], args := [d] }
  | _ => none }
def FnDeterminantWrongFalsely : Prop := fnDeterminantRow.holds Try.pinned (OpenSpec.ofChange fnDeterminantWrong)

/-- 'laws.FnOtherForm': WHATEVER THE INPUT: true; the input reads as it did. -/
def fnOtherFormSpec : ChangeSpec := { name := "fnOtherForm", fn := fun _ => fun
  | [d] => { results := [.lit (.bool true)], args := [d] }
  | _ => none }
def fnOtherFormRow : OpenClaim := { program := "ytdellcgnclliaaa", sum := "c3df0a6f451138a04316440fc01233f213ae166f63bb54a596370f71de213357", func := "loop.example/twoports/laws.FnOtherForm", spec := "fnOtherForm", inPlace := ["math.Float64bits", "math.Float64frombits"], apart := false }
def FnOtherFormSaid : Prop := fnOtherFormRow.holds Try.pinned (OpenSpec.ofChange fnOtherFormSpec)

/-- ITS FALSE NEIGHBOUR: 'it returns false'. Refute it at one input. -/
def fnOtherFormWrong : ChangeSpec := { name := "fnOtherForm", fn := fun _ => fun
  | [d] => { results := [.lit (.bool false)], args := [d] }
  | _ => none }
def FnOtherFormWrongFalsely : Prop := fnOtherFormRow.holds Try.pinned (OpenSpec.ofChange fnOtherFormWrong)

/-- 'laws.FnInverse': WHATEVER THE INPUT: true; the input reads as it did. -/
def fnInverseSpec : ChangeSpec := { name := "fnInverse", fn := fun _ => fun
  | [d] => { results := [.lit (.bool true)], args := [d] }
  | _ => none }
def fnInverseRow : OpenClaim := { program := "ytdellcgnclliaaa", sum := "c3df0a6f451138a04316440fc01233f213ae166f63bb54a596370f71de213357", func := "loop.example/twoports/laws.FnInverse", spec := "fnInverse", apart := false }
def FnInverseSaid : Prop := fnInverseRow.holds Try.pinned (OpenSpec.ofChange fnInverseSpec)

/-- ITS FALSE NEIGHBOUR: 'it returns false'. Refute it at one input. -/
def fnInverseWrong : ChangeSpec := { name := "fnInverse", fn := fun _ => fun
  | [d] => { results := [.lit (.bool false)], args := [d] }
  | _ => none }
def FnInverseWrongFalsely : Prop := fnInverseRow.holds Try.pinned (OpenSpec.ofChange fnInverseWrong)

/-- 'laws.FnScatteringOf': WHATEVER THE INPUT: true; the input reads as it did. -/
def fnScatteringOfSpec : ChangeSpec := { name := "fnScatteringOf", fn := fun _ => fun
  | [d] => { results := [.lit (.bool true)], args := [d] }
  | _ => none }
def fnScatteringOfRow : OpenClaim := { program := "ytdellcgnclliaaa", sum := "c3df0a6f451138a04316440fc01233f213ae166f63bb54a596370f71de213357", func := "loop.example/twoports/laws.FnScatteringOf", spec := "fnScatteringOf", inPlace := ["math.Float64bits", "math.Float64frombits"], apart := false }
def FnScatteringOfSaid : Prop := fnScatteringOfRow.holds Try.pinned (OpenSpec.ofChange fnScatteringOfSpec)

/-- ITS FALSE NEIGHBOUR: 'it returns false'. Refute it at one input. -/
def fnScatteringOfWrong : ChangeSpec := { name := "fnScatteringOf", fn := fun _ => fun
  | [d] => { results := [.lit (.bool false)], args := [d] }
  | _ => none }
def FnScatteringOfWrongFalsely : Prop := fnScatteringOfRow.holds Try.pinned (OpenSpec.ofChange fnScatteringOfWrong)

/-- 'laws.FnChainOf': WHATEVER THE INPUT: true; the input reads as it did. -/
def fnChainOfSpec : ChangeSpec := { name := "fnChainOf", fn := fun _ => fun
  | [d] => { results := [.lit (.bool true)], args := [d] }
  | _ => none }
def fnChainOfRow : OpenClaim := { program := "ytdellcgnclliaaa", sum := "c3df0a6f451138a04316440fc01233f213ae166f63bb54a596370f71de213357", func := "loop.example/twoports/laws.FnChainOf", spec := "fnChainOf", apart := false }
def FnChainOfSaid : Prop := fnChainOfRow.holds Try.pinned (OpenSpec.ofChange fnChainOfSpec)

/-- ITS FALSE NEIGHBOUR: 'it returns false'. Refute it at one input. -/
def fnChainOfWrong : ChangeSpec := { name := "fnChainOf", fn := fun _ => fun
  | [d] => { results := [.lit (.bool false)], args := [d] }
  | _ => none }
def FnChainOfWrongFalsely : Prop := fnChainOfRow.holds Try.pinned (OpenSpec.ofChange fnChainOfWrong)

/-- 'laws.FnNearTwo': WHATEVER THE INPUT: true; the input reads as it did. -/
def fnNearTwoSpec : ChangeSpec := { name := "fnNearTwo", fn := fun _ => fun
  | [d] => { results := [.lit (.bool true)], args := [d] }
  | _ => none }
def fnNearTwoRow : OpenClaim := { program := "ytdellcgnclliaaa", sum := "c3df0a6f451138a04316440fc01233f213ae166f63bb54a596370f71de213357", func := "loop.example/twoports/laws.FnNearTwo", spec := "fnNearTwo", inPlace := ["math.Float64bits", "math.Float64frombits"], apart := false }
def FnNearTwoSaid : Prop := fnNearTwoRow.holds Try.pinned (OpenSpec.ofChange fnNearTwoSpec)

/-- ITS FALSE NEIGHBOUR: 'it returns false'. Refute it at one input. -/
def fnNearTwoWrong : ChangeSpec := { name := "fnNearTwo", fn := fun _ => fun
  | [d] => { results := [.lit (.bool false)], args := [d] }
  | _ => none }
def FnNearTwoWrongFalsely : Prop := fnNearTwoRow.holds Try.pinned (OpenSpec.ofChange fnNearTwoWrong)

/- THE SECOND FORM. 'bulk': how many values and letters a reading holds, each counted each time it is reached (what is shared counts as often as it is met; a slice's spare places count too). A statement '..UptoSaid' is the law's where the arguments, and the package variables that the reading takes, are together of bulk at most 1048576: NARROWER than '..Said'. Prove '..Said' where nothing that the law and all that it calls make is longer than what came in: it says more and counts as full. Else prove '..UptoSaid'. A law counts once. -/
mutual
def uptoBulk {H : Type} : DataW H → Nat
  | .lit (.string bytes) => bytes.length + 1
  | .lit _ => 1
  | .nil => 1
  | .ptr d => uptoBulk d + 1
  | .slice elems spare => uptoBulkAll elems + uptoBulkAll spare + 1
  | .agg parts => uptoBulkAll parts + 1
  | .iface _ d => uptoBulk d + 1
  | .map entries => uptoBulkEntries entries + 1
  | .held _ => 1
def uptoBulkAll {H : Type} : List (DataW H) → Nat
  | [] => 0
  | d :: r => uptoBulk d + uptoBulkAll r
def uptoBulkEntries {H : Type} : List (Lit × DataW H) → Nat
  | [] => 0
  | x :: r => uptoBulkEntry x + uptoBulkEntries r
def uptoBulkEntry {H : Type} : Lit × DataW H → Nat
  | (.string bytes, d) => bytes.length + uptoBulk d + 1
  | (_, d) => uptoBulk d + 1
 end
def uptoSmall : (H : Type) → List (DataW H) → Bool := fun _ ds => decide (uptoBulkAll ds ≤ 1048576)
def OpenSpec.upto (s : _root_.Go.ChangeSpec) : _root_.Go.OpenSpec := { _root_.Go.OpenSpec.ofChange s with cond := some uptoSmall }

/-- 'laws.FnTwoOk', WHERE WHAT IT READS IS OF BULK AT MOST 1048576: true; the input reads as it did. -/
def fnTwoOkUptoRow : OpenClaim := { program := "ytdellcgnclliaaa", sum := "c3df0a6f451138a04316440fc01233f213ae166f63bb54a596370f71de213357", func := "loop.example/twoports/laws.FnTwoOk", spec := "fnTwoOk", apart := false, narrowed := true }
def FnTwoOkUptoSaid : Prop := fnTwoOkUptoRow.holds Try.pinned (OpenSpec.upto fnTwoOkSpec)

/-- 'laws.FnDeterminant', WHERE WHAT IT READS IS OF BULK AT MOST 1048576: true; the input reads as it did. -/
def fnDeterminantUptoRow : OpenClaim := { program := "ytdellcgnclliaaa", sum := "c3df0a6f451138a04316440fc01233f213ae166f63bb54a596370f71de213357", func := "loop.example/twoports/laws.FnDeterminant", spec := "fnDeterminant", apart := false, narrowed := true }
def FnDeterminantUptoSaid : Prop := fnDeterminantUptoRow.holds Try.pinned (OpenSpec.upto fnDeterminantSpec)

/-- 'laws.FnOtherForm', WHERE WHAT IT READS IS OF BULK AT MOST 1048576: true; the input reads as it did. -/
def fnOtherFormUptoRow : OpenClaim := { program := "ytdellcgnclliaaa", sum := "c3df0a6f451138a04316440fc01233f213ae166f63bb54a596370f71de213357", func := "loop.example/twoports/laws.FnOtherForm", spec := "fnOtherForm", inPlace := ["math.Float64bits", "math.Float64frombits"], apart := false, narrowed := true }
def FnOtherFormUptoSaid : Prop := fnOtherFormUptoRow.holds Try.pinned (OpenSpec.upto fnOtherFormSpec)

/-- 'laws.FnInverse', WHERE WHAT IT READS IS OF BULK AT MOST 1048576: true; the input reads as it did. -/
def fnInverseUptoRow : OpenClaim := { program := "ytdellcgnclliaaa", sum := "c3df0a6f451138a04316440fc01233f213ae166f63bb54a596370f71de213357", func := "loop.example/twoports/laws.FnInverse", spec := "fnInverse", apart := false, narrowed := true }
def FnInverseUptoSaid : Prop := fnInverseUptoRow.holds Try.pinned (OpenSpec.upto fnInverseSpec)

/-- 'laws.FnScatteringOf', WHERE WHAT IT READS IS OF BULK AT MOST 1048576: true; the input reads as it did. -/
def fnScatteringOfUptoRow : OpenClaim := { program := "ytdellcgnclliaaa", sum := "c3df0a6f451138a04316440fc01233f213ae166f63bb54a596370f71de213357", func := "loop.example/twoports/laws.FnScatteringOf", spec := "fnScatteringOf", inPlace := ["math.Float64bits", "math.Float64frombits"], apart := false, narrowed := true }
def FnScatteringOfUptoSaid : Prop := fnScatteringOfUptoRow.holds Try.pinned (OpenSpec.upto fnScatteringOfSpec)

/-- 'laws.FnChainOf', WHERE WHAT IT READS IS OF BULK AT MOST 1048576: true; the input reads as it did. -/
def fnChainOfUptoRow : OpenClaim := { program := "ytdellcgnclliaaa", sum := "c3df0a6f451138a04316440fc01233f213ae166f63bb54a596370f71de213357", func := "loop.example/twoports/laws.FnChainOf", spec := "fnChainOf", apart := false, narrowed := true }
def FnChainOfUptoSaid : Prop := fnChainOfUptoRow.holds Try.pinned (OpenSpec.upto fnChainOfSpec)

/-- 'laws.FnNearTwo', WHERE WHAT IT READS IS OF BULK AT MOST 1048576: true; the input reads as it did. -/
def fnNearTwoUptoRow : OpenClaim := { program := "ytdellcgnclliaaa", sum := "c3df0a6f451138a04316440fc01233f213ae166f63bb54a596370f71de213357", func := "loop.example/twoports/laws.FnNearTwo", spec := "fnNearTwo", inPlace := ["math.Float64bits", "math.Float64frombits"], apart := false, narrowed := true }
def FnNearTwoUptoSaid : Prop := fnNearTwoUptoRow.holds Try.pinned (OpenSpec.upto fnNearTwoSpec)

end Rows
end Go.Proofs.Ytdellcgnclliaaa
