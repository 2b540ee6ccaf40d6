/-
  No cell of these rows narrows 'for every input' (looked for: loops, veiled, ifaces, maps, wideKeys, modest, calm, conditions, laid).
  DERIVED. THE GIVEN ROWS OF THIS SEAT. 9 by the template 'for every input the law returns true; each argument reads behind the call as it read before'; 0 by the template 'total and deterministic' (their statements: YtjacmojmjicmjaaTotals.lean).
  GIVEN WITH THE SEED: the statements are not yours to turn. If you find one false, say at which input.
  Laid BY PROGRAM, IN A SANDBOX (cutbox-rows.mjs): the forced cells as the released guide's own fill.sh prints them over the translation 7a67a8e8444e31db… (all of the seat's roots in one cut). By AI agents, Wed Nov 11 2026. No macro, syntax, notation, axiom, sorry.
-/
import Derived.Test.YtjacmojmjicmjaaChecked
import GoSem.Claim
import GoSem.ClaimJoined
import GoSem.ClaimMapViews
import Derived.JoinedTies
import Derived.KernelRfl
namespace Go.Proofs.Ytjacmojmjicmjaa
/- THE CELL 'sum', in the pinned program and in every row, IS THE sha256 OF THE DUMP (.gsa) THAT YtjacmojmjicmjaaProg.lean LOADS. Nothing in Lean hashes anything: it is a label: what it is worth is what the hold of that sum in a sandbox is worth. -/
noncomputable def Try.pinned : Pinned := { name := "ytjacmojmjicmjaa", sum := "7a67a8e8444e31db06f392c6e6ebf0be5e5ca7b63fab0b185010850e8ee8ad23", checked := Try.checked }
namespace Rows
def none {H : Type} : Left H := { results := [], args := [] }

/-- 'laws.FnExchangedPorts': WHATEVER THE INPUT: true; the input reads as it did. -/
def fnExchangedPortsSpec : ChangeSpec := { name := "fnExchangedPorts", fn := fun _ => fun
  | [d] => { results := [.lit (.bool true)], args := [d] }
  | _ => none }
def fnExchangedPortsRow : OpenClaim := { program := "ytjacmojmjicmjaa", sum := "7a67a8e8444e31db06f392c6e6ebf0be5e5ca7b63fab0b185010850e8ee8ad23", func := "loop.example/twoports/laws.FnExchangedPorts", spec := "fnExchangedPorts", apart := false }
def FnExchangedPortsSaid : Prop := fnExchangedPortsRow.holds Try.pinned (OpenSpec.ofChange fnExchangedPortsSpec)

/-- ITS FALSE NEIGHBOUR: 'it returns false'. Refute it at one input. -/
def fnExchangedPortsWrong : ChangeSpec := { name := "fnExchangedPorts", fn := fun _ => fun
  | [d] => { results := [.lit (.bool false)], args := [d] }
  | _ => none }
def FnExchangedPortsWrongFalsely : Prop := fnExchangedPortsRow.holds Try.pinned (OpenSpec.ofChange fnExchangedPortsWrong)

/-- 'laws.FnStabilityOf': WHATEVER THE INPUT: true; the input reads as it did. -/
def fnStabilityOfSpec : ChangeSpec := { name := "fnStabilityOf", fn := fun _ => fun
  | [d] => { results := [.lit (.bool true)], args := [d] }
  | _ => none }
def fnStabilityOfRow : OpenClaim := { program := "ytjacmojmjicmjaa", sum := "7a67a8e8444e31db06f392c6e6ebf0be5e5ca7b63fab0b185010850e8ee8ad23", func := "loop.example/twoports/laws.FnStabilityOf", spec := "fnStabilityOf", inPlace := ["math.sqrt", "math.Float64bits", "math.Float64frombits"], apart := false }
def FnStabilityOfSaid : Prop := fnStabilityOfRow.holds Try.pinned (OpenSpec.ofChange fnStabilityOfSpec)

/-- ITS FALSE NEIGHBOUR: 'it returns false'. Refute it at one input. -/
def fnStabilityOfWrong : ChangeSpec := { name := "fnStabilityOf", fn := fun _ => fun
  | [d] => { results := [.lit (.bool false)], args := [d] }
  | _ => none }
def FnStabilityOfWrongFalsely : Prop := fnStabilityOfRow.holds Try.pinned (OpenSpec.ofChange fnStabilityOfWrong)

/-- 'laws.FnGainOf': WHATEVER THE INPUT: true; the input reads as it did. -/
def fnGainOfSpec : ChangeSpec := { name := "fnGainOf", fn := fun _ => fun
  | [d] => { results := [.lit (.bool true)], args := [d] }
  | _ => none }
def fnGainOfRow : OpenClaim := { program := "ytjacmojmjicmjaa", sum := "7a67a8e8444e31db06f392c6e6ebf0be5e5ca7b63fab0b185010850e8ee8ad23", func := "loop.example/twoports/laws.FnGainOf", spec := "fnGainOf", inPlace := ["math.Float64bits", "math.Float64frombits"], apart := false }
def FnGainOfSaid : Prop := fnGainOfRow.holds Try.pinned (OpenSpec.ofChange fnGainOfSpec)

/-- ITS FALSE NEIGHBOUR: 'it returns false'. Refute it at one input. -/
def fnGainOfWrong : ChangeSpec := { name := "fnGainOf", fn := fun _ => fun
  | [d] => { results := [.lit (.bool false)], args := [d] }
  | _ => none }
def FnGainOfWrongFalsely : Prop := fnGainOfRow.holds Try.pinned (OpenSpec.ofChange fnGainOfWrong)

/-- 'laws.FnStageOk': WHATEVER THE INPUT: true; the input reads as it did. -/
def fnStageOkSpec : ChangeSpec := { name := "fnStageOk", fn := fun _ => fun
  | [d] => { results := [.lit (.bool true)], args := [d] }
  | _ => none }
def fnStageOkRow : OpenClaim := { program := "ytjacmojmjicmjaa", sum := "7a67a8e8444e31db06f392c6e6ebf0be5e5ca7b63fab0b185010850e8ee8ad23", func := "loop.example/twoports/laws.FnStageOk", spec := "fnStageOk", apart := false }
def FnStageOkSaid : Prop := fnStageOkRow.holds Try.pinned (OpenSpec.ofChange fnStageOkSpec)

/-- ITS FALSE NEIGHBOUR: 'it returns false'. Refute it at one input. -/
def fnStageOkWrong : ChangeSpec := { name := "fnStageOk", fn := fun _ => fun
  | [d] => { results := [.lit (.bool false)], args := [d] }
  | _ => none }
def FnStageOkWrongFalsely : Prop := fnStageOkRow.holds Try.pinned (OpenSpec.ofChange fnStageOkWrong)

/-- 'laws.FnNoiseOf': WHATEVER THE INPUT: true; the input reads as it did. -/
def fnNoiseOfSpec : ChangeSpec := { name := "fnNoiseOf", fn := fun _ => fun
  | [d] => { results := [.lit (.bool true)], args := [d] }
  | _ => none }
def fnNoiseOfRow : OpenClaim := { program := "ytjacmojmjicmjaa", sum := "7a67a8e8444e31db06f392c6e6ebf0be5e5ca7b63fab0b185010850e8ee8ad23", func := "loop.example/twoports/laws.FnNoiseOf", spec := "fnNoiseOf", inPlace := ["math.Float64bits", "math.Float64frombits"], apart := false }
def FnNoiseOfSaid : Prop := fnNoiseOfRow.holds Try.pinned (OpenSpec.ofChange fnNoiseOfSpec)

/-- ITS FALSE NEIGHBOUR: 'it returns false'. Refute it at one input. -/
def fnNoiseOfWrong : ChangeSpec := { name := "fnNoiseOf", fn := fun _ => fun
  | [d] => { results := [.lit (.bool false)], args := [d] }
  | _ => none }
def FnNoiseOfWrongFalsely : Prop := fnNoiseOfRow.holds Try.pinned (OpenSpec.ofChange fnNoiseOfWrong)

/-- 'laws.FnFirstBetter': WHATEVER THE INPUT: true; the input reads as it did. -/
def fnFirstBetterSpec : ChangeSpec := { name := "fnFirstBetter", fn := fun _ => fun
  | [d] => { results := [.lit (.bool true)], args := [d] }
  | _ => none }
def fnFirstBetterRow : OpenClaim := { program := "ytjacmojmjicmjaa", sum := "7a67a8e8444e31db06f392c6e6ebf0be5e5ca7b63fab0b185010850e8ee8ad23", func := "loop.example/twoports/laws.FnFirstBetter", spec := "fnFirstBetter", inPlace := ["math.Float64bits", "math.Float64frombits"], apart := false }
def FnFirstBetterSaid : Prop := fnFirstBetterRow.holds Try.pinned (OpenSpec.ofChange fnFirstBetterSpec)

/-- ITS FALSE NEIGHBOUR: 'it returns false'. Refute it at one input. -/
def fnFirstBetterWrong : ChangeSpec := { name := "fnFirstBetter", fn := fun _ => fun
  | [d] => { results := [.lit (.bool false)], args := [d] }
  | _ => none }
def FnFirstBetterWrongFalsely : Prop := fnFirstBetterRow.holds Try.pinned (OpenSpec.ofChange fnFirstBetterWrong)

/-- 'laws.FnExactStageOk': WHATEVER THE INPUT: true; the input reads as it did. -/
def fnExactStageOkSpec : ChangeSpec := { name := "fnExactStageOk", fn := fun _ => fun
  | [d] => { results := [.lit (.bool true)], args := [d] }
  | _ => none }
def fnExactStageOkRow : OpenClaim := { program := "ytjacmojmjicmjaa", sum := "7a67a8e8444e31db06f392c6e6ebf0be5e5ca7b63fab0b185010850e8ee8ad23", func := "loop.example/twoports/laws.FnExactStageOk", spec := "fnExactStageOk", apart := false }
def FnExactStageOkSaid : Prop := fnExactStageOkRow.holds Try.pinned (OpenSpec.ofChange fnExactStageOkSpec)

/-- ITS FALSE NEIGHBOUR: 'it returns false'. Refute it at one input. -/
def fnExactStageOkWrong : ChangeSpec := { name := "fnExactStageOk", fn := fun _ => fun
  | [d] => { results := [.lit (.bool false)], args := [d] }
  | _ => none }
def FnExactStageOkWrongFalsely : Prop := fnExactStageOkRow.holds Try.pinned (OpenSpec.ofChange fnExactStageOkWrong)

/-- 'laws.FnExactNoiseOf': WHATEVER THE INPUT: true; the input reads as it did. -/
def fnExactNoiseOfSpec : ChangeSpec := { name := "fnExactNoiseOf", fn := fun _ => fun
  | [d] => { results := [.lit (.bool true)], args := [d] }
  | _ => none }
def fnExactNoiseOfRow : OpenClaim := { program := "ytjacmojmjicmjaa", sum := "7a67a8e8444e31db06f392c6e6ebf0be5e5ca7b63fab0b185010850e8ee8ad23", func := "loop.example/twoports/laws.FnExactNoiseOf", spec := "fnExactNoiseOf", inPlace := ["math.Float64bits", "math.Float64frombits"], apart := false }
def FnExactNoiseOfSaid : Prop := fnExactNoiseOfRow.holds Try.pinned (OpenSpec.ofChange fnExactNoiseOfSpec)

/-- ITS FALSE NEIGHBOUR: 'it returns false'. Refute it at one input. -/
def fnExactNoiseOfWrong : ChangeSpec := { name := "fnExactNoiseOf", fn := fun _ => fun
  | [d] => { results := [.lit (.bool false)], args := [d] }
  | _ => none }
def FnExactNoiseOfWrongFalsely : Prop := fnExactNoiseOfRow.holds Try.pinned (OpenSpec.ofChange fnExactNoiseOfWrong)

/-- 'laws.FnExactFirstBetter': WHATEVER THE INPUT: true; the input reads as it did. -/
def fnExactFirstBetterSpec : ChangeSpec := { name := "fnExactFirstBetter", fn := fun _ => fun
  | [d1, d2] => { results := [.lit (.bool true)], args := [d1, d2] }
  | _ => none }
def fnExactFirstBetterRow : OpenClaim := { program := "ytjacmojmjicmjaa", sum := "7a67a8e8444e31db06f392c6e6ebf0be5e5ca7b63fab0b185010850e8ee8ad23", func := "loop.example/twoports/laws.FnExactFirstBetter", spec := "fnExactFirstBetter", inPlace := ["math.Float64bits", "math.Float64frombits"], apart := false }
def FnExactFirstBetterSaid : Prop := fnExactFirstBetterRow.holds Try.pinned (OpenSpec.ofChange fnExactFirstBetterSpec)

/-- ITS FALSE NEIGHBOUR: 'it returns false'. Refute it at one input. -/
def fnExactFirstBetterWrong : ChangeSpec := { name := "fnExactFirstBetter", fn := fun _ => fun
  | [d1, d2] => { results := [.lit (.bool false)], args := [d1, d2] }
  | _ => none }
def FnExactFirstBetterWrongFalsely : Prop := fnExactFirstBetterRow.holds Try.pinned (OpenSpec.ofChange fnExactFirstBetterWrong)

/- THE SECOND FORM. 'bulk': how many values and letters a reading holds, each counted each time it is reached (what is shared counts as often as it is met; a slice's spare places count too). A statement '..UptoSaid' is the law's where the arguments, and the package variables that the reading takes, are together of bulk at most 1048576: NARROWER than '..Said'. Prove '..Said' where nothing that the law and all that it calls make is longer than what came in: it says more and counts as full. Else prove '..UptoSaid'. A law counts once. -/
mutual
def uptoBulk {H : Type} : DataW H → Nat
  | .lit (.string bytes) => bytes.length + 1
  | .lit _ => 1
  | .nil => 1
  | .ptr d => uptoBulk d + 1
  | .slice elems spare => uptoBulkAll elems + uptoBulkAll spare + 1
  | .agg parts => uptoBulkAll parts + 1
  | .iface _ d => uptoBulk d + 1
  | .map entries => uptoBulkEntries entries + 1
  | .held _ => 1
def uptoBulkAll {H : Type} : List (DataW H) → Nat
  | [] => 0
  | d :: r => uptoBulk d + uptoBulkAll r
def uptoBulkEntries {H : Type} : List (Lit × DataW H) → Nat
  | [] => 0
  | x :: r => uptoBulkEntry x + uptoBulkEntries r
def uptoBulkEntry {H : Type} : Lit × DataW H → Nat
  | (.string bytes, d) => bytes.length + uptoBulk d + 1
  | (_, d) => uptoBulk d + 1
 end
def uptoSmall : (H : Type) → List (DataW H) → Bool := fun _ ds => decide (uptoBulkAll ds ≤ 1048576)
def OpenSpec.upto (s : _root_.Go.ChangeSpec) : _root_.Go.OpenSpec := { _root_.Go.OpenSpec.ofChange s with cond := some uptoSmall }

/-- 'laws.FnExchangedPorts', WHERE WHAT IT READS IS OF BULK AT MOST 1048576: true; the input reads as it did. -/
def fnExchangedPortsUptoRow : OpenClaim := { program := "ytjacmojmjicmjaa", sum := "7a67a8e8444e31db06f392c6e6ebf0be5e5ca7b63fab0b185010850e8ee8ad23", func := "loop.example/twoports/laws.FnExchangedPorts", spec := "fnExchangedPorts", apart := false, narrowed := true }
def FnExchangedPortsUptoSaid : Prop := fnExchangedPortsUptoRow.holds Try.pinned (OpenSpec.upto fnExchangedPortsSpec)

/-- 'laws.FnStabilityOf', WHERE WHAT IT READS IS OF BULK AT MOST 1048576: true; the input reads as it did. -/
def fnStabilityOfUptoRow : OpenClaim := { program := "ytjacmojmjicmjaa", sum := "7a67a8e8444e31db06f392c6e6ebf0be5e5ca7b63fab0b185010850e8ee8ad23", func := "loop.example/twoports/laws.FnStabilityOf", spec := "fnStabilityOf", inPlace := ["math.sqrt", "math.Float64bits", "math.Float64frombits"], apart := false, narrowed := true }
def FnStabilityOfUptoSaid : Prop := fnStabilityOfUptoRow.holds Try.pinned (OpenSpec.upto fnStabilityOfSpec)

/-- 'laws.FnGainOf', WHERE WHAT IT READS IS OF BULK AT MOST 1048576: true; the input reads as it did. -/
def fnGainOfUptoRow : OpenClaim := { program := "ytjacmojmjicmjaa", sum := "7a67a8e8444e31db06f392c6e6ebf0be5e5ca7b63fab0b185010850e8ee8ad23", func := "loop.example/twoports/laws.FnGainOf", spec := "fnGainOf", inPlace := ["math.Float64bits", "math.Float64frombits"], apart := false, narrowed := true }
def FnGainOfUptoSaid : Prop := fnGainOfUptoRow.holds Try.pinned (OpenSpec.upto fnGainOfSpec)

/-- 'laws.FnStageOk', WHERE WHAT IT READS IS OF BULK AT MOST 1048576: true; the input reads as it did. -/
def fnStageOkUptoRow : OpenClaim := { program := "ytjacmojmjicmjaa", sum := "7a67a8e8444e31db06f392c6e6ebf0be5e5ca7b63fab0b185010850e8ee8ad23", func := "loop.example/twoports/laws.FnStageOk", spec := "fnStageOk", apart := false, narrowed := true }
def FnStageOkUptoSaid : Prop := fnStageOkUptoRow.holds Try.pinned (OpenSpec.upto fnStageOkSpec)

/-- 'laws.FnNoiseOf', WHERE WHAT IT READS IS OF BULK AT MOST 1048576: true; the input reads as it did. -/
def fnNoiseOfUptoRow : OpenClaim := { program := "ytjacmojmjicmjaa", sum := "7a67a8e8444e31db06f392c6e6ebf0be5e5ca7b63fab0b185010850e8ee8ad23", func := "loop.example/twoports/laws.FnNoiseOf", spec := "fnNoiseOf", inPlace := ["math.Float64bits", "math.Float64frombits"], apart := false, narrowed := true }
def FnNoiseOfUptoSaid : Prop := fnNoiseOfUptoRow.holds Try.pinned (OpenSpec.upto fnNoiseOfSpec)

/-- 'laws.FnFirstBetter', WHERE WHAT IT READS IS OF BULK AT MOST 1048576: true; the input reads as it did. -/
def fnFirstBetterUptoRow : OpenClaim := { program := "ytjacmojmjicmjaa", sum := "7a67a8e8444e31db06f392c6e6ebf0be5e5ca7b63fab0b185010850e8ee8ad23", func := "loop.example/twoports/laws.FnFirstBetter", spec := "fnFirstBetter", inPlace := ["math.Float64bits", "math.Float64frombits"], apart := false, narrowed := true }
def FnFirstBetterUptoSaid : Prop := fnFirstBetterUptoRow.holds Try.pinned (OpenSpec.upto fnFirstBetterSpec)

/-- 'laws.FnExactStageOk', WHERE WHAT IT READS IS OF BULK AT MOST 1048576: true; the input reads as it did. -/
def fnExactStageOkUptoRow : OpenClaim := { program := "ytjacmojmjicmjaa", sum := "7a67a8e8444e31db06f392c6e6ebf0be5e5ca7b63fab0b185010850e8ee8ad23", func := "loop.example/twoports/laws.FnExactStageOk", spec := "fnExactStageOk", apart := false, narrowed := true }
def FnExactStageOkUptoSaid : Prop := fnExactStageOkUptoRow.holds Try.pinned (OpenSpec.upto fnExactStageOkSpec)

/-- 'laws.FnExactNoiseOf', WHERE WHAT IT READS IS OF BULK AT MOST 1048576: true; the input reads as it did. -/
def fnExactNoiseOfUptoRow : OpenClaim := { program := "ytjacmojmjicmjaa", sum := "7a67a8e8444e31db06f392c6e6ebf0be5e5ca7b63fab0b185010850e8ee8ad23", func := "loop.example/twoports/laws.FnExactNoiseOf", spec := "fnExactNoiseOf", inPlace := ["math.Float64bits", "math.Float64frombits"], apart := false, narrowed := true }
def FnExactNoiseOfUptoSaid : Prop := fnExactNoiseOfUptoRow.holds Try.pinned (OpenSpec.upto fnExactNoiseOfSpec)

/-- 'laws.FnExactFirstBetter', WHERE WHAT IT READS IS OF BULK AT MOST 1048576: true; the input reads as it did. -/
def fnExactFirstBetterUptoRow : OpenClaim := { program := "ytjacmojmjicmjaa", sum := "7a67a8e8444e31db06f392c6e6ebf0be5e5ca7b63fab0b185010850e8ee8ad23", func := "loop.example/twoports/laws.FnExactFirstBetter", spec := "fnExactFirstBetter", inPlace := ["math.Float64bits", "math.Float64frombits"], apart := false, narrowed := true }
def FnExactFirstBetterUptoSaid : Prop := fnExactFirstBetterUptoRow.holds Try.pinned (OpenSpec.upto fnExactFirstBetterSpec)

end Rows
end Go.Proofs.Ytjacmojmjicmjaa
