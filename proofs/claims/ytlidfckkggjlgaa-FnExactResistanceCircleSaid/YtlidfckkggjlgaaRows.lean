/-
  No cell of these rows narrows 'for every input' (looked for: loops, veiled, ifaces, maps, wideKeys, modest, calm, conditions, laid).
  DERIVED. THE GIVEN ROWS OF THIS SEAT. 8 by the template 'for every input the law returns true; each argument reads behind the call as it read before'; 0 by the template 'total and deterministic' (their statements: YtlidfckkggjlgaaTotals.lean).
  GIVEN WITH THE SEED: the statements are not yours to turn. If you find one false, say at which input.
  Laid BY PROGRAM, IN A SANDBOX (cutbox-rows.mjs): the forced cells as the released guide's own fill.sh prints them over the translation c5760ba17e45e818… (all of the seat's roots in one cut). By AI agents, Wed Nov 11 2026. No macro, syntax, notation, axiom, sorry.
-/
import Derived.Test.YtlidfckkggjlgaaChecked
import GoSem.Claim
import GoSem.ClaimJoined
import GoSem.ClaimMapViews
import Derived.JoinedTies
import Derived.KernelRfl
namespace Go.Proofs.Ytlidfckkggjlgaa
/- THE CELL 'sum', in the pinned program and in every row, IS THE sha256 OF THE DUMP (.gsa) THAT YtlidfckkggjlgaaProg.lean LOADS. Nothing in Lean hashes anything: it is a label: what it is worth is what the hold of that sum in a sandbox is worth. -/
noncomputable def Try.pinned : Pinned := { name := "ytlidfckkggjlgaa", sum := "c5760ba17e45e818b799f07b6336534a9a806f7d89376eda3883aaef8210ed1e", checked := Try.checked }
namespace Rows
def none {H : Type} : Left H := { results := [], args := [] }

/-- 'laws.FnReflectionOf': WHATEVER THE INPUT: true; the input reads as it did. -/
def fnReflectionOfSpec : ChangeSpec := { name := "fnReflectionOf", fn := fun _ => fun
  | [d] => { results := [.lit (.bool true)], args := [d] }
  | _ => none }
def fnReflectionOfRow : OpenClaim := { program := "ytlidfckkggjlgaa", sum := "c5760ba17e45e818b799f07b6336534a9a806f7d89376eda3883aaef8210ed1e", func := "loop.example/twoports/laws.FnReflectionOf", spec := "fnReflectionOf", apart := false }
def FnReflectionOfSaid : Prop := fnReflectionOfRow.holds Try.pinned (OpenSpec.ofChange fnReflectionOfSpec)

/-- ITS FALSE NEIGHBOUR: 'it returns false'. Refute it at one input. -/
def fnReflectionOfWrong : ChangeSpec := { name := "fnReflectionOf", fn := fun _ => fun
  | [d] => { results := [.lit (.bool false)], args := [d] }
  | _ => none }
def FnReflectionOfWrongFalsely : Prop := fnReflectionOfRow.holds Try.pinned (OpenSpec.ofChange fnReflectionOfWrong)

/-- 'laws.FnImpedanceAt': WHATEVER THE INPUT: true; the input reads as it did. -/
def fnImpedanceAtSpec : ChangeSpec := { name := "fnImpedanceAt", fn := fun _ => fun
  | [d] => { results := [.lit (.bool true)], args := [d] }
  | _ => none }
def fnImpedanceAtRow : OpenClaim := { program := "ytlidfckkggjlgaa", sum := "c5760ba17e45e818b799f07b6336534a9a806f7d89376eda3883aaef8210ed1e", func := "loop.example/twoports/laws.FnImpedanceAt", spec := "fnImpedanceAt", inPlace := ["math.Float64bits", "math.Float64frombits"], apart := false }
def FnImpedanceAtSaid : Prop := fnImpedanceAtRow.holds Try.pinned (OpenSpec.ofChange fnImpedanceAtSpec)

/-- ITS FALSE NEIGHBOUR: 'it returns false'. Refute it at one input. -/
def fnImpedanceAtWrong : ChangeSpec := { name := "fnImpedanceAt", fn := fun _ => fun
  | [d] => { results := [.lit (.bool false)], args := [d] }
  | _ => none }
def FnImpedanceAtWrongFalsely : Prop := fnImpedanceAtRow.holds Try.pinned (OpenSpec.ofChange fnImpedanceAtWrong)

/-- 'laws.FnThroughOf': WHATEVER THE INPUT: true; the input reads as it did. -/
def fnThroughOfSpec : ChangeSpec := { name := "fnThroughOf", fn := fun _ => fun
  | [d] => { results := [.lit (.bool true)], args := [d] }
  | _ => none }
def fnThroughOfRow : OpenClaim := { program := "ytlidfckkggjlgaa", sum := "c5760ba17e45e818b799f07b6336534a9a806f7d89376eda3883aaef8210ed1e", func := "loop.example/twoports/laws.FnThroughOf", spec := "fnThroughOf", apart := false }
def FnThroughOfSaid : Prop := fnThroughOfRow.holds Try.pinned (OpenSpec.ofChange fnThroughOfSpec)

/-- ITS FALSE NEIGHBOUR: 'it returns false'. Refute it at one input. -/
def fnThroughOfWrong : ChangeSpec := { name := "fnThroughOf", fn := fun _ => fun
  | [d] => { results := [.lit (.bool false)], args := [d] }
  | _ => none }
def FnThroughOfWrongFalsely : Prop := fnThroughOfRow.holds Try.pinned (OpenSpec.ofChange fnThroughOfWrong)

/-- 'laws.FnResistanceCircle': WHATEVER THE INPUT: true; the input reads as it did. -/
def fnResistanceCircleSpec : ChangeSpec := { name := "fnResistanceCircle", fn := fun _ => fun
  | [d] => { results := [.lit (.bool true)], args := [d] }
  | _ => none }
def fnResistanceCircleRow : OpenClaim := { program := "ytlidfckkggjlgaa", sum := "c5760ba17e45e818b799f07b6336534a9a806f7d89376eda3883aaef8210ed1e", func := "loop.example/twoports/laws.FnResistanceCircle", spec := "fnResistanceCircle", apart := false }
def FnResistanceCircleSaid : Prop := fnResistanceCircleRow.holds Try.pinned (OpenSpec.ofChange fnResistanceCircleSpec)

/-- ITS FALSE NEIGHBOUR: 'it returns false'. Refute it at one input. -/
def fnResistanceCircleWrong : ChangeSpec := { name := "fnResistanceCircle", fn := fun _ => fun
  | [d] => { results := [.lit (.bool false)], args := [d] }
  | _ => none }
def FnResistanceCircleWrongFalsely : Prop := fnResistanceCircleRow.holds Try.pinned (OpenSpec.ofChange fnResistanceCircleWrong)

/-- 'laws.FnReactanceCircle': WHATEVER THE INPUT: true; the input reads as it did. -/
def fnReactanceCircleSpec : ChangeSpec := { name := "fnReactanceCircle", fn := fun _ => fun
  | [d] => { results := [.lit (.bool true)], args := [d] }
  | _ => none }
def fnReactanceCircleRow : OpenClaim := { program := "ytlidfckkggjlgaa", sum := "c5760ba17e45e818b799f07b6336534a9a806f7d89376eda3883aaef8210ed1e", func := "loop.example/twoports/laws.FnReactanceCircle", spec := "fnReactanceCircle", inPlace := ["math.Float64bits", "math.Float64frombits"], apart := false }
def FnReactanceCircleSaid : Prop := fnReactanceCircleRow.holds Try.pinned (OpenSpec.ofChange fnReactanceCircleSpec)

/-- ITS FALSE NEIGHBOUR: 'it returns false'. Refute it at one input. -/
def fnReactanceCircleWrong : ChangeSpec := { name := "fnReactanceCircle", fn := fun _ => fun
  | [d] => { results := [.lit (.bool false)], args := [d] }
  | _ => none }
def FnReactanceCircleWrongFalsely : Prop := fnReactanceCircleRow.holds Try.pinned (OpenSpec.ofChange fnReactanceCircleWrong)

/-- 'laws.FnOffCircle': WHATEVER THE INPUT: true; the input reads as it did. -/
def fnOffCircleSpec : ChangeSpec := { name := "fnOffCircle", fn := fun _ => fun
  | [d] => { results := [.lit (.bool true)], args := [d] }
  | _ => none }
def fnOffCircleRow : OpenClaim := { program := "ytlidfckkggjlgaa", sum := "c5760ba17e45e818b799f07b6336534a9a806f7d89376eda3883aaef8210ed1e", func := "loop.example/twoports/laws.FnOffCircle", spec := "fnOffCircle", apart := false }
def FnOffCircleSaid : Prop := fnOffCircleRow.holds Try.pinned (OpenSpec.ofChange fnOffCircleSpec)

/-- ITS FALSE NEIGHBOUR: 'it returns false'. Refute it at one input. -/
def fnOffCircleWrong : ChangeSpec := { name := "fnOffCircle", fn := fun _ => fun
  | [d] => { results := [.lit (.bool false)], args := [d] }
  | _ => none }
def FnOffCircleWrongFalsely : Prop := fnOffCircleRow.holds Try.pinned (OpenSpec.ofChange fnOffCircleWrong)

/-- 'laws.FnExactResistanceCircle': WHATEVER THE INPUT: true; the input reads as it did. -/
def fnExactResistanceCircleSpec : ChangeSpec := { name := "fnExactResistanceCircle", fn := fun _ => fun
  | [d] => { results := [.lit (.bool true)], args := [d] }
  | _ => none }
def fnExactResistanceCircleRow : OpenClaim := { program := "ytlidfckkggjlgaa", sum := "c5760ba17e45e818b799f07b6336534a9a806f7d89376eda3883aaef8210ed1e", func := "loop.example/twoports/laws.FnExactResistanceCircle", spec := "fnExactResistanceCircle", apart := false }
def FnExactResistanceCircleSaid : Prop := fnExactResistanceCircleRow.holds Try.pinned (OpenSpec.ofChange fnExactResistanceCircleSpec)

/-- ITS FALSE NEIGHBOUR: 'it returns false'. Refute it at one input. -/
def fnExactResistanceCircleWrong : ChangeSpec := { name := "fnExactResistanceCircle", fn := fun _ => fun
  | [d] => { results := [.lit (.bool false)], args := [d] }
  | _ => none }
def FnExactResistanceCircleWrongFalsely : Prop := fnExactResistanceCircleRow.holds Try.pinned (OpenSpec.ofChange fnExactResistanceCircleWrong)

/-- 'laws.FnExactReactanceCircle': WHATEVER THE INPUT: true; the input reads as it did. -/
def fnExactReactanceCircleSpec : ChangeSpec := { name := "fnExactReactanceCircle", fn := fun _ => fun
  | [d] => { results := [.lit (.bool true)], args := [d] }
  | _ => none }
def fnExactReactanceCircleRow : OpenClaim := { program := "ytlidfckkggjlgaa", sum := "c5760ba17e45e818b799f07b6336534a9a806f7d89376eda3883aaef8210ed1e", func := "loop.example/twoports/laws.FnExactReactanceCircle", spec := "fnExactReactanceCircle", inPlace := ["math.Float64bits", "math.Float64frombits"], apart := false }
def FnExactReactanceCircleSaid : Prop := fnExactReactanceCircleRow.holds Try.pinned (OpenSpec.ofChange fnExactReactanceCircleSpec)

/-- ITS FALSE NEIGHBOUR: 'it returns false'. Refute it at one input. -/
def fnExactReactanceCircleWrong : ChangeSpec := { name := "fnExactReactanceCircle", fn := fun _ => fun
  | [d] => { results := [.lit (.bool false)], args := [d] }
  | _ => none }
def FnExactReactanceCircleWrongFalsely : Prop := fnExactReactanceCircleRow.holds Try.pinned (OpenSpec.ofChange fnExactReactanceCircleWrong)

/- THE SECOND FORM. 'bulk': how many values and letters a reading holds, each counted each time it is reached (what is shared counts as often as it is met; a slice's spare places count too). A statement '..UptoSaid' is the law's where the arguments, and the package variables that the reading takes, are together of bulk at most 1048576: NARROWER than '..Said'. Prove '..Said' where nothing that the law and all that it calls make is longer than what came in: it says more and counts as full. Else prove '..UptoSaid'. A law counts once. -/
mutual
def uptoBulk {H : Type} : DataW H → Nat
  | .lit (.string bytes) => bytes.length + 1
  | .lit _ => 1
  | .nil => 1
  | .ptr d => uptoBulk d + 1
  | .slice elems spare => uptoBulkAll elems + uptoBulkAll spare + 1
  | .agg parts => uptoBulkAll parts + 1
  | .iface _ d => uptoBulk d + 1
  | .map entries => uptoBulkEntries entries + 1
  | .held _ => 1
def uptoBulkAll {H : Type} : List (DataW H) → Nat
  | [] => 0
  | d :: r => uptoBulk d + uptoBulkAll r
def uptoBulkEntries {H : Type} : List (Lit × DataW H) → Nat
  | [] => 0
  | x :: r => uptoBulkEntry x + uptoBulkEntries r
def uptoBulkEntry {H : Type} : Lit × DataW H → Nat
  | (.string bytes, d) => bytes.length + uptoBulk d + 1
  | (_, d) => uptoBulk d + 1
 end
def uptoSmall : (H : Type) → List (DataW H) → Bool := fun _ ds => decide (uptoBulkAll ds ≤ 1048576)
def OpenSpec.upto (s : _root_.Go.ChangeSpec) : _root_.Go.OpenSpec := { _root_.Go.OpenSpec.ofChange s with cond := some uptoSmall }

/-- 'laws.FnReflectionOf', WHERE WHAT IT READS IS OF BULK AT MOST 1048576: true; the input reads as it did. -/
def fnReflectionOfUptoRow : OpenClaim := { program := "ytlidfckkggjlgaa", sum := "c5760ba17e45e818b799f07b6336534a9a806f7d89376eda3883aaef8210ed1e", func := "loop.example/twoports/laws.FnReflectionOf", spec := "fnReflectionOf", apart := false, narrowed := true }
def FnReflectionOfUptoSaid : Prop := fnReflectionOfUptoRow.holds Try.pinned (OpenSpec.upto fnReflectionOfSpec)

/-- 'laws.FnImpedanceAt', WHERE WHAT IT READS IS OF BULK AT MOST 1048576: true; the input reads as it did. -/
def fnImpedanceAtUptoRow : OpenClaim := { program := "ytlidfckkggjlgaa", sum := "c5760ba17e45e818b799f07b6336534a9a806f7d89376eda3883aaef8210ed1e", func := "loop.example/twoports/laws.FnImpedanceAt", spec := "fnImpedanceAt", inPlace := ["math.Float64bits", "math.Float64frombits"], apart := false, narrowed := true }
def FnImpedanceAtUptoSaid : Prop := fnImpedanceAtUptoRow.holds Try.pinned (OpenSpec.upto fnImpedanceAtSpec)

/-- 'laws.FnThroughOf', WHERE WHAT IT READS IS OF BULK AT MOST 1048576: true; the input reads as it did. -/
def fnThroughOfUptoRow : OpenClaim := { program := "ytlidfckkggjlgaa", sum := "c5760ba17e45e818b799f07b6336534a9a806f7d89376eda3883aaef8210ed1e", func := "loop.example/twoports/laws.FnThroughOf", spec := "fnThroughOf", apart := false, narrowed := true }
def FnThroughOfUptoSaid : Prop := fnThroughOfUptoRow.holds Try.pinned (OpenSpec.upto fnThroughOfSpec)

/-- 'laws.FnResistanceCircle', WHERE WHAT IT READS IS OF BULK AT MOST 1048576: true; the input reads as it did. -/
def fnResistanceCircleUptoRow : OpenClaim := { program := "ytlidfckkggjlgaa", sum := "c5760ba17e45e818b799f07b6336534a9a806f7d89376eda3883aaef8210ed1e", func := "loop.example/twoports/laws.FnResistanceCircle", spec := "fnResistanceCircle", apart := false, narrowed := true }
def FnResistanceCircleUptoSaid : Prop := fnResistanceCircleUptoRow.holds Try.pinned (OpenSpec.upto fnResistanceCircleSpec)

/-- 'laws.FnReactanceCircle', WHERE WHAT IT READS IS OF BULK AT MOST 1048576: true; the input reads as it did. -/
def fnReactanceCircleUptoRow : OpenClaim := { program := "ytlidfckkggjlgaa", sum := "c5760ba17e45e818b799f07b6336534a9a806f7d89376eda3883aaef8210ed1e", func := "loop.example/twoports/laws.FnReactanceCircle", spec := "fnReactanceCircle", inPlace := ["math.Float64bits", "math.Float64frombits"], apart := false, narrowed := true }
def FnReactanceCircleUptoSaid : Prop := fnReactanceCircleUptoRow.holds Try.pinned (OpenSpec.upto fnReactanceCircleSpec)

/-- 'laws.FnOffCircle', WHERE WHAT IT READS IS OF BULK AT MOST 1048576: true; the input reads as it did. -/
def fnOffCircleUptoRow : OpenClaim := { program := "ytlidfckkggjlgaa", sum := "c5760ba17e45e818b799f07b6336534a9a806f7d89376eda3883aaef8210ed1e", func := "loop.example/twoports/laws.FnOffCircle", spec := "fnOffCircle", apart := false, narrowed := true }
def FnOffCircleUptoSaid : Prop := fnOffCircleUptoRow.holds Try.pinned (OpenSpec.upto fnOffCircleSpec)

/-- 'laws.FnExactResistanceCircle', WHERE WHAT IT READS IS OF BULK AT MOST 1048576: true; the input reads as it did. -/
def fnExactResistanceCircleUptoRow : OpenClaim := { program := "ytlidfckkggjlgaa", sum := "c5760ba17e45e818b799f07b6336534a9a806f7d89376eda3883aaef8210ed1e", func := "loop.example/twoports/laws.FnExactResistanceCircle", spec := "fnExactResistanceCircle", apart := false, narrowed := true }
def FnExactResistanceCircleUptoSaid : Prop := fnExactResistanceCircleUptoRow.holds Try.pinned (OpenSpec.upto fnExactResistanceCircleSpec)

/-- 'laws.FnExactReactanceCircle', WHERE WHAT IT READS IS OF BULK AT MOST 1048576: true; the input reads as it did. -/
def fnExactReactanceCircleUptoRow : OpenClaim := { program := "ytlidfckkggjlgaa", sum := "c5760ba17e45e818b799f07b6336534a9a806f7d89376eda3883aaef8210ed1e", func := "loop.example/twoports/laws.FnExactReactanceCircle", spec := "fnExactReactanceCircle", inPlace := ["math.Float64bits", "math.Float64frombits"], apart := false, narrowed := true }
def FnExactReactanceCircleUptoSaid : Prop := fnExactReactanceCircleUptoRow.holds Try.pinned (OpenSpec.upto fnExactReactanceCircleSpec)

end Rows
end Go.Proofs.Ytlidfckkggjlgaa
