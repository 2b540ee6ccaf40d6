/-
  No cell of these rows narrows 'for every input' (looked for: loops, veiled, ifaces, maps, wideKeys, modest, calm, conditions, laid).
  DERIVED. THE GIVEN ROWS OF THIS SEAT. 9 by the template 'for every input the law returns true; each argument reads behind the call as it read before'; 0 by the template 'total and deterministic' (their statements: YtdmacimafkiijaaTotals.lean).
  GIVEN WITH THE SEED: the statements are not yours to turn. If you find one false, say at which input.
  Laid BY PROGRAM, IN A SANDBOX (cutbox-rows.mjs): the forced cells as the released guide's own fill.sh prints them over the translation 7ba3a1af4bdb4c24… (all of the seat's roots in one cut). By AI agents, Wed Nov 11 2026. No macro, syntax, notation, axiom, sorry.
-/
import Derived.Test.YtdmacimafkiijaaChecked
import GoSem.Claim
import GoSem.ClaimJoined
import GoSem.ClaimMapViews
import Derived.JoinedTies
import Derived.KernelRfl
namespace Go.Proofs.Ytdmacimafkiijaa
/- THE CELL 'sum', in the pinned program and in every row, IS THE sha256 OF THE DUMP (.gsa) THAT YtdmacimafkiijaaProg.lean LOADS. Nothing in Lean hashes anything: it is a label: what it is worth is what the hold of that sum in a sandbox is worth. -/
noncomputable def Try.pinned : Pinned := { name := "ytdmacimafkiijaa", sum := "7ba3a1af4bdb4c24b53cde0fb5a52c04e4b2f07d0d12b5148448d100e6777eec", checked := Try.checked }
namespace Rows
def none {H : Type} : Left H := { results := [], args := [] }

/-- 'laws.FnReactanceCircle': WHATEVER THE INPUT: true; the input reads as it did. -/
def fnReactanceCircleSpec : ChangeSpec := { name := "fnReactanceCircle", fn := fun _ => fun
  | [d] => { results := [.lit (.bool true)], args := [d] }
  | _ => none }
def fnReactanceCircleRow : OpenClaim := { program := "ytdmacimafkiijaa", sum := "7ba3a1af4bdb4c24b53cde0fb5a52c04e4b2f07d0d12b5148448d100e6777eec", func := "loop.example/twoports/laws.FnReactanceCircle", spec := "fnReactanceCircle", inPlace := ["math.Float64bits", "math.Float64frombits"], apart := false }
def FnReactanceCircleSaid : Prop := fnReactanceCircleRow.holds Try.pinned (OpenSpec.ofChange fnReactanceCircleSpec)

/-- ITS FALSE NEIGHBOUR: 'it returns false'. Refute it at one input. -/
def fnReactanceCircleWrong : ChangeSpec := { name := "fnReactanceCircle", fn := fun _ => fun
  | [d] => { results := [.lit (.bool false)], args := [d] }
  | _ => none }
def FnReactanceCircleWrongFalsely : Prop := fnReactanceCircleRow.holds Try.pinned (OpenSpec.ofChange fnReactanceCircleWrong)

/-- 'laws.FnTurnOf': WHATEVER THE INPUT: true; the input reads as it did. -/
def fnTurnOfSpec : ChangeSpec := { name := "fnTurnOf", fn := fun _ => fun
  | [d] => { results := [.lit (.bool true)], args := [d] }
  | _ => none }
def fnTurnOfRow : OpenClaim := { program := "ytdmacimafkiijaa", sum := "7ba3a1af4bdb4c24b53cde0fb5a52c04e4b2f07d0d12b5148448d100e6777eec", func := "loop.example/twoports/laws.FnTurnOf", spec := "fnTurnOf", apart := false }
def FnTurnOfSaid : Prop := fnTurnOfRow.holds Try.pinned (OpenSpec.ofChange fnTurnOfSpec)

/-- ITS FALSE NEIGHBOUR: 'it returns false'. Refute it at one input. -/
def fnTurnOfWrong : ChangeSpec := { name := "fnTurnOf", fn := fun _ => fun
  | [d] => { results := [.lit (.bool false)], args := [d] }
  | _ => none }
def FnTurnOfWrongFalsely : Prop := fnTurnOfRow.holds Try.pinned (OpenSpec.ofChange fnTurnOfWrong)

/-- 'laws.FnRunsAlong': WHATEVER THE INPUT: true; the input reads as it did. -/
def fnRunsAlongSpec : ChangeSpec := { name := "fnRunsAlong", fn := fun _ => fun
  | [d] => { results := [.lit (.bool true)], args := [d] }
  | _ => none }
def fnRunsAlongRow : OpenClaim := { program := "ytdmacimafkiijaa", sum := "7ba3a1af4bdb4c24b53cde0fb5a52c04e4b2f07d0d12b5148448d100e6777eec", func := "loop.example/twoports/laws.FnRunsAlong", spec := "fnRunsAlong", apart := false }
def FnRunsAlongSaid : Prop := fnRunsAlongRow.holds Try.pinned (OpenSpec.ofChange fnRunsAlongSpec)

/-- ITS FALSE NEIGHBOUR: 'it returns false'. Refute it at one input. -/
def fnRunsAlongWrong : ChangeSpec := { name := "fnRunsAlong", fn := fun _ => fun
  | [d] => { results := [.lit (.bool false)], args := [d] }
  | _ => none }
def FnRunsAlongWrongFalsely : Prop := fnRunsAlongRow.holds Try.pinned (OpenSpec.ofChange fnRunsAlongWrong)

/-- 'laws.FnLineChain': WHATEVER THE INPUT: true; the input reads as it did. -/
def fnLineChainSpec : ChangeSpec := { name := "fnLineChain", fn := fun _ => fun
  | [d1, d2] => { results := [.lit (.bool true)], args := [d1, d2] }
  | _ => none }
def fnLineChainRow : OpenClaim := { program := "ytdmacimafkiijaa", sum := "7ba3a1af4bdb4c24b53cde0fb5a52c04e4b2f07d0d12b5148448d100e6777eec", func := "loop.example/twoports/laws.FnLineChain", spec := "fnLineChain", inPlace := ["math.Float64bits", "math.Float64frombits"], apart := false }
def FnLineChainSaid : Prop := fnLineChainRow.holds Try.pinned (OpenSpec.ofChange fnLineChainSpec)

/-- ITS FALSE NEIGHBOUR: 'it returns false'. Refute it at one input. -/
def fnLineChainWrong : ChangeSpec := { name := "fnLineChain", fn := fun _ => fun
  | [d1, d2] => { results := [.lit (.bool false)], args := [d1, d2] }
  | _ => none }
def FnLineChainWrongFalsely : Prop := fnLineChainRow.holds Try.pinned (OpenSpec.ofChange fnLineChainWrong)

/-- 'laws.FnBehindLine': WHATEVER THE INPUT: true; the input reads as it did. -/
def fnBehindLineSpec : ChangeSpec := { name := "fnBehindLine", fn := fun _ => fun
  | [d] => { results := [.lit (.bool true)], args := [d] }
  | _ => none }
def fnBehindLineRow : OpenClaim := { program := "ytdmacimafkiijaa", sum := "7ba3a1af4bdb4c24b53cde0fb5a52c04e4b2f07d0d12b5148448d100e6777eec", func := "loop.example/twoports/laws.FnBehindLine", spec := "fnBehindLine", inPlace := ["math.Float64bits", "math.Float64frombits"], apart := false }
def FnBehindLineSaid : Prop := fnBehindLineRow.holds Try.pinned (OpenSpec.ofChange fnBehindLineSpec)

/-- ITS FALSE NEIGHBOUR: 'it returns false'. Refute it at one input. -/
def fnBehindLineWrong : ChangeSpec := { name := "fnBehindLine", fn := fun _ => fun
  | [d] => { results := [.lit (.bool false)], args := [d] }
  | _ => none }
def FnBehindLineWrongFalsely : Prop := fnBehindLineRow.holds Try.pinned (OpenSpec.ofChange fnBehindLineWrong)

/-- 'laws.FnLeastTurn': WHATEVER THE INPUT: true; the input reads as it did. -/
def fnLeastTurnSpec : ChangeSpec := { name := "fnLeastTurn", fn := fun _ => fun
  | [d] => { results := [.lit (.bool true)], args := [d] }
  | _ => none }
def fnLeastTurnRow : OpenClaim := { program := "ytdmacimafkiijaa", sum := "7ba3a1af4bdb4c24b53cde0fb5a52c04e4b2f07d0d12b5148448d100e6777eec", func := "loop.example/twoports/laws.FnLeastTurn", spec := "fnLeastTurn", inPlace := ["math.Float64bits", "math.Float64frombits"], apart := false }
def FnLeastTurnSaid : Prop := fnLeastTurnRow.holds Try.pinned (OpenSpec.ofChange fnLeastTurnSpec)

/-- ITS FALSE NEIGHBOUR: 'it returns false'. Refute it at one input. -/
def fnLeastTurnWrong : ChangeSpec := { name := "fnLeastTurn", fn := fun _ => fun
  | [d] => { results := [.lit (.bool false)], args := [d] }
  | _ => none }
def FnLeastTurnWrongFalsely : Prop := fnLeastTurnRow.holds Try.pinned (OpenSpec.ofChange fnLeastTurnWrong)

/-- 'laws.FnExactReactanceCircle': WHATEVER THE INPUT: true; the input reads as it did. -/
def fnExactReactanceCircleSpec : ChangeSpec := { name := "fnExactReactanceCircle", fn := fun _ => fun
  | [d] => { results := [.lit (.bool true)], args := [d] }
  | _ => none }
def fnExactReactanceCircleRow : OpenClaim := { program := "ytdmacimafkiijaa", sum := "7ba3a1af4bdb4c24b53cde0fb5a52c04e4b2f07d0d12b5148448d100e6777eec", func := "loop.example/twoports/laws.FnExactReactanceCircle", spec := "fnExactReactanceCircle", inPlace := ["math.Float64bits", "math.Float64frombits"], apart := false }
def FnExactReactanceCircleSaid : Prop := fnExactReactanceCircleRow.holds Try.pinned (OpenSpec.ofChange fnExactReactanceCircleSpec)

/-- ITS FALSE NEIGHBOUR: 'it returns false'. Refute it at one input. -/
def fnExactReactanceCircleWrong : ChangeSpec := { name := "fnExactReactanceCircle", fn := fun _ => fun
  | [d] => { results := [.lit (.bool false)], args := [d] }
  | _ => none }
def FnExactReactanceCircleWrongFalsely : Prop := fnExactReactanceCircleRow.holds Try.pinned (OpenSpec.ofChange fnExactReactanceCircleWrong)

/-- 'laws.FnExactTurnOf': WHATEVER THE INPUT: true; the input reads as it did. -/
def fnExactTurnOfSpec : ChangeSpec := { name := "fnExactTurnOf", fn := fun _ => fun
  | [d] => { results := [.lit (.bool true)], args := [d] }
  | _ => none }
def fnExactTurnOfRow : OpenClaim := { program := "ytdmacimafkiijaa", sum := "7ba3a1af4bdb4c24b53cde0fb5a52c04e4b2f07d0d12b5148448d100e6777eec", func := "loop.example/twoports/laws.FnExactTurnOf", spec := "fnExactTurnOf", apart := false }
def FnExactTurnOfSaid : Prop := fnExactTurnOfRow.holds Try.pinned (OpenSpec.ofChange fnExactTurnOfSpec)

/-- ITS FALSE NEIGHBOUR: 'it returns false'. Refute it at one input. -/
def fnExactTurnOfWrong : ChangeSpec := { name := "fnExactTurnOf", fn := fun _ => fun
  | [d] => { results := [.lit (.bool false)], args := [d] }
  | _ => none }
def FnExactTurnOfWrongFalsely : Prop := fnExactTurnOfRow.holds Try.pinned (OpenSpec.ofChange fnExactTurnOfWrong)

/-- 'laws.FnExactRunsAlong': WHATEVER THE INPUT: true; the input reads as it did. -/
def fnExactRunsAlongSpec : ChangeSpec := { name := "fnExactRunsAlong", fn := fun _ => fun
  | [d1, d2] => { results := [.lit (.bool true)], args := [d1, d2] }
  | _ => none }
def fnExactRunsAlongRow : OpenClaim := { program := "ytdmacimafkiijaa", sum := "7ba3a1af4bdb4c24b53cde0fb5a52c04e4b2f07d0d12b5148448d100e6777eec", func := "loop.example/twoports/laws.FnExactRunsAlong", spec := "fnExactRunsAlong", apart := false }
def FnExactRunsAlongSaid : Prop := fnExactRunsAlongRow.holds Try.pinned (OpenSpec.ofChange fnExactRunsAlongSpec)

/-- ITS FALSE NEIGHBOUR: 'it returns false'. Refute it at one input. -/
def fnExactRunsAlongWrong : ChangeSpec := { name := "fnExactRunsAlong", fn := fun _ => fun
  | [d1, d2] => { results := [.lit (.bool false)], args := [d1, d2] }
  | _ => none }
def FnExactRunsAlongWrongFalsely : Prop := fnExactRunsAlongRow.holds Try.pinned (OpenSpec.ofChange fnExactRunsAlongWrong)

/- THE SECOND FORM. 'bulk': how many values and letters a reading holds, each counted each time it is reached (what is shared counts as often as it is met; a slice's spare places count too). A statement '..UptoSaid' is the law's where the arguments, and the package variables that the reading takes, are together of bulk at most 1048576: NARROWER than '..Said'. Prove '..Said' where nothing that the law and all that it calls make is longer than what came in: it says more and counts as full. Else prove '..UptoSaid'. A law counts once. -/
mutual
def uptoBulk {H : Type} : DataW H → Nat
  | .lit (.string bytes) => bytes.length + 1
  | .lit _ => 1
  | .nil => 1
  | .ptr d => uptoBulk d + 1
  | .slice elems spare => uptoBulkAll elems + uptoBulkAll spare + 1
  | .agg parts => uptoBulkAll parts + 1
  | .iface _ d => uptoBulk d + 1
  | .map entries => uptoBulkEntries entries + 1
  | .held _ => 1
def uptoBulkAll {H : Type} : List (DataW H) → Nat
  | [] => 0
  | d :: r => uptoBulk d + uptoBulkAll r
def uptoBulkEntries {H : Type} : List (Lit × DataW H) → Nat
  | [] => 0
  | x :: r => uptoBulkEntry x + uptoBulkEntries r
def uptoBulkEntry {H : Type} : Lit × DataW H → Nat
  | (.string bytes, d) => bytes.length + uptoBulk d + 1
  | (_, d) => uptoBulk d + 1
 end
def uptoSmall : (H : Type) → List (DataW H) → Bool := fun _ ds => decide (uptoBulkAll ds ≤ 1048576)
def OpenSpec.upto (s : _root_.Go.ChangeSpec) : _root_.Go.OpenSpec := { _root_.Go.OpenSpec.ofChange s with cond := some uptoSmall }

/-- 'laws.FnReactanceCircle', WHERE WHAT IT READS IS OF BULK AT MOST 1048576: true; the input reads as it did. -/
def fnReactanceCircleUptoRow : OpenClaim := { program := "ytdmacimafkiijaa", sum := "7ba3a1af4bdb4c24b53cde0fb5a52c04e4b2f07d0d12b5148448d100e6777eec", func := "loop.example/twoports/laws.FnReactanceCircle", spec := "fnReactanceCircle", inPlace := ["math.Float64bits", "math.Float64frombits"], apart := false, narrowed := true }
def FnReactanceCircleUptoSaid : Prop := fnReactanceCircleUptoRow.holds Try.pinned (OpenSpec.upto fnReactanceCircleSpec)

/-- 'laws.FnTurnOf', WHERE WHAT IT READS IS OF BULK AT MOST 1048576: true; the input reads as it did. -/
def fnTurnOfUptoRow : OpenClaim := { program := "ytdmacimafkiijaa", sum := "7ba3a1af4bdb4c24b53cde0fb5a52c04e4b2f07d0d12b5148448d100e6777eec", func := "loop.example/twoports/laws.FnTurnOf", spec := "fnTurnOf", apart := false, narrowed := true }
def FnTurnOfUptoSaid : Prop := fnTurnOfUptoRow.holds Try.pinned (OpenSpec.upto fnTurnOfSpec)

/-- 'laws.FnRunsAlong', WHERE WHAT IT READS IS OF BULK AT MOST 1048576: true; the input reads as it did. -/
def fnRunsAlongUptoRow : OpenClaim := { program := "ytdmacimafkiijaa", sum := "7ba3a1af4bdb4c24b53cde0fb5a52c04e4b2f07d0d12b5148448d100e6777eec", func := "loop.example/twoports/laws.FnRunsAlong", spec := "fnRunsAlong", apart := false, narrowed := true }
def FnRunsAlongUptoSaid : Prop := fnRunsAlongUptoRow.holds Try.pinned (OpenSpec.upto fnRunsAlongSpec)

/-- 'laws.FnLineChain', WHERE WHAT IT READS IS OF BULK AT MOST 1048576: true; the input reads as it did. -/
def fnLineChainUptoRow : OpenClaim := { program := "ytdmacimafkiijaa", sum := "7ba3a1af4bdb4c24b53cde0fb5a52c04e4b2f07d0d12b5148448d100e6777eec", func := "loop.example/twoports/laws.FnLineChain", spec := "fnLineChain", inPlace := ["math.Float64bits", "math.Float64frombits"], apart := false, narrowed := true }
def FnLineChainUptoSaid : Prop := fnLineChainUptoRow.holds Try.pinned (OpenSpec.upto fnLineChainSpec)

/-- 'laws.FnBehindLine', WHERE WHAT IT READS IS OF BULK AT MOST 1048576: true; the input reads as it did. -/
def fnBehindLineUptoRow : OpenClaim := { program := "ytdmacimafkiijaa", sum := "7ba3a1af4bdb4c24b53cde0fb5a52c04e4b2f07d0d12b5148448d100e6777eec", func := "loop.example/twoports/laws.FnBehindLine", spec := "fnBehindLine", inPlace := ["math.Float64bits", "math.Float64frombits"], apart := false, narrowed := true }
def FnBehindLineUptoSaid : Prop := fnBehindLineUptoRow.holds Try.pinned (OpenSpec.upto fnBehindLineSpec)

/-- 'laws.FnLeastTurn', WHERE WHAT IT READS IS OF BULK AT MOST 1048576: true; the input reads as it did. -/
def fnLeastTurnUptoRow : OpenClaim := { program := "ytdmacimafkiijaa", sum := "7ba3a1af4bdb4c24b53cde0fb5a52c04e4b2f07d0d12b5148448d100e6777eec", func := "loop.example/twoports/laws.FnLeastTurn", spec := "fnLeastTurn", inPlace := ["math.Float64bits", "math.Float64frombits"], apart := false, narrowed := true }
def FnLeastTurnUptoSaid : Prop := fnLeastTurnUptoRow.holds Try.pinned (OpenSpec.upto fnLeastTurnSpec)

/-- 'laws.FnExactReactanceCircle', WHERE WHAT IT READS IS OF BULK AT MOST 1048576: true; the input reads as it did. -/
def fnExactReactanceCircleUptoRow : OpenClaim := { program := "ytdmacimafkiijaa", sum := "7ba3a1af4bdb4c24b53cde0fb5a52c04e4b2f07d0d12b5148448d100e6777eec", func := "loop.example/twoports/laws.FnExactReactanceCircle", spec := "fnExactReactanceCircle", inPlace := ["math.Float64bits", "math.Float64frombits"], apart := false, narrowed := true }
def FnExactReactanceCircleUptoSaid : Prop := fnExactReactanceCircleUptoRow.holds Try.pinned (OpenSpec.upto fnExactReactanceCircleSpec)

/-- 'laws.FnExactTurnOf', WHERE WHAT IT READS IS OF BULK AT MOST 1048576: true; the input reads as it did. -/
def fnExactTurnOfUptoRow : OpenClaim := { program := "ytdmacimafkiijaa", sum := "7ba3a1af4bdb4c24b53cde0fb5a52c04e4b2f07d0d12b5148448d100e6777eec", func := "loop.example/twoports/laws.FnExactTurnOf", spec := "fnExactTurnOf", apart := false, narrowed := true }
def FnExactTurnOfUptoSaid : Prop := fnExactTurnOfUptoRow.holds Try.pinned (OpenSpec.upto fnExactTurnOfSpec)

/-- 'laws.FnExactRunsAlong', WHERE WHAT IT READS IS OF BULK AT MOST 1048576: true; the input reads as it did. -/
def fnExactRunsAlongUptoRow : OpenClaim := { program := "ytdmacimafkiijaa", sum := "7ba3a1af4bdb4c24b53cde0fb5a52c04e4b2f07d0d12b5148448d100e6777eec", func := "loop.example/twoports/laws.FnExactRunsAlong", spec := "fnExactRunsAlong", apart := false, narrowed := true }
def FnExactRunsAlongUptoSaid : Prop := fnExactRunsAlongUptoRow.holds Try.pinned (OpenSpec.upto fnExactRunsAlongSpec)

end Rows
end Go.Proofs.Ytdmacimafkiijaa
