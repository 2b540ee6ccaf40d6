/-
  No cell of these rows narrows 'for every input' (looked for: loops, veiled, ifaces, maps, wideKeys, modest, calm, conditions, laid).
  DERIVED. THE GIVEN ROWS OF THIS SEAT. 8 by the template 'for every input the law returns true; each argument reads behind the call as it read before'; 0 by the template 'total and deterministic' (their statements: YtlndnghdddekaaaTotals.lean).
  GIVEN WITH THE SEED: the statements are not yours to turn. If you find one false, say at which input.
  Laid BY PROGRAM, IN A SANDBOX (cutbox-rows.mjs): the forced cells as the released guide's own fill.sh prints them over the translation d55b1e7915f8060c… (all of the seat's roots in one cut). By AI agents, Wed Nov 11 2026. No macro, syntax, notation, axiom, sorry.
-/
import Derived.Test.YtlndnghdddekaaaChecked
import GoSem.Claim
import GoSem.ClaimJoined
import GoSem.ClaimMapViews
import Derived.JoinedTies
import Derived.KernelRfl
namespace Go.Proofs.Ytlndnghdddekaaa
/- THE CELL 'sum', in the pinned program and in every row, IS THE sha256 OF THE DUMP (.gsa) THAT YtlndnghdddekaaaProg.lean LOADS. Nothing in Lean hashes anything: it is a label: what it is worth is what the hold of that sum in a sandbox is worth. -/
noncomputable def Try.pinned : Pinned := { name := "ytlndnghdddekaaa", sum := "d55b1e7915f8060c18da3d8f2a4c692b50fdee5768e93414832afd2bb2ca4f63", checked := Try.checked }
namespace Rows
def none {H : Type} : Left H := { results := [], args := [] }

/-- 'laws.FnSeriesPart': WHATEVER THE INPUT: true; the input reads as it did. -/
def fnSeriesPartSpec : ChangeSpec := { name := "fnSeriesPart", fn := fun _ => fun
  | [d] => { results := [.lit (.bool true)], args := [d] }
  | _ => none }
def fnSeriesPartRow : OpenClaim := { program := "ytlndnghdddekaaa", sum := "d55b1e7915f8060c18da3d8f2a4c692b50fdee5768e93414832afd2bb2ca4f63", func := "loop.example/twoports/laws.FnSeriesPart", spec := "fnSeriesPart", apart := false }
def FnSeriesPartSaid : Prop := fnSeriesPartRow.holds Try.pinned (OpenSpec.ofChange fnSeriesPartSpec)

/-- ITS FALSE NEIGHBOUR: 'it returns false'. Refute it at one input. -/
def fnSeriesPartWrong : ChangeSpec := { name := "fnSeriesPart", fn := fun _ => fun
  | [d] => { results := [.lit (.bool false)], args := [d] }
  | _ => none }
def FnSeriesPartWrongFalsely : Prop := fnSeriesPartRow.holds Try.pinned (OpenSpec.ofChange fnSeriesPartWrong)

/-- 'laws.FnShuntPart': WHATEVER THE INPUT: true; the input reads as it did. -/
def fnShuntPartSpec : ChangeSpec := { name := "fnShuntPart", fn := fun _ => fun
  | [d] => { results := [.lit (.bool true)], args := [d] }
  | _ => none }
def fnShuntPartRow : OpenClaim := { program := "ytlndnghdddekaaa", sum := "d55b1e7915f8060c18da3d8f2a4c692b50fdee5768e93414832afd2bb2ca4f63", func := "loop.example/twoports/laws.FnShuntPart", spec := "fnShuntPart", apart := false }
def FnShuntPartSaid : Prop := fnShuntPartRow.holds Try.pinned (OpenSpec.ofChange fnShuntPartSpec)

/-- ITS FALSE NEIGHBOUR: 'it returns false'. Refute it at one input. -/
def fnShuntPartWrong : ChangeSpec := { name := "fnShuntPart", fn := fun _ => fun
  | [d] => { results := [.lit (.bool false)], args := [d] }
  | _ => none }
def FnShuntPartWrongFalsely : Prop := fnShuntPartRow.holds Try.pinned (OpenSpec.ofChange fnShuntPartWrong)

/-- 'laws.FnTransformerPart': WHATEVER THE INPUT: true; the input reads as it did. -/
def fnTransformerPartSpec : ChangeSpec := { name := "fnTransformerPart", fn := fun _ => fun
  | [d] => { results := [.lit (.bool true)], args := [d] }
  | _ => none }
def fnTransformerPartRow : OpenClaim := { program := "ytlndnghdddekaaa", sum := "d55b1e7915f8060c18da3d8f2a4c692b50fdee5768e93414832afd2bb2ca4f63", func := "loop.example/twoports/laws.FnTransformerPart", spec := "fnTransformerPart", inPlace := ["math.Float64bits", "math.Float64frombits"], apart := false }
def FnTransformerPartSaid : Prop := fnTransformerPartRow.holds Try.pinned (OpenSpec.ofChange fnTransformerPartSpec)

/-- ITS FALSE NEIGHBOUR: 'it returns false'. Refute it at one input. -/
def fnTransformerPartWrong : ChangeSpec := { name := "fnTransformerPart", fn := fun _ => fun
  | [d] => { results := [.lit (.bool false)], args := [d] }
  | _ => none }
def FnTransformerPartWrongFalsely : Prop := fnTransformerPartRow.holds Try.pinned (OpenSpec.ofChange fnTransformerPartWrong)

/-- 'laws.FnGyratorPart': WHATEVER THE INPUT: true; the input reads as it did. -/
def fnGyratorPartSpec : ChangeSpec := { name := "fnGyratorPart", fn := fun _ => fun
  | [d] => { results := [.lit (.bool true)], args := [d] }
  | _ => none }
def fnGyratorPartRow : OpenClaim := { program := "ytlndnghdddekaaa", sum := "d55b1e7915f8060c18da3d8f2a4c692b50fdee5768e93414832afd2bb2ca4f63", func := "loop.example/twoports/laws.FnGyratorPart", spec := "fnGyratorPart", apart := false }
def FnGyratorPartSaid : Prop := fnGyratorPartRow.holds Try.pinned (OpenSpec.ofChange fnGyratorPartSpec)

/-- ITS FALSE NEIGHBOUR: 'it returns false'. Refute it at one input. -/
def fnGyratorPartWrong : ChangeSpec := { name := "fnGyratorPart", fn := fun _ => fun
  | [d] => { results := [.lit (.bool false)], args := [d] }
  | _ => none }
def FnGyratorPartWrongFalsely : Prop := fnGyratorPartRow.holds Try.pinned (OpenSpec.ofChange fnGyratorPartWrong)

/-- 'laws.FnCascade': WHATEVER THE INPUT: true; the input reads as it did. -/
def fnCascadeSpec : ChangeSpec := { name := "fnCascade", fn := fun _ => fun
  | [d1, d2] => { results := [.lit (.bool true)], args := [d1, d2] }
  | _ => none }
def fnCascadeRow : OpenClaim := { program := "ytlndnghdddekaaa", sum := "d55b1e7915f8060c18da3d8f2a4c692b50fdee5768e93414832afd2bb2ca4f63", func := "loop.example/twoports/laws.FnCascade", spec := "fnCascade", apart := false }
def FnCascadeSaid : Prop := fnCascadeRow.holds Try.pinned (OpenSpec.ofChange fnCascadeSpec)

/-- ITS FALSE NEIGHBOUR: 'it returns false'. Refute it at one input. -/
def fnCascadeWrong : ChangeSpec := { name := "fnCascade", fn := fun _ => fun
  | [d1, d2] => { results := [.lit (.bool false)], args := [d1, d2] }
  | _ => none }
def FnCascadeWrongFalsely : Prop := fnCascadeRow.holds Try.pinned (OpenSpec.ofChange fnCascadeWrong)

/-- 'laws.FnChainAll': WHATEVER THE INPUT: true; the input reads as it did. -/
def fnChainAllSpec : ChangeSpec := { name := "fnChainAll", fn := fun _ => fun
  | [d] => { results := [.lit (.bool true)], args := [d] }
  | _ => none }
def fnChainAllRow : OpenClaim := { program := "ytlndnghdddekaaa", sum := "d55b1e7915f8060c18da3d8f2a4c692b50fdee5768e93414832afd2bb2ca4f63", func := "loop.example/twoports/laws.FnChainAll", spec := "fnChainAll", apart := false }
def FnChainAllSaid : Prop := fnChainAllRow.holds Try.pinned (OpenSpec.ofChange fnChainAllSpec)

/-- ITS FALSE NEIGHBOUR: 'it returns false'. Refute it at one input. -/
def fnChainAllWrong : ChangeSpec := { name := "fnChainAll", fn := fun _ => fun
  | [d] => { results := [.lit (.bool false)], args := [d] }
  | _ => none }
def FnChainAllWrongFalsely : Prop := fnChainAllRow.holds Try.pinned (OpenSpec.ofChange fnChainAllWrong)

/-- 'laws.FnTurnedChain': WHATEVER THE INPUT: true; the input reads as it did. -/
def fnTurnedChainSpec : ChangeSpec := { name := "fnTurnedChain", fn := fun _ => fun
  | [d] => { results := [.lit (.bool true)], args := [d] }
  | _ => none }
def fnTurnedChainRow : OpenClaim := { program := "ytlndnghdddekaaa", sum := "d55b1e7915f8060c18da3d8f2a4c692b50fdee5768e93414832afd2bb2ca4f63", func := "loop.example/twoports/laws.FnTurnedChain", spec := "fnTurnedChain", apart := false }
def FnTurnedChainSaid : Prop := fnTurnedChainRow.holds Try.pinned (OpenSpec.ofChange fnTurnedChainSpec)

/-- ITS FALSE NEIGHBOUR: 'it returns false'. Refute it at one input. -/
def fnTurnedChainWrong : ChangeSpec := { name := "fnTurnedChain", fn := fun _ => fun
  | [d] => { results := [.lit (.bool false)], args := [d] }
  | _ => none }
def FnTurnedChainWrongFalsely : Prop := fnTurnedChainRow.holds Try.pinned (OpenSpec.ofChange fnTurnedChainWrong)

/-- 'laws.FnSeenAt': WHATEVER THE INPUT: true; the input reads as it did. -/
def fnSeenAtSpec : ChangeSpec := { name := "fnSeenAt", fn := fun _ => fun
  | [d1, d2] => { results := [.lit (.bool true)], args := [d1, d2] }
  | _ => none }
def fnSeenAtRow : OpenClaim := { program := "ytlndnghdddekaaa", sum := "d55b1e7915f8060c18da3d8f2a4c692b50fdee5768e93414832afd2bb2ca4f63", func := "loop.example/twoports/laws.FnSeenAt", spec := "fnSeenAt", inPlace := ["math.Float64bits", "math.Float64frombits"], apart := false }
def FnSeenAtSaid : Prop := fnSeenAtRow.holds Try.pinned (OpenSpec.ofChange fnSeenAtSpec)

/-- ITS FALSE NEIGHBOUR: 'it returns false'. Refute it at one input. -/
def fnSeenAtWrong : ChangeSpec := { name := "fnSeenAt", fn := fun _ => fun
  | [d1, d2] => { results := [.lit (.bool false)], args := [d1, d2] }
  | _ => none }
def FnSeenAtWrongFalsely : Prop := fnSeenAtRow.holds Try.pinned (OpenSpec.ofChange fnSeenAtWrong)

/- THE SECOND FORM. 'bulk': how many values and letters a reading holds, each counted each time it is reached (what is shared counts as often as it is met; a slice's spare places count too). A statement '..UptoSaid' is the law's where the arguments, and the package variables that the reading takes, are together of bulk at most 1048576: NARROWER than '..Said'. Prove '..Said' where nothing that the law and all that it calls make is longer than what came in: it says more and counts as full. Else prove '..UptoSaid'. A law counts once. -/
mutual
def uptoBulk {H : Type} : DataW H → Nat
  | .lit (.string bytes) => bytes.length + 1
  | .lit _ => 1
  | .nil => 1
  | .ptr d => uptoBulk d + 1
  | .slice elems spare => uptoBulkAll elems + uptoBulkAll spare + 1
  | .agg parts => uptoBulkAll parts + 1
  | .iface _ d => uptoBulk d + 1
  | .map entries => uptoBulkEntries entries + 1
  | .held _ => 1
def uptoBulkAll {H : Type} : List (DataW H) → Nat
  | [] => 0
  | d :: r => uptoBulk d + uptoBulkAll r
def uptoBulkEntries {H : Type} : List (Lit × DataW H) → Nat
  | [] => 0
  | x :: r => uptoBulkEntry x + uptoBulkEntries r
def uptoBulkEntry {H : Type} : Lit × DataW H → Nat
  | (.string bytes, d) => bytes.length + uptoBulk d + 1
  | (_, d) => uptoBulk d + 1
 end
def uptoSmall : (H : Type) → List (DataW H) → Bool := fun _ ds => decide (uptoBulkAll ds ≤ 1048576)
def OpenSpec.upto (s : _root_.Go.ChangeSpec) : _root_.Go.OpenSpec := { _root_.Go.OpenSpec.ofChange s with cond := some uptoSmall }

/-- 'laws.FnSeriesPart', WHERE WHAT IT READS IS OF BULK AT MOST 1048576: true; the input reads as it did. -/
def fnSeriesPartUptoRow : OpenClaim := { program := "ytlndnghdddekaaa", sum := "d55b1e7915f8060c18da3d8f2a4c692b50fdee5768e93414832afd2bb2ca4f63", func := "loop.example/twoports/laws.FnSeriesPart", spec := "fnSeriesPart", apart := false, narrowed := true }
def FnSeriesPartUptoSaid : Prop := fnSeriesPartUptoRow.holds Try.pinned (OpenSpec.upto fnSeriesPartSpec)

/-- 'laws.FnShuntPart', WHERE WHAT IT READS IS OF BULK AT MOST 1048576: true; the input reads as it did. -/
def fnShuntPartUptoRow : OpenClaim := { program := "ytlndnghdddekaaa", sum := "d55b1e7915f8060c18da3d8f2a4c692b50fdee5768e93414832afd2bb2ca4f63", func := "loop.example/twoports/laws.FnShuntPart", spec := "fnShuntPart", apart := false, narrowed := true }
def FnShuntPartUptoSaid : Prop := fnShuntPartUptoRow.holds Try.pinned (OpenSpec.upto fnShuntPartSpec)

/-- 'laws.FnTransformerPart', WHERE WHAT IT READS IS OF BULK AT MOST 1048576: true; the input reads as it did. -/
def fnTransformerPartUptoRow : OpenClaim := { program := "ytlndnghdddekaaa", sum := "d55b1e7915f8060c18da3d8f2a4c692b50fdee5768e93414832afd2bb2ca4f63", func := "loop.example/twoports/laws.FnTransformerPart", spec := "fnTransformerPart", inPlace := ["math.Float64bits", "math.Float64frombits"], apart := false, narrowed := true }
def FnTransformerPartUptoSaid : Prop := fnTransformerPartUptoRow.holds Try.pinned (OpenSpec.upto fnTransformerPartSpec)

/-- 'laws.FnGyratorPart', WHERE WHAT IT READS IS OF BULK AT MOST 1048576: true; the input reads as it did. -/
def fnGyratorPartUptoRow : OpenClaim := { program := "ytlndnghdddekaaa", sum := "d55b1e7915f8060c18da3d8f2a4c692b50fdee5768e93414832afd2bb2ca4f63", func := "loop.example/twoports/laws.FnGyratorPart", spec := "fnGyratorPart", apart := false, narrowed := true }
def FnGyratorPartUptoSaid : Prop := fnGyratorPartUptoRow.holds Try.pinned (OpenSpec.upto fnGyratorPartSpec)

/-- 'laws.FnCascade', WHERE WHAT IT READS IS OF BULK AT MOST 1048576: true; the input reads as it did. -/
def fnCascadeUptoRow : OpenClaim := { program := "ytlndnghdddekaaa", sum := "d55b1e7915f8060c18da3d8f2a4c692b50fdee5768e93414832afd2bb2ca4f63", func := "loop.example/twoports/laws.FnCascade", spec := "fnCascade", apart := false, narrowed := true }
def FnCascadeUptoSaid : Prop := fnCascadeUptoRow.holds Try.pinned (OpenSpec.upto fnCascadeSpec)

/-- 'laws.FnChainAll', WHERE WHAT IT READS IS OF BULK AT MOST 1048576: true; the input reads as it did. -/
def fnChainAllUptoRow : OpenClaim := { program := "ytlndnghdddekaaa", sum := "d55b1e7915f8060c18da3d8f2a4c692b50fdee5768e93414832afd2bb2ca4f63", func := "loop.example/twoports/laws.FnChainAll", spec := "fnChainAll", apart := false, narrowed := true }
def FnChainAllUptoSaid : Prop := fnChainAllUptoRow.holds Try.pinned (OpenSpec.upto fnChainAllSpec)

/-- 'laws.FnTurnedChain', WHERE WHAT IT READS IS OF BULK AT MOST 1048576: true; the input reads as it did. -/
def fnTurnedChainUptoRow : OpenClaim := { program := "ytlndnghdddekaaa", sum := "d55b1e7915f8060c18da3d8f2a4c692b50fdee5768e93414832afd2bb2ca4f63", func := "loop.example/twoports/laws.FnTurnedChain", spec := "fnTurnedChain", apart := false, narrowed := true }
def FnTurnedChainUptoSaid : Prop := fnTurnedChainUptoRow.holds Try.pinned (OpenSpec.upto fnTurnedChainSpec)

/-- 'laws.FnSeenAt', WHERE WHAT IT READS IS OF BULK AT MOST 1048576: true; the input reads as it did. -/
def fnSeenAtUptoRow : OpenClaim := { program := "ytlndnghdddekaaa", sum := "d55b1e7915f8060c18da3d8f2a4c692b50fdee5768e93414832afd2bb2ca4f63", func := "loop.example/twoports/laws.FnSeenAt", spec := "fnSeenAt", inPlace := ["math.Float64bits", "math.Float64frombits"], apart := false, narrowed := true }
def FnSeenAtUptoSaid : Prop := fnSeenAtUptoRow.holds Try.pinned (OpenSpec.upto fnSeenAtSpec)

end Rows
end Go.Proofs.Ytlndnghdddekaaa
