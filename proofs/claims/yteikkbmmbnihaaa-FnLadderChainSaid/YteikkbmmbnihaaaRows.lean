/-
  No cell of these rows narrows 'for every input' (looked for: loops, veiled, ifaces, maps, wideKeys, modest, calm, conditions, laid).
  DERIVED. THE GIVEN ROWS OF THIS SEAT. 9 by the template 'for every input the law returns true; each argument reads behind the call as it read before'; 0 by the template 'total and deterministic' (their statements: YteikkbmmbnihaaaTotals.lean).
  GIVEN WITH THE SEED: the statements are not yours to turn. If you find one false, say at which input.
  Laid BY PROGRAM, IN A SANDBOX (cutbox-rows.mjs): the forced cells as the released guide's own fill.sh prints them over the translation 0c145ec5fea15b6e… (all of the seat's roots in one cut). By AI agents, Wed Nov 11 2026. No macro, syntax, notation, axiom, sorry.
-/
import Derived.Test.YteikkbmmbnihaaaChecked
import GoSem.Claim
import GoSem.ClaimJoined
import GoSem.ClaimMapViews
import Derived.JoinedTies
import Derived.KernelRfl
namespace Go.Proofs.Yteikkbmmbnihaaa
/- THE CELL 'sum', in the pinned program and in every row, IS THE sha256 OF THE DUMP (.gsa) THAT YteikkbmmbnihaaaProg.lean LOADS. Nothing in Lean hashes anything: it is a label: what it is worth is what the hold of that sum in a sandbox is worth. -/
noncomputable def Try.pinned : Pinned := { name := "yteikkbmmbnihaaa", sum := "0c145ec5fea15b6e1cdd7578ee192d1d54ee25c26b8dbcbc7e63188a8f79f67d", checked := Try.checked }
namespace Rows
def none {H : Type} : Left H := { results := [], args := [] }

/-- 'laws.FnTablePart': WHATEVER THE INPUT: true; the input reads as it did. -/
def fnTablePartSpec : ChangeSpec := { name := "fnTablePart", fn := fun _ => fun
  | [d] => { results := [.lit (.bool true)], args := [d] }
  | _ => none }
def fnTablePartRow : OpenClaim := { program := "yteikkbmmbnihaaa", sum := "0c145ec5fea15b6e1cdd7578ee192d1d54ee25c26b8dbcbc7e63188a8f79f67d", func := "loop.example/twoports/laws.FnTablePart", spec := "fnTablePart", apart := false }
def FnTablePartSaid : Prop := fnTablePartRow.holds Try.pinned (OpenSpec.ofChange fnTablePartSpec)

/-- ITS FALSE NEIGHBOUR: 'it returns false'. Refute it at one input. -/
def fnTablePartWrong : ChangeSpec := { name := "fnTablePart", fn := fun _ => fun
  | [d] => { results := [.lit (.bool false)], args := [d] }
  | _ => none }
def FnTablePartWrongFalsely : Prop := fnTablePartRow.holds Try.pinned (OpenSpec.ofChange fnTablePartWrong)

/-- 'laws.FnLadderOk': WHATEVER THE INPUT: true; the input reads as it did. -/
def fnLadderOkSpec : ChangeSpec := { name := "fnLadderOk", fn := fun _ => fun
  | [d] => { results := [.lit (.bool true)], args := [d] }
  | _ => none }
def fnLadderOkRow : OpenClaim := { program := "yteikkbmmbnihaaa", sum := "0c145ec5fea15b6e1cdd7578ee192d1d54ee25c26b8dbcbc7e63188a8f79f67d", func := "loop.example/twoports/laws.FnLadderOk", spec := "fnLadderOk", recurses := true, apart := false }
def FnLadderOkSaid : Prop := fnLadderOkRow.holds Try.pinned (OpenSpec.ofChange fnLadderOkSpec)

/-- ITS FALSE NEIGHBOUR: 'it returns false'. Refute it at one input. -/
def fnLadderOkWrong : ChangeSpec := { name := "fnLadderOk", fn := fun _ => fun
  | [d] => { results := [.lit (.bool false)], args := [d] }
  | _ => none }
def FnLadderOkWrongFalsely : Prop := fnLadderOkRow.holds Try.pinned (OpenSpec.ofChange fnLadderOkWrong)

/-- 'laws.FnLadderSeen': WHATEVER THE INPUT: true; the input reads as it did. -/
def fnLadderSeenSpec : ChangeSpec := { name := "fnLadderSeen", fn := fun _ => fun
  | [d] => { results := [.lit (.bool true)], args := [d] }
  | _ => none }
def fnLadderSeenRow : OpenClaim := { program := "yteikkbmmbnihaaa", sum := "0c145ec5fea15b6e1cdd7578ee192d1d54ee25c26b8dbcbc7e63188a8f79f67d", func := "loop.example/twoports/laws.FnLadderSeen", spec := "fnLadderSeen", recurses := true, apart := false }
def FnLadderSeenSaid : Prop := fnLadderSeenRow.holds Try.pinned (OpenSpec.ofChange fnLadderSeenSpec)

/-- ITS FALSE NEIGHBOUR: 'it returns false'. Refute it at one input. -/
def fnLadderSeenWrong : ChangeSpec := { name := "fnLadderSeen", fn := fun _ => fun
  | [d] => { results := [.lit (.bool false)], args := [d] }
  | _ => none }
def FnLadderSeenWrongFalsely : Prop := fnLadderSeenRow.holds Try.pinned (OpenSpec.ofChange fnLadderSeenWrong)

/-- 'laws.FnLadderChain': WHATEVER THE INPUT: true; the input reads as it did. -/
def fnLadderChainSpec : ChangeSpec := { name := "fnLadderChain", fn := fun _ => fun
  | [d] => { results := [.lit (.bool true)], args := [d] }
  | _ => none }
def fnLadderChainRow : OpenClaim := { program := "yteikkbmmbnihaaa", sum := "0c145ec5fea15b6e1cdd7578ee192d1d54ee25c26b8dbcbc7e63188a8f79f67d", func := "loop.example/twoports/laws.FnLadderChain", spec := "fnLadderChain", inPlace := ["math.Float64bits", "math.Float64frombits"], recurses := true, apart := false }
def FnLadderChainSaid : Prop := fnLadderChainRow.holds Try.pinned (OpenSpec.ofChange fnLadderChainSpec)

/-- ITS FALSE NEIGHBOUR: 'it returns false'. Refute it at one input. -/
def fnLadderChainWrong : ChangeSpec := { name := "fnLadderChain", fn := fun _ => fun
  | [d] => { results := [.lit (.bool false)], args := [d] }
  | _ => none }
def FnLadderChainWrongFalsely : Prop := fnLadderChainRow.holds Try.pinned (OpenSpec.ofChange fnLadderChainWrong)

/-- 'laws.FnMismatchOf': WHATEVER THE INPUT: true; the input reads as it did. -/
def fnMismatchOfSpec : ChangeSpec := { name := "fnMismatchOf", fn := fun _ => fun
  | [d] => { results := [.lit (.bool true)], args := [d] }
  | _ => none }
def fnMismatchOfRow : OpenClaim := { program := "yteikkbmmbnihaaa", sum := "0c145ec5fea15b6e1cdd7578ee192d1d54ee25c26b8dbcbc7e63188a8f79f67d", func := "loop.example/twoports/laws.FnMismatchOf", spec := "fnMismatchOf", recurses := true, apart := false }
def FnMismatchOfSaid : Prop := fnMismatchOfRow.holds Try.pinned (OpenSpec.ofChange fnMismatchOfSpec)

/-- ITS FALSE NEIGHBOUR: 'it returns false'. Refute it at one input. -/
def fnMismatchOfWrong : ChangeSpec := { name := "fnMismatchOf", fn := fun _ => fun
  | [d] => { results := [.lit (.bool false)], args := [d] }
  | _ => none }
def FnMismatchOfWrongFalsely : Prop := fnMismatchOfRow.holds Try.pinned (OpenSpec.ofChange fnMismatchOfWrong)

/-- 'laws.FnBestLadder': WHATEVER THE INPUT: true; the input reads as it did. -/
def fnBestLadderSpec : ChangeSpec := { name := "fnBestLadder", fn := fun _ => fun
  | [d] => { results := [.lit (.bool true)], args := [d] }
  | _ => none }
def fnBestLadderRow : OpenClaim := { program := "yteikkbmmbnihaaa", sum := "0c145ec5fea15b6e1cdd7578ee192d1d54ee25c26b8dbcbc7e63188a8f79f67d", func := "loop.example/twoports/laws.FnBestLadder", spec := "fnBestLadder", unfollowed := true, recurses := true, apart := false }
def FnBestLadderSaid : Prop := fnBestLadderRow.holds Try.pinned (OpenSpec.ofChange fnBestLadderSpec)

/-- ITS FALSE NEIGHBOUR: 'it returns false'. Refute it at one input. -/
def fnBestLadderWrong : ChangeSpec := { name := "fnBestLadder", fn := fun _ => fun
  | [d] => { results := [.lit (.bool false)], args := [d] }
  | _ => none }
def FnBestLadderWrongFalsely : Prop := fnBestLadderRow.holds Try.pinned (OpenSpec.ofChange fnBestLadderWrong)

/-- 'laws.FnExactTablePart': WHATEVER THE INPUT: true; the input reads as it did. -/
def fnExactTablePartSpec : ChangeSpec := { name := "fnExactTablePart", fn := fun _ => fun
  | [d] => { results := [.lit (.bool true)], args := [d] }
  | _ => none }
def fnExactTablePartRow : OpenClaim := { program := "yteikkbmmbnihaaa", sum := "0c145ec5fea15b6e1cdd7578ee192d1d54ee25c26b8dbcbc7e63188a8f79f67d", func := "loop.example/twoports/laws.FnExactTablePart", spec := "fnExactTablePart", apart := false }
def FnExactTablePartSaid : Prop := fnExactTablePartRow.holds Try.pinned (OpenSpec.ofChange fnExactTablePartSpec)

/-- ITS FALSE NEIGHBOUR: 'it returns false'. Refute it at one input. -/
def fnExactTablePartWrong : ChangeSpec := { name := "fnExactTablePart", fn := fun _ => fun
  | [d] => { results := [.lit (.bool false)], args := [d] }
  | _ => none }
def FnExactTablePartWrongFalsely : Prop := fnExactTablePartRow.holds Try.pinned (OpenSpec.ofChange fnExactTablePartWrong)

/-- 'laws.FnExactLadderOk': WHATEVER THE INPUT: true; the input reads as it did. -/
def fnExactLadderOkSpec : ChangeSpec := { name := "fnExactLadderOk", fn := fun _ => fun
  | [d] => { results := [.lit (.bool true)], args := [d] }
  | _ => none }
def fnExactLadderOkRow : OpenClaim := { program := "yteikkbmmbnihaaa", sum := "0c145ec5fea15b6e1cdd7578ee192d1d54ee25c26b8dbcbc7e63188a8f79f67d", func := "loop.example/twoports/laws.FnExactLadderOk", spec := "fnExactLadderOk", apart := false }
def FnExactLadderOkSaid : Prop := fnExactLadderOkRow.holds Try.pinned (OpenSpec.ofChange fnExactLadderOkSpec)

/-- ITS FALSE NEIGHBOUR: 'it returns false'. Refute it at one input. -/
def fnExactLadderOkWrong : ChangeSpec := { name := "fnExactLadderOk", fn := fun _ => fun
  | [d] => { results := [.lit (.bool false)], args := [d] }
  | _ => none }
def FnExactLadderOkWrongFalsely : Prop := fnExactLadderOkRow.holds Try.pinned (OpenSpec.ofChange fnExactLadderOkWrong)

/-- 'laws.FnExactLadderChain': WHATEVER THE INPUT: true; the input reads as it did. -/
def fnExactLadderChainSpec : ChangeSpec := { name := "fnExactLadderChain", fn := fun _ => fun
  | [d] => { results := [.lit (.bool true)], args := [d] }
  | _ => none }
def fnExactLadderChainRow : OpenClaim := { program := "yteikkbmmbnihaaa", sum := "0c145ec5fea15b6e1cdd7578ee192d1d54ee25c26b8dbcbc7e63188a8f79f67d", func := "loop.example/twoports/laws.FnExactLadderChain", spec := "fnExactLadderChain", apart := false }
def FnExactLadderChainSaid : Prop := fnExactLadderChainRow.holds Try.pinned (OpenSpec.ofChange fnExactLadderChainSpec)

/-- ITS FALSE NEIGHBOUR: 'it returns false'. Refute it at one input. -/
def fnExactLadderChainWrong : ChangeSpec := { name := "fnExactLadderChain", fn := fun _ => fun
  | [d] => { results := [.lit (.bool false)], args := [d] }
  | _ => none }
def FnExactLadderChainWrongFalsely : Prop := fnExactLadderChainRow.holds Try.pinned (OpenSpec.ofChange fnExactLadderChainWrong)

/- THE SECOND FORM. 'bulk': how many values and letters a reading holds, each counted each time it is reached (what is shared counts as often as it is met; a slice's spare places count too). A statement '..UptoSaid' is the law's where the arguments, and the package variables that the reading takes, are together of bulk at most 1048576: NARROWER than '..Said'. Prove '..Said' where nothing that the law and all that it calls make is longer than what came in: it says more and counts as full. Else prove '..UptoSaid'. A law counts once. -/
mutual
def uptoBulk {H : Type} : DataW H → Nat
  | .lit (.string bytes) => bytes.length + 1
  | .lit _ => 1
  | .nil => 1
  | .ptr d => uptoBulk d + 1
  | .slice elems spare => uptoBulkAll elems + uptoBulkAll spare + 1
  | .agg parts => uptoBulkAll parts + 1
  | .iface _ d => uptoBulk d + 1
  | .map entries => uptoBulkEntries entries + 1
  | .held _ => 1
def uptoBulkAll {H : Type} : List (DataW H) → Nat
  | [] => 0
  | d :: r => uptoBulk d + uptoBulkAll r
def uptoBulkEntries {H : Type} : List (Lit × DataW H) → Nat
  | [] => 0
  | x :: r => uptoBulkEntry x + uptoBulkEntries r
def uptoBulkEntry {H : Type} : Lit × DataW H → Nat
  | (.string bytes, d) => bytes.length + uptoBulk d + 1
  | (_, d) => uptoBulk d + 1
 end
def uptoSmall : (H : Type) → List (DataW H) → Bool := fun _ ds => decide (uptoBulkAll ds ≤ 1048576)
def OpenSpec.upto (s : _root_.Go.ChangeSpec) : _root_.Go.OpenSpec := { _root_.Go.OpenSpec.ofChange s with cond := some uptoSmall }

/-- 'laws.FnTablePart', WHERE WHAT IT READS IS OF BULK AT MOST 1048576: true; the input reads as it did. -/
def fnTablePartUptoRow : OpenClaim := { program := "yteikkbmmbnihaaa", sum := "0c145ec5fea15b6e1cdd7578ee192d1d54ee25c26b8dbcbc7e63188a8f79f67d", func := "loop.example/twoports/laws.FnTablePart", spec := "fnTablePart", apart := false, narrowed := true }
def FnTablePartUptoSaid : Prop := fnTablePartUptoRow.holds Try.pinned (OpenSpec.upto fnTablePartSpec)

/-- 'laws.FnLadderOk', WHERE WHAT IT READS IS OF BULK AT MOST 1048576: true; the input reads as it did. -/
def fnLadderOkUptoRow : OpenClaim := { program := "yteikkbmmbnihaaa", sum := "0c145ec5fea15b6e1cdd7578ee192d1d54ee25c26b8dbcbc7e63188a8f79f67d", func := "loop.example/twoports/laws.FnLadderOk", spec := "fnLadderOk", recurses := true, apart := false, narrowed := true }
def FnLadderOkUptoSaid : Prop := fnLadderOkUptoRow.holds Try.pinned (OpenSpec.upto fnLadderOkSpec)

/-- 'laws.FnLadderSeen', WHERE WHAT IT READS IS OF BULK AT MOST 1048576: true; the input reads as it did. -/
def fnLadderSeenUptoRow : OpenClaim := { program := "yteikkbmmbnihaaa", sum := "0c145ec5fea15b6e1cdd7578ee192d1d54ee25c26b8dbcbc7e63188a8f79f67d", func := "loop.example/twoports/laws.FnLadderSeen", spec := "fnLadderSeen", recurses := true, apart := false, narrowed := true }
def FnLadderSeenUptoSaid : Prop := fnLadderSeenUptoRow.holds Try.pinned (OpenSpec.upto fnLadderSeenSpec)

/-- 'laws.FnLadderChain', WHERE WHAT IT READS IS OF BULK AT MOST 1048576: true; the input reads as it did. -/
def fnLadderChainUptoRow : OpenClaim := { program := "yteikkbmmbnihaaa", sum := "0c145ec5fea15b6e1cdd7578ee192d1d54ee25c26b8dbcbc7e63188a8f79f67d", func := "loop.example/twoports/laws.FnLadderChain", spec := "fnLadderChain", inPlace := ["math.Float64bits", "math.Float64frombits"], recurses := true, apart := false, narrowed := true }
def FnLadderChainUptoSaid : Prop := fnLadderChainUptoRow.holds Try.pinned (OpenSpec.upto fnLadderChainSpec)

/-- 'laws.FnMismatchOf', WHERE WHAT IT READS IS OF BULK AT MOST 1048576: true; the input reads as it did. -/
def fnMismatchOfUptoRow : OpenClaim := { program := "yteikkbmmbnihaaa", sum := "0c145ec5fea15b6e1cdd7578ee192d1d54ee25c26b8dbcbc7e63188a8f79f67d", func := "loop.example/twoports/laws.FnMismatchOf", spec := "fnMismatchOf", recurses := true, apart := false, narrowed := true }
def FnMismatchOfUptoSaid : Prop := fnMismatchOfUptoRow.holds Try.pinned (OpenSpec.upto fnMismatchOfSpec)

/-- 'laws.FnBestLadder', WHERE WHAT IT READS IS OF BULK AT MOST 1048576: true; the input reads as it did. -/
def fnBestLadderUptoRow : OpenClaim := { program := "yteikkbmmbnihaaa", sum := "0c145ec5fea15b6e1cdd7578ee192d1d54ee25c26b8dbcbc7e63188a8f79f67d", func := "loop.example/twoports/laws.FnBestLadder", spec := "fnBestLadder", unfollowed := true, recurses := true, apart := false, narrowed := true }
def FnBestLadderUptoSaid : Prop := fnBestLadderUptoRow.holds Try.pinned (OpenSpec.upto fnBestLadderSpec)

/-- 'laws.FnExactTablePart', WHERE WHAT IT READS IS OF BULK AT MOST 1048576: true; the input reads as it did. -/
def fnExactTablePartUptoRow : OpenClaim := { program := "yteikkbmmbnihaaa", sum := "0c145ec5fea15b6e1cdd7578ee192d1d54ee25c26b8dbcbc7e63188a8f79f67d", func := "loop.example/twoports/laws.FnExactTablePart", spec := "fnExactTablePart", apart := false, narrowed := true }
def FnExactTablePartUptoSaid : Prop := fnExactTablePartUptoRow.holds Try.pinned (OpenSpec.upto fnExactTablePartSpec)

/-- 'laws.FnExactLadderOk', WHERE WHAT IT READS IS OF BULK AT MOST 1048576: true; the input reads as it did. -/
def fnExactLadderOkUptoRow : OpenClaim := { program := "yteikkbmmbnihaaa", sum := "0c145ec5fea15b6e1cdd7578ee192d1d54ee25c26b8dbcbc7e63188a8f79f67d", func := "loop.example/twoports/laws.FnExactLadderOk", spec := "fnExactLadderOk", apart := false, narrowed := true }
def FnExactLadderOkUptoSaid : Prop := fnExactLadderOkUptoRow.holds Try.pinned (OpenSpec.upto fnExactLadderOkSpec)

/-- 'laws.FnExactLadderChain', WHERE WHAT IT READS IS OF BULK AT MOST 1048576: true; the input reads as it did. -/
def fnExactLadderChainUptoRow : OpenClaim := { program := "yteikkbmmbnihaaa", sum := "0c145ec5fea15b6e1cdd7578ee192d1d54ee25c26b8dbcbc7e63188a8f79f67d", func := "loop.example/twoports/laws.FnExactLadderChain", spec := "fnExactLadderChain", apart := false, narrowed := true }
def FnExactLadderChainUptoSaid : Prop := fnExactLadderChainUptoRow.holds Try.pinned (OpenSpec.upto fnExactLadderChainSpec)

end Rows
end Go.Proofs.Yteikkbmmbnihaaa
