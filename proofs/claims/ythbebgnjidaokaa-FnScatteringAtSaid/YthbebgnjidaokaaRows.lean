/-
  No cell of these rows narrows 'for every input' (looked for: loops, veiled, ifaces, maps, wideKeys, modest, calm, conditions, laid).
  DERIVED. THE GIVEN ROWS OF THIS SEAT. 4 by the template 'for every input the law returns true; each argument reads behind the call as it read before'; 0 by the template 'total and deterministic' (their statements: YthbebgnjidaokaaTotals.lean).
  GIVEN WITH THE SEED: the statements are not yours to turn. If you find one false, say at which input.
  Laid BY PROGRAM, IN A SANDBOX (cutbox-rows.mjs): the forced cells as the released guide's own fill.sh prints them over the translation 274e5a9a175e690d… (all of the seat's roots in one cut). By AI agents, Wed Nov 11 2026. No macro, syntax, notation, axiom, sorry.
-/
import Derived.Test.YthbebgnjidaokaaChecked
import GoSem.Claim
import GoSem.ClaimJoined
import GoSem.ClaimMapViews
import Derived.JoinedTies
import Derived.KernelRfl
namespace Go.Proofs.Ythbebgnjidaokaa
/- THE CELL 'sum', in the pinned program and in every row, IS THE sha256 OF THE DUMP (.gsa) THAT YthbebgnjidaokaaProg.lean LOADS. Nothing in Lean hashes anything: it is a label: what it is worth is what the hold of that sum in a sandbox is worth. -/
noncomputable def Try.pinned : Pinned := { name := "ythbebgnjidaokaa", sum := "274e5a9a175e690df95e29a76378ffef17a435fce77b844baf28d5be7725599e", checked := Try.checked }
namespace Rows
def none {H : Type} : Left H := { results := [], args := [] }

/-- 'laws.FnTableOk': WHATEVER THE INPUT: true; the input reads as it did. -/
def fnTableOkSpec : ChangeSpec := { name := "fnTableOk", fn := fun _ => fun
  | [d] => { results := [.lit (.bool true)], args := [d] }
  | _ => none }
def fnTableOkRow : OpenClaim := { program := "ythbebgnjidaokaa", sum := "274e5a9a175e690df95e29a76378ffef17a435fce77b844baf28d5be7725599e", func := "loop.example/twoports/laws.FnTableOk", spec := "fnTableOk", apart := false }
def FnTableOkSaid : Prop := fnTableOkRow.holds Try.pinned (OpenSpec.ofChange fnTableOkSpec)

/-- ITS FALSE NEIGHBOUR: 'it returns false'. Refute it at one input. -/
def fnTableOkWrong : ChangeSpec := { name := "fnTableOk", fn := fun _ => fun
  | [d] => { results := [.lit (.bool false)], args := [d] }
  | _ => none }
def FnTableOkWrongFalsely : Prop := fnTableOkRow.holds Try.pinned (OpenSpec.ofChange fnTableOkWrong)

/-- 'laws.FnColumnOf': WHATEVER THE INPUT: true; the input reads as it did. -/
def fnColumnOfSpec : ChangeSpec := { name := "fnColumnOf", fn := fun _ => fun
  | [d] => { results := [.lit (.bool true)], args := [d] }
  | _ => none }
def fnColumnOfRow : OpenClaim := { program := "ythbebgnjidaokaa", sum := "274e5a9a175e690df95e29a76378ffef17a435fce77b844baf28d5be7725599e", func := "loop.example/twoports/laws.FnColumnOf", spec := "fnColumnOf", apart := false }
def FnColumnOfSaid : Prop := fnColumnOfRow.holds Try.pinned (OpenSpec.ofChange fnColumnOfSpec)

/-- ITS FALSE NEIGHBOUR: 'it returns false'. Refute it at one input. -/
def fnColumnOfWrong : ChangeSpec := { name := "fnColumnOf", fn := fun _ => fun
  | [d] => { results := [.lit (.bool false)], args := [d] }
  | _ => none }
def FnColumnOfWrongFalsely : Prop := fnColumnOfRow.holds Try.pinned (OpenSpec.ofChange fnColumnOfWrong)

/-- 'laws.FnTableFrom': WHATEVER THE INPUT: true; the input reads as it did. -/
def fnTableFromSpec : ChangeSpec := { name := "fnTableFrom", fn := fun _ => fun
  | [d] => { results := [.lit (.bool true)], args := [d] }
  | _ => none }
def fnTableFromRow : OpenClaim := { program := "ythbebgnjidaokaa", sum := "274e5a9a175e690df95e29a76378ffef17a435fce77b844baf28d5be7725599e", func := "loop.example/twoports/laws.FnTableFrom", spec := "fnTableFrom", apart := false }
def FnTableFromSaid : Prop := fnTableFromRow.holds Try.pinned (OpenSpec.ofChange fnTableFromSpec)

/-- ITS FALSE NEIGHBOUR: 'it returns false'. Refute it at one input. -/
def fnTableFromWrong : ChangeSpec := { name := "fnTableFrom", fn := fun _ => fun
  | [d] => { results := [.lit (.bool false)], args := [d] }
  | _ => none }
def FnTableFromWrongFalsely : Prop := fnTableFromRow.holds Try.pinned (OpenSpec.ofChange fnTableFromWrong)

/-- 'laws.FnScatteringAt': WHATEVER THE INPUT: true; the input reads as it did. -/
def fnScatteringAtSpec : ChangeSpec := { name := "fnScatteringAt", fn := fun _ => fun
  | [d] => { results := [.lit (.bool true)], args := [d] }
  | _ => none }
def fnScatteringAtRow : OpenClaim := { program := "ythbebgnjidaokaa", sum := "274e5a9a175e690df95e29a76378ffef17a435fce77b844baf28d5be7725599e", func := "loop.example/twoports/laws.FnScatteringAt", spec := "fnScatteringAt", apart := false }
def FnScatteringAtSaid : Prop := fnScatteringAtRow.holds Try.pinned (OpenSpec.ofChange fnScatteringAtSpec)

/-- ITS FALSE NEIGHBOUR: 'it returns false'. Refute it at one input. -/
def fnScatteringAtWrong : ChangeSpec := { name := "fnScatteringAt", fn := fun _ => fun
  | [d] => { results := [.lit (.bool false)], args := [d] }
  | _ => none }
def FnScatteringAtWrongFalsely : Prop := fnScatteringAtRow.holds Try.pinned (OpenSpec.ofChange fnScatteringAtWrong)

/- THE SECOND FORM. 'bulk': how many values and letters a reading holds, each counted each time it is reached (what is shared counts as often as it is met; a slice's spare places count too). A statement '..UptoSaid' is the law's where the arguments, and the package variables that the reading takes, are together of bulk at most 1048576: NARROWER than '..Said'. Prove '..Said' where nothing that the law and all that it calls make is longer than what came in: it says more and counts as full. Else prove '..UptoSaid'. A law counts once. -/
mutual
def uptoBulk {H : Type} : DataW H → Nat
  | .lit (.string bytes) => bytes.length + 1
  | .lit _ => 1
  | .nil => 1
  | .ptr d => uptoBulk d + 1
  | .slice elems spare => uptoBulkAll elems + uptoBulkAll spare + 1
  | .agg parts => uptoBulkAll parts + 1
  | .iface _ d => uptoBulk d + 1
  | .map entries => uptoBulkEntries entries + 1
  | .held _ => 1
def uptoBulkAll {H : Type} : List (DataW H) → Nat
  | [] => 0
  | d :: r => uptoBulk d + uptoBulkAll r
def uptoBulkEntries {H : Type} : List (Lit × DataW H) → Nat
  | [] => 0
  | x :: r => uptoBulkEntry x + uptoBulkEntries r
def uptoBulkEntry {H : Type} : Lit × DataW H → Nat
  | (.string bytes, d) => bytes.length + uptoBulk d + 1
  | (_, d) => uptoBulk d + 1
 end
def uptoSmall : (H : Type) → List (DataW H) → Bool := fun _ ds => decide (uptoBulkAll ds ≤ 1048576)
def OpenSpec.upto (s : _root_.Go.ChangeSpec) : _root_.Go.OpenSpec := { _root_.Go.OpenSpec.ofChange s with cond := some uptoSmall }

/-- 'laws.FnTableOk', WHERE WHAT IT READS IS OF BULK AT MOST 1048576: true; the input reads as it did. -/
def fnTableOkUptoRow : OpenClaim := { program := "ythbebgnjidaokaa", sum := "274e5a9a175e690df95e29a76378ffef17a435fce77b844baf28d5be7725599e", func := "loop.example/twoports/laws.FnTableOk", spec := "fnTableOk", apart := false, narrowed := true }
def FnTableOkUptoSaid : Prop := fnTableOkUptoRow.holds Try.pinned (OpenSpec.upto fnTableOkSpec)

/-- 'laws.FnColumnOf', WHERE WHAT IT READS IS OF BULK AT MOST 1048576: true; the input reads as it did. -/
def fnColumnOfUptoRow : OpenClaim := { program := "ythbebgnjidaokaa", sum := "274e5a9a175e690df95e29a76378ffef17a435fce77b844baf28d5be7725599e", func := "loop.example/twoports/laws.FnColumnOf", spec := "fnColumnOf", apart := false, narrowed := true }
def FnColumnOfUptoSaid : Prop := fnColumnOfUptoRow.holds Try.pinned (OpenSpec.upto fnColumnOfSpec)

/-- 'laws.FnTableFrom', WHERE WHAT IT READS IS OF BULK AT MOST 1048576: true; the input reads as it did. -/
def fnTableFromUptoRow : OpenClaim := { program := "ythbebgnjidaokaa", sum := "274e5a9a175e690df95e29a76378ffef17a435fce77b844baf28d5be7725599e", func := "loop.example/twoports/laws.FnTableFrom", spec := "fnTableFrom", apart := false, narrowed := true }
def FnTableFromUptoSaid : Prop := fnTableFromUptoRow.holds Try.pinned (OpenSpec.upto fnTableFromSpec)

/-- 'laws.FnScatteringAt', WHERE WHAT IT READS IS OF BULK AT MOST 1048576: true; the input reads as it did. -/
def fnScatteringAtUptoRow : OpenClaim := { program := "ythbebgnjidaokaa", sum := "274e5a9a175e690df95e29a76378ffef17a435fce77b844baf28d5be7725599e", func := "loop.example/twoports/laws.FnScatteringAt", spec := "fnScatteringAt", apart := false, narrowed := true }
def FnScatteringAtUptoSaid : Prop := fnScatteringAtUptoRow.holds Try.pinned (OpenSpec.upto fnScatteringAtSpec)

end Rows
end Go.Proofs.Ythbebgnjidaokaa
