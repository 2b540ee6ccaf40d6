/-
  No cell of these rows narrows 'for every input' (looked for: loops, veiled, ifaces, maps, wideKeys, modest, calm, conditions, laid).
  DERIVED. THE GIVEN ROWS OF THIS SEAT. 10 by the template 'for every input the law returns true; each argument reads behind the call as it read before'; 0 by the template 'total and deterministic' (their statements: YtneheglollbcdaaTotals.lean).
  GIVEN WITH THE SEED: the statements are not yours to turn. If you find one false, say at which input.
  Laid BY PROGRAM, IN A SANDBOX (cutbox-rows.mjs): the forced cells as the released guide's own fill.sh prints them over the translation bf737a2f48741c09… (all of the seat's roots in one cut). By AI agents, Wed Nov 11 2026. No macro, syntax, notation, axiom, sorry.
-/
import Derived.Test.YtneheglollbcdaaChecked
import GoSem.Claim
import GoSem.ClaimJoined
import GoSem.ClaimMapViews
import Derived.JoinedTies
import Derived.KernelRfl
namespace Go.Proofs.Ytneheglollbcdaa
/- THE CELL 'sum', in the pinned program and in every row, IS THE sha256 OF THE DUMP (.gsa) THAT YtneheglollbcdaaProg.lean LOADS. Nothing in Lean hashes anything: it is a label: what it is worth is what the hold of that sum in a sandbox is worth. -/
noncomputable def Try.pinned : Pinned := { name := "ytneheglollbcdaa", sum := "bf737a2f48741c098eb5308f0bd26eb642186121664dd470b3e69858fe7a2ddd", checked := Try.checked }
namespace Rows
def none {H : Type} : Left H := { results := [], args := [] }

/-- 'laws.FnFinite': WHATEVER THE INPUT: true; the input reads as it did. -/
def fnFiniteSpec : ChangeSpec := { name := "fnFinite", fn := fun _ => fun
  | [d] => { results := [.lit (.bool true)], args := [d] }
  | _ => none }
def fnFiniteRow : OpenClaim := { program := "ytneheglollbcdaa", sum := "bf737a2f48741c098eb5308f0bd26eb642186121664dd470b3e69858fe7a2ddd", func := "loop.example/twoports/laws.FnFinite", spec := "fnFinite", apart := false }
def FnFiniteSaid : Prop := fnFiniteRow.holds Try.pinned (OpenSpec.ofChange fnFiniteSpec)

/-- ITS FALSE NEIGHBOUR: 'it returns false'. Refute it at one input. -/
def fnFiniteWrong : ChangeSpec := { name := "fnFinite", fn := fun _ => fun
  | [d] => { results := [.lit (.bool false)], args := [d] }
  | _ => none }
def FnFiniteWrongFalsely : Prop := fnFiniteRow.holds Try.pinned (OpenSpec.ofChange fnFiniteWrong)

/-- 'laws.FnMilli': WHATEVER THE INPUT: true; the input reads as it did. -/
def fnMilliSpec : ChangeSpec := { name := "fnMilli", fn := fun _ => fun
  | [d] => { results := [.lit (.bool true)], args := [d] }
  | _ => none }
def fnMilliRow : OpenClaim := { program := "ytneheglollbcdaa", sum := "bf737a2f48741c098eb5308f0bd26eb642186121664dd470b3e69858fe7a2ddd", func := "loop.example/twoports/laws.FnMilli", spec := "fnMilli", inPlace := ["math.Float64bits", "math.Float64frombits"], apart := false }
def FnMilliSaid : Prop := fnMilliRow.holds Try.pinned (OpenSpec.ofChange fnMilliSpec)

/-- ITS FALSE NEIGHBOUR: 'it returns false'. Refute it at one input. -/
def fnMilliWrong : ChangeSpec := { name := "fnMilli", fn := fun _ => fun
  | [d] => { results := [.lit (.bool false)], args := [d] }
  | _ => none }
def FnMilliWrongFalsely : Prop := fnMilliRow.holds Try.pinned (OpenSpec.ofChange fnMilliWrong)

/-- 'laws.FnMilliOf': WHATEVER THE INPUT: true; the input reads as it did. -/
def fnMilliOfSpec : ChangeSpec := { name := "fnMilliOf", fn := fun _ => fun
  | [d] => { results := [.lit (.bool true)], args := [d] }
  | _ => none }
def fnMilliOfRow : OpenClaim := { program := "ytneheglollbcdaa", sum := "bf737a2f48741c098eb5308f0bd26eb642186121664dd470b3e69858fe7a2ddd", func := "loop.example/twoports/laws.FnMilliOf", spec := "fnMilliOf", inPlace := ["math.Float64bits", "math.Float64frombits"], apart := false }
def FnMilliOfSaid : Prop := fnMilliOfRow.holds Try.pinned (OpenSpec.ofChange fnMilliOfSpec)

/-- ITS FALSE NEIGHBOUR: 'it returns false'. Refute it at one input. -/
def fnMilliOfWrong : ChangeSpec := { name := "fnMilliOf", fn := fun _ => fun
  | [d] => { results := [.lit (.bool false)], args := [d] }
  | _ => none }
def FnMilliOfWrongFalsely : Prop := fnMilliOfRow.holds Try.pinned (OpenSpec.ofChange fnMilliOfWrong)

/-- 'laws.FnNarrow': WHATEVER THE INPUT: true; the input reads as it did. -/
def fnNarrowSpec : ChangeSpec := { name := "fnNarrow", fn := fun _ => fun
  | [d] => { results := [.lit (.bool true)], args := [d] }
  | _ => none }
def fnNarrowRow : OpenClaim := { program := "ytneheglollbcdaa", sum := "bf737a2f48741c098eb5308f0bd26eb642186121664dd470b3e69858fe7a2ddd", func := "loop.example/twoports/laws.FnNarrow", spec := "fnNarrow", apart := false }
def FnNarrowSaid : Prop := fnNarrowRow.holds Try.pinned (OpenSpec.ofChange fnNarrowSpec)

/-- ITS FALSE NEIGHBOUR: 'it returns false'. Refute it at one input. -/
def fnNarrowWrong : ChangeSpec := { name := "fnNarrow", fn := fun _ => fun
  | [d] => { results := [.lit (.bool false)], args := [d] }
  | _ => none }
def FnNarrowWrongFalsely : Prop := fnNarrowRow.holds Try.pinned (OpenSpec.ofChange fnNarrowWrong)

/-- 'laws.FnQuotient': WHATEVER THE INPUT: true; the input reads as it did. -/
def fnQuotientSpec : ChangeSpec := { name := "fnQuotient", fn := fun _ => fun
  | [d] => { results := [.lit (.bool true)], args := [d] }
  | _ => none }
def fnQuotientRow : OpenClaim := { program := "ytneheglollbcdaa", sum := "bf737a2f48741c098eb5308f0bd26eb642186121664dd470b3e69858fe7a2ddd", func := "loop.example/twoports/laws.FnQuotient", spec := "fnQuotient", inPlace := ["math.Float64bits", "math.Float64frombits"], apart := false }
def FnQuotientSaid : Prop := fnQuotientRow.holds Try.pinned (OpenSpec.ofChange fnQuotientSpec)

/-- ITS FALSE NEIGHBOUR: 'it returns false'. Refute it at one input. -/
def fnQuotientWrong : ChangeSpec := { name := "fnQuotient", fn := fun _ => fun
  | [d] => { results := [.lit (.bool false)], args := [d] }
  | _ => none }
def FnQuotientWrongFalsely : Prop := fnQuotientRow.holds Try.pinned (OpenSpec.ofChange fnQuotientWrong)

/-- 'laws.FnProduct': WHATEVER THE INPUT: true; the input reads as it did. -/
def fnProductSpec : ChangeSpec := { name := "fnProduct", fn := fun _ => fun
  | [d] => { results := [.lit (.bool true)], args := [d] }
  | _ => none }
def fnProductRow : OpenClaim := { program := "ytneheglollbcdaa", sum := "bf737a2f48741c098eb5308f0bd26eb642186121664dd470b3e69858fe7a2ddd", func := "loop.example/twoports/laws.FnProduct", spec := "fnProduct", apart := false }
def FnProductSaid : Prop := fnProductRow.holds Try.pinned (OpenSpec.ofChange fnProductSpec)

/-- ITS FALSE NEIGHBOUR: 'it returns false'. Refute it at one input. -/
def fnProductWrong : ChangeSpec := { name := "fnProduct", fn := fun _ => fun
  | [d] => { results := [.lit (.bool false)], args := [d] }
  | _ => none }
def FnProductWrongFalsely : Prop := fnProductRow.holds Try.pinned (OpenSpec.ofChange fnProductWrong)

/-- 'laws.FnTurned': WHATEVER THE INPUT: true; the input reads as it did. -/
def fnTurnedSpec : ChangeSpec := { name := "fnTurned", fn := fun _ => fun
  | [d] => { results := [.lit (.bool true)], args := [d] }
  | _ => none }
def fnTurnedRow : OpenClaim := { program := "ytneheglollbcdaa", sum := "bf737a2f48741c098eb5308f0bd26eb642186121664dd470b3e69858fe7a2ddd", func := "loop.example/twoports/laws.FnTurned", spec := "fnTurned", apart := false }
def FnTurnedSaid : Prop := fnTurnedRow.holds Try.pinned (OpenSpec.ofChange fnTurnedSpec)

/-- ITS FALSE NEIGHBOUR: 'it returns false'. Refute it at one input. -/
def fnTurnedWrong : ChangeSpec := { name := "fnTurned", fn := fun _ => fun
  | [d] => { results := [.lit (.bool false)], args := [d] }
  | _ => none }
def FnTurnedWrongFalsely : Prop := fnTurnedRow.holds Try.pinned (OpenSpec.ofChange fnTurnedWrong)

/-- 'laws.FnPower': WHATEVER THE INPUT: true; the input reads as it did. -/
def fnPowerSpec : ChangeSpec := { name := "fnPower", fn := fun _ => fun
  | [d] => { results := [.lit (.bool true)], args := [d] }
  | _ => none }
def fnPowerRow : OpenClaim := { program := "ytneheglollbcdaa", sum := "bf737a2f48741c098eb5308f0bd26eb642186121664dd470b3e69858fe7a2ddd", func := "loop.example/twoports/laws.FnPower", spec := "fnPower", apart := false }
def FnPowerSaid : Prop := fnPowerRow.holds Try.pinned (OpenSpec.ofChange fnPowerSpec)

/-- ITS FALSE NEIGHBOUR: 'it returns false'. Refute it at one input. -/
def fnPowerWrong : ChangeSpec := { name := "fnPower", fn := fun _ => fun
  | [d] => { results := [.lit (.bool false)], args := [d] }
  | _ => none }
def FnPowerWrongFalsely : Prop := fnPowerRow.holds Try.pinned (OpenSpec.ofChange fnPowerWrong)

/-- 'laws.FnNear': WHATEVER THE INPUT: true; the input reads as it did. -/
def fnNearSpec : ChangeSpec := { name := "fnNear", fn := fun _ => fun
  | [d] => { results := [.lit (.bool true)], args := [d] }
  | _ => none }
def fnNearRow : OpenClaim := { program := "ytneheglollbcdaa", sum := "bf737a2f48741c098eb5308f0bd26eb642186121664dd470b3e69858fe7a2ddd", func := "loop.example/twoports/laws.FnNear", spec := "fnNear", inPlace := ["math.Float64bits", "math.Float64frombits"], apart := false }
def FnNearSaid : Prop := fnNearRow.holds Try.pinned (OpenSpec.ofChange fnNearSpec)

/-- ITS FALSE NEIGHBOUR: 'it returns false'. Refute it at one input. -/
def fnNearWrong : ChangeSpec := { name := "fnNear", fn := fun _ => fun
  | [d] => { results := [.lit (.bool false)], args := [d] }
  | _ => none }
def FnNearWrongFalsely : Prop := fnNearRow.holds Try.pinned (OpenSpec.ofChange fnNearWrong)

/-- 'laws.FnExactMilli': WHATEVER THE INPUT: true; the input reads as it did. -/
def fnExactMilliSpec : ChangeSpec := { name := "fnExactMilli", fn := fun _ => fun
  | [d1, d2] => { results := [.lit (.bool true)], args := [d1, d2] }
  | _ => none }
def fnExactMilliRow : OpenClaim := { program := "ytneheglollbcdaa", sum := "bf737a2f48741c098eb5308f0bd26eb642186121664dd470b3e69858fe7a2ddd", func := "loop.example/twoports/laws.FnExactMilli", spec := "fnExactMilli", apart := false }
def FnExactMilliSaid : Prop := fnExactMilliRow.holds Try.pinned (OpenSpec.ofChange fnExactMilliSpec)

/-- ITS FALSE NEIGHBOUR: 'it returns false'. Refute it at one input. -/
def fnExactMilliWrong : ChangeSpec := { name := "fnExactMilli", fn := fun _ => fun
  | [d1, d2] => { results := [.lit (.bool false)], args := [d1, d2] }
  | _ => none }
def FnExactMilliWrongFalsely : Prop := fnExactMilliRow.holds Try.pinned (OpenSpec.ofChange fnExactMilliWrong)

/- THE SECOND FORM. 'bulk': how many values and letters a reading holds, each counted each time it is reached (what is shared counts as often as it is met; a slice's spare places count too). A statement '..UptoSaid' is the law's where the arguments, and the package variables that the reading takes, are together of bulk at most 1048576: NARROWER than '..Said'. Prove '..Said' where nothing that the law and all that it calls make is longer than what came in: it says more and counts as full. Else prove '..UptoSaid'. A law counts once. -/
mutual
def uptoBulk {H : Type} : DataW H → Nat
  | .lit (.string bytes) => bytes.length + 1
  | .lit _ => 1
  | .nil => 1
  | .ptr d => uptoBulk d + 1
  | .slice elems spare => uptoBulkAll elems + uptoBulkAll spare + 1
  | .agg parts => uptoBulkAll parts + 1
  | .iface _ d => uptoBulk d + 1
  | .map entries => uptoBulkEntries entries + 1
  | .held _ => 1
def uptoBulkAll {H : Type} : List (DataW H) → Nat
  | [] => 0
  | d :: r => uptoBulk d + uptoBulkAll r
def uptoBulkEntries {H : Type} : List (Lit × DataW H) → Nat
  | [] => 0
  | x :: r => uptoBulkEntry x + uptoBulkEntries r
def uptoBulkEntry {H : Type} : Lit × DataW H → Nat
  | (.string bytes, d) => bytes.length + uptoBulk d + 1
  | (_, d) => uptoBulk d + 1
 end
def uptoSmall : (H : Type) → List (DataW H) → Bool := fun _ ds => decide (uptoBulkAll ds ≤ 1048576)
def OpenSpec.upto (s : _root_.Go.ChangeSpec) : _root_.Go.OpenSpec := { _root_.Go.OpenSpec.ofChange s with cond := some uptoSmall }

/-- 'laws.FnFinite', WHERE WHAT IT READS IS OF BULK AT MOST 1048576: true; the input reads as it did. -/
def fnFiniteUptoRow : OpenClaim := { program := "ytneheglollbcdaa", sum := "bf737a2f48741c098eb5308f0bd26eb642186121664dd470b3e69858fe7a2ddd", func := "loop.example/twoports/laws.FnFinite", spec := "fnFinite", apart := false, narrowed := true }
def FnFiniteUptoSaid : Prop := fnFiniteUptoRow.holds Try.pinned (OpenSpec.upto fnFiniteSpec)

/-- 'laws.FnMilli', WHERE WHAT IT READS IS OF BULK AT MOST 1048576: true; the input reads as it did. -/
def fnMilliUptoRow : OpenClaim := { program := "ytneheglollbcdaa", sum := "bf737a2f48741c098eb5308f0bd26eb642186121664dd470b3e69858fe7a2ddd", func := "loop.example/twoports/laws.FnMilli", spec := "fnMilli", inPlace := ["math.Float64bits", "math.Float64frombits"], apart := false, narrowed := true }
def FnMilliUptoSaid : Prop := fnMilliUptoRow.holds Try.pinned (OpenSpec.upto fnMilliSpec)

/-- 'laws.FnMilliOf', WHERE WHAT IT READS IS OF BULK AT MOST 1048576: true; the input reads as it did. -/
def fnMilliOfUptoRow : OpenClaim := { program := "ytneheglollbcdaa", sum := "bf737a2f48741c098eb5308f0bd26eb642186121664dd470b3e69858fe7a2ddd", func := "loop.example/twoports/laws.FnMilliOf", spec := "fnMilliOf", inPlace := ["math.Float64bits", "math.Float64frombits"], apart := false, narrowed := true }
def FnMilliOfUptoSaid : Prop := fnMilliOfUptoRow.holds Try.pinned (OpenSpec.upto fnMilliOfSpec)

/-- 'laws.FnNarrow', WHERE WHAT IT READS IS OF BULK AT MOST 1048576: true; the input reads as it did. -/
def fnNarrowUptoRow : OpenClaim := { program := "ytneheglollbcdaa", sum := "bf737a2f48741c098eb5308f0bd26eb642186121664dd470b3e69858fe7a2ddd", func := "loop.example/twoports/laws.FnNarrow", spec := "fnNarrow", apart := false, narrowed := true }
def FnNarrowUptoSaid : Prop := fnNarrowUptoRow.holds Try.pinned (OpenSpec.upto fnNarrowSpec)

/-- 'laws.FnQuotient', WHERE WHAT IT READS IS OF BULK AT MOST 1048576: true; the input reads as it did. -/
def fnQuotientUptoRow : OpenClaim := { program := "ytneheglollbcdaa", sum := "bf737a2f48741c098eb5308f0bd26eb642186121664dd470b3e69858fe7a2ddd", func := "loop.example/twoports/laws.FnQuotient", spec := "fnQuotient", inPlace := ["math.Float64bits", "math.Float64frombits"], apart := false, narrowed := true }
def FnQuotientUptoSaid : Prop := fnQuotientUptoRow.holds Try.pinned (OpenSpec.upto fnQuotientSpec)

/-- 'laws.FnProduct', WHERE WHAT IT READS IS OF BULK AT MOST 1048576: true; the input reads as it did. -/
def fnProductUptoRow : OpenClaim := { program := "ytneheglollbcdaa", sum := "bf737a2f48741c098eb5308f0bd26eb642186121664dd470b3e69858fe7a2ddd", func := "loop.example/twoports/laws.FnProduct", spec := "fnProduct", apart := false, narrowed := true }
def FnProductUptoSaid : Prop := fnProductUptoRow.holds Try.pinned (OpenSpec.upto fnProductSpec)

/-- 'laws.FnTurned', WHERE WHAT IT READS IS OF BULK AT MOST 1048576: true; the input reads as it did. -/
def fnTurnedUptoRow : OpenClaim := { program := "ytneheglollbcdaa", sum := "bf737a2f48741c098eb5308f0bd26eb642186121664dd470b3e69858fe7a2ddd", func := "loop.example/twoports/laws.FnTurned", spec := "fnTurned", apart := false, narrowed := true }
def FnTurnedUptoSaid : Prop := fnTurnedUptoRow.holds Try.pinned (OpenSpec.upto fnTurnedSpec)

/-- 'laws.FnPower', WHERE WHAT IT READS IS OF BULK AT MOST 1048576: true; the input reads as it did. -/
def fnPowerUptoRow : OpenClaim := { program := "ytneheglollbcdaa", sum := "bf737a2f48741c098eb5308f0bd26eb642186121664dd470b3e69858fe7a2ddd", func := "loop.example/twoports/laws.FnPower", spec := "fnPower", apart := false, narrowed := true }
def FnPowerUptoSaid : Prop := fnPowerUptoRow.holds Try.pinned (OpenSpec.upto fnPowerSpec)

/-- 'laws.FnNear', WHERE WHAT IT READS IS OF BULK AT MOST 1048576: true; the input reads as it did. -/
def fnNearUptoRow : OpenClaim := { program := "ytneheglollbcdaa", sum := "bf737a2f48741c098eb5308f0bd26eb642186121664dd470b3e69858fe7a2ddd", func := "loop.example/twoports/laws.FnNear", spec := "fnNear", inPlace := ["math.Float64bits", "math.Float64frombits"], apart := false, narrowed := true }
def FnNearUptoSaid : Prop := fnNearUptoRow.holds Try.pinned (OpenSpec.upto fnNearSpec)

/-- 'laws.FnExactMilli', WHERE WHAT IT READS IS OF BULK AT MOST 1048576: true; the input reads as it did. -/
def fnExactMilliUptoRow : OpenClaim := { program := "ytneheglollbcdaa", sum := "bf737a2f48741c098eb5308f0bd26eb642186121664dd470b3e69858fe7a2ddd", func := "loop.example/twoports/laws.FnExactMilli", spec := "fnExactMilli", apart := false, narrowed := true }
def FnExactMilliUptoSaid : Prop := fnExactMilliUptoRow.holds Try.pinned (OpenSpec.upto fnExactMilliSpec)

end Rows
end Go.Proofs.Ytneheglollbcdaa
