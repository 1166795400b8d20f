/-
  No cell of these rows narrows 'for every input' (looked for: loops, veiled, ifaces, maps, wideKeys, modest, calm, conditions, laid).
  DERIVED. THE GIVEN ROWS OF THIS SEAT. 13 by the template 'for every input the law returns true; each argument reads behind the call as it read before'; 0 by the template 'total and deterministic' (their statements: YtpladfogajjnnaaTotals.lean).
  GIVEN WITH THE SEED: the statements are not yours to turn. If you find one false, say at which input.
  Laid BY PROGRAM, IN A SANDBOX (cutbox-rows.mjs): the forced cells as the released guide's own fill.sh prints them over the translation addc187ef95d64ef… (all of the seat's roots in one cut). By AI agents, Wed Nov 11 2026. No macro, syntax, notation, axiom, sorry.
-/
import Derived.Test.YtpladfogajjnnaaChecked
import GoSem.Claim
import GoSem.ClaimJoined
import GoSem.ClaimMapViews
import Derived.JoinedTies
import Derived.KernelRfl
namespace Go.Proofs.Ytpladfogajjnnaa
/- THE CELL 'sum', in the pinned program and in every row, IS THE sha256 OF THE DUMP (.gsa) THAT YtpladfogajjnnaaProg.lean LOADS. Nothing in Lean hashes anything: it is a label: what it is worth is what the hold of that sum in a sandbox is worth. -/
noncomputable def Try.pinned : Pinned := { name := "ytpladfogajjnnaa", sum := "addc187ef95d64ef9b57f19e7217c7651ce2da6d9fb9720259a7c4c54f51d407", checked := Try.checked }
namespace Rows
def none {H : Type} : Left H := { results := [], args := [] }

/-- 'laws.FnAngles': WHATEVER THE INPUT: true; the input reads as it did. -/
def fnAnglesSpec : ChangeSpec := { name := "fnAngles", fn := fun _ => fun
  | [d] => { results := [.lit (.bool true)], args := [d] }
  | _ => none }
def fnAnglesRow : OpenClaim := { program := "ytpladfogajjnnaa", sum := "addc187ef95d64ef9b57f19e7217c7651ce2da6d9fb9720259a7c4c54f51d407", func := "loop.example/g01234/laws.FnAngles", spec := "fnAngles", unfollowed := true, recurses := true, plainKeys := false, apart := false }
def FnAnglesSaid : Prop := fnAnglesRow.holds Try.pinned (OpenSpec.ofChange fnAnglesSpec)

/-- ITS FALSE NEIGHBOUR: 'it returns false'. Refute it at one input. -/
def fnAnglesWrong : ChangeSpec := { name := "fnAngles", fn := fun _ => fun
  | [d] => { results := [.lit (.bool false)], args := [d] }
  | _ => none }
def FnAnglesWrongFalsely : Prop := fnAnglesRow.holds Try.pinned (OpenSpec.ofChange fnAnglesWrong)

/-- 'laws.FnExactIsAngle': WHATEVER THE INPUT: true; the input reads as it did. -/
def fnExactIsAngleSpec : ChangeSpec := { name := "fnExactIsAngle", fn := fun _ => fun
  | [d] => { results := [.lit (.bool true)], args := [d] }
  | _ => none }
def fnExactIsAngleRow : OpenClaim := { program := "ytpladfogajjnnaa", sum := "addc187ef95d64ef9b57f19e7217c7651ce2da6d9fb9720259a7c4c54f51d407", func := "loop.example/g01234/laws.FnExactIsAngle", spec := "fnExactIsAngle", plainKeys := false, apart := false }
def FnExactIsAngleSaid : Prop := fnExactIsAngleRow.holds Try.pinned (OpenSpec.ofChange fnExactIsAngleSpec)

/-- ITS FALSE NEIGHBOUR: 'it returns false'. Refute it at one input. -/
def fnExactIsAngleWrong : ChangeSpec := { name := "fnExactIsAngle", fn := fun _ => fun
  | [d] => { results := [.lit (.bool false)], args := [d] }
  | _ => none }
def FnExactIsAngleWrongFalsely : Prop := fnExactIsAngleRow.holds Try.pinned (OpenSpec.ofChange fnExactIsAngleWrong)

/-- 'laws.FnExactAngleOf': WHATEVER THE INPUT: true; the input reads as it did. -/
def fnExactAngleOfSpec : ChangeSpec := { name := "fnExactAngleOf", fn := fun _ => fun
  | [d1, d2] => { results := [.lit (.bool true)], args := [d1, d2] }
  | _ => none }
def fnExactAngleOfRow : OpenClaim := { program := "ytpladfogajjnnaa", sum := "addc187ef95d64ef9b57f19e7217c7651ce2da6d9fb9720259a7c4c54f51d407", func := "loop.example/g01234/laws.FnExactAngleOf", spec := "fnExactAngleOf", plainKeys := false, apart := false }
def FnExactAngleOfSaid : Prop := fnExactAngleOfRow.holds Try.pinned (OpenSpec.ofChange fnExactAngleOfSpec)

/-- ITS FALSE NEIGHBOUR: 'it returns false'. Refute it at one input. -/
def fnExactAngleOfWrong : ChangeSpec := { name := "fnExactAngleOf", fn := fun _ => fun
  | [d1, d2] => { results := [.lit (.bool false)], args := [d1, d2] }
  | _ => none }
def FnExactAngleOfWrongFalsely : Prop := fnExactAngleOfRow.holds Try.pinned (OpenSpec.ofChange fnExactAngleOfWrong)

/-- 'laws.FnExactAddAngles': WHATEVER THE INPUT: true; the input reads as it did. -/
def fnExactAddAnglesSpec : ChangeSpec := { name := "fnExactAddAngles", fn := fun _ => fun
  | [d1, d2] => { results := [.lit (.bool true)], args := [d1, d2] }
  | _ => none }
def fnExactAddAnglesRow : OpenClaim := { program := "ytpladfogajjnnaa", sum := "addc187ef95d64ef9b57f19e7217c7651ce2da6d9fb9720259a7c4c54f51d407", func := "loop.example/g01234/laws.FnExactAddAngles", spec := "fnExactAddAngles", plainKeys := false, apart := false }
def FnExactAddAnglesSaid : Prop := fnExactAddAnglesRow.holds Try.pinned (OpenSpec.ofChange fnExactAddAnglesSpec)

/-- ITS FALSE NEIGHBOUR: 'it returns false'. Refute it at one input. -/
def fnExactAddAnglesWrong : ChangeSpec := { name := "fnExactAddAngles", fn := fun _ => fun
  | [d1, d2] => { results := [.lit (.bool false)], args := [d1, d2] }
  | _ => none }
def FnExactAddAnglesWrongFalsely : Prop := fnExactAddAnglesRow.holds Try.pinned (OpenSpec.ofChange fnExactAddAnglesWrong)

/-- 'laws.FnExactDoubleAngle': WHATEVER THE INPUT: true; the input reads as it did. -/
def fnExactDoubleAngleSpec : ChangeSpec := { name := "fnExactDoubleAngle", fn := fun _ => fun
  | [d] => { results := [.lit (.bool true)], args := [d] }
  | _ => none }
def fnExactDoubleAngleRow : OpenClaim := { program := "ytpladfogajjnnaa", sum := "addc187ef95d64ef9b57f19e7217c7651ce2da6d9fb9720259a7c4c54f51d407", func := "loop.example/g01234/laws.FnExactDoubleAngle", spec := "fnExactDoubleAngle", plainKeys := false, apart := false }
def FnExactDoubleAngleSaid : Prop := fnExactDoubleAngleRow.holds Try.pinned (OpenSpec.ofChange fnExactDoubleAngleSpec)

/-- ITS FALSE NEIGHBOUR: 'it returns false'. Refute it at one input. -/
def fnExactDoubleAngleWrong : ChangeSpec := { name := "fnExactDoubleAngle", fn := fun _ => fun
  | [d] => { results := [.lit (.bool false)], args := [d] }
  | _ => none }
def FnExactDoubleAngleWrongFalsely : Prop := fnExactDoubleAngleRow.holds Try.pinned (OpenSpec.ofChange fnExactDoubleAngleWrong)

/-- 'laws.FnExactOrbitOf': WHATEVER THE INPUT: true; the input reads as it did. -/
def fnExactOrbitOfSpec : ChangeSpec := { name := "fnExactOrbitOf", fn := fun _ => fun
  | [d] => { results := [.lit (.bool true)], args := [d] }
  | _ => none }
def fnExactOrbitOfRow : OpenClaim := { program := "ytpladfogajjnnaa", sum := "addc187ef95d64ef9b57f19e7217c7651ce2da6d9fb9720259a7c4c54f51d407", func := "loop.example/g01234/laws.FnExactOrbitOf", spec := "fnExactOrbitOf", unfollowed := true, recurses := true, plainKeys := false, apart := false }
def FnExactOrbitOfSaid : Prop := fnExactOrbitOfRow.holds Try.pinned (OpenSpec.ofChange fnExactOrbitOfSpec)

/-- ITS FALSE NEIGHBOUR: 'it returns false'. Refute it at one input. -/
def fnExactOrbitOfWrong : ChangeSpec := { name := "fnExactOrbitOf", fn := fun _ => fun
  | [d] => { results := [.lit (.bool false)], args := [d] }
  | _ => none }
def FnExactOrbitOfWrongFalsely : Prop := fnExactOrbitOfRow.holds Try.pinned (OpenSpec.ofChange fnExactOrbitOfWrong)

/-- 'laws.FnExactPeriodsOf': WHATEVER THE INPUT: true; the input reads as it did. -/
def fnExactPeriodsOfSpec : ChangeSpec := { name := "fnExactPeriodsOf", fn := fun _ => fun
  | [d] => { results := [.lit (.bool true)], args := [d] }
  | _ => none }
def fnExactPeriodsOfRow : OpenClaim := { program := "ytpladfogajjnnaa", sum := "addc187ef95d64ef9b57f19e7217c7651ce2da6d9fb9720259a7c4c54f51d407", func := "loop.example/g01234/laws.FnExactPeriodsOf", spec := "fnExactPeriodsOf", unfollowed := true, recurses := true, plainKeys := false, apart := false }
def FnExactPeriodsOfSaid : Prop := fnExactPeriodsOfRow.holds Try.pinned (OpenSpec.ofChange fnExactPeriodsOfSpec)

/-- ITS FALSE NEIGHBOUR: 'it returns false'. Refute it at one input. -/
def fnExactPeriodsOfWrong : ChangeSpec := { name := "fnExactPeriodsOf", fn := fun _ => fun
  | [d] => { results := [.lit (.bool false)], args := [d] }
  | _ => none }
def FnExactPeriodsOfWrongFalsely : Prop := fnExactPeriodsOfRow.holds Try.pinned (OpenSpec.ofChange fnExactPeriodsOfWrong)

/-- 'laws.FnExactHalvesOf': WHATEVER THE INPUT: true; the input reads as it did. -/
def fnExactHalvesOfSpec : ChangeSpec := { name := "fnExactHalvesOf", fn := fun _ => fun
  | [d] => { results := [.lit (.bool true)], args := [d] }
  | _ => none }
def fnExactHalvesOfRow : OpenClaim := { program := "ytpladfogajjnnaa", sum := "addc187ef95d64ef9b57f19e7217c7651ce2da6d9fb9720259a7c4c54f51d407", func := "loop.example/g01234/laws.FnExactHalvesOf", spec := "fnExactHalvesOf", plainKeys := false, apart := false }
def FnExactHalvesOfSaid : Prop := fnExactHalvesOfRow.holds Try.pinned (OpenSpec.ofChange fnExactHalvesOfSpec)

/-- ITS FALSE NEIGHBOUR: 'it returns false'. Refute it at one input. -/
def fnExactHalvesOfWrong : ChangeSpec := { name := "fnExactHalvesOf", fn := fun _ => fun
  | [d] => { results := [.lit (.bool false)], args := [d] }
  | _ => none }
def FnExactHalvesOfWrongFalsely : Prop := fnExactHalvesOfRow.holds Try.pinned (OpenSpec.ofChange fnExactHalvesOfWrong)

/-- 'laws.FnExactIsWithin': WHATEVER THE INPUT: true; the input reads as it did. -/
def fnExactIsWithinSpec : ChangeSpec := { name := "fnExactIsWithin", fn := fun _ => fun
  | [d1, d2, d3] => { results := [.lit (.bool true)], args := [d1, d2, d3] }
  | _ => none }
def fnExactIsWithinRow : OpenClaim := { program := "ytpladfogajjnnaa", sum := "addc187ef95d64ef9b57f19e7217c7651ce2da6d9fb9720259a7c4c54f51d407", func := "loop.example/g01234/laws.FnExactIsWithin", spec := "fnExactIsWithin", plainKeys := false, apart := false }
def FnExactIsWithinSaid : Prop := fnExactIsWithinRow.holds Try.pinned (OpenSpec.ofChange fnExactIsWithinSpec)

/-- ITS FALSE NEIGHBOUR: 'it returns false'. Refute it at one input. -/
def fnExactIsWithinWrong : ChangeSpec := { name := "fnExactIsWithin", fn := fun _ => fun
  | [d1, d2, d3] => { results := [.lit (.bool false)], args := [d1, d2, d3] }
  | _ => none }
def FnExactIsWithinWrongFalsely : Prop := fnExactIsWithinRow.holds Try.pinned (OpenSpec.ofChange fnExactIsWithinWrong)

/-- 'laws.FnExactCyclicOrder': WHATEVER THE INPUT: true; the input reads as it did. -/
def fnExactCyclicOrderSpec : ChangeSpec := { name := "fnExactCyclicOrder", fn := fun _ => fun
  | [d1, d2, d3] => { results := [.lit (.bool true)], args := [d1, d2, d3] }
  | _ => none }
def fnExactCyclicOrderRow : OpenClaim := { program := "ytpladfogajjnnaa", sum := "addc187ef95d64ef9b57f19e7217c7651ce2da6d9fb9720259a7c4c54f51d407", func := "loop.example/g01234/laws.FnExactCyclicOrder", spec := "fnExactCyclicOrder", plainKeys := false, apart := false }
def FnExactCyclicOrderSaid : Prop := fnExactCyclicOrderRow.holds Try.pinned (OpenSpec.ofChange fnExactCyclicOrderSpec)

/-- ITS FALSE NEIGHBOUR: 'it returns false'. Refute it at one input. -/
def fnExactCyclicOrderWrong : ChangeSpec := { name := "fnExactCyclicOrder", fn := fun _ => fun
  | [d1, d2, d3] => { results := [.lit (.bool false)], args := [d1, d2, d3] }
  | _ => none }
def FnExactCyclicOrderWrongFalsely : Prop := fnExactCyclicOrderRow.holds Try.pinned (OpenSpec.ofChange fnExactCyclicOrderWrong)

/-- 'laws.FnExactDistanceOf': WHATEVER THE INPUT: true; the input reads as it did. -/
def fnExactDistanceOfSpec : ChangeSpec := { name := "fnExactDistanceOf", fn := fun _ => fun
  | [d1, d2] => { results := [.lit (.bool true)], args := [d1, d2] }
  | _ => none }
def fnExactDistanceOfRow : OpenClaim := { program := "ytpladfogajjnnaa", sum := "addc187ef95d64ef9b57f19e7217c7651ce2da6d9fb9720259a7c4c54f51d407", func := "loop.example/g01234/laws.FnExactDistanceOf", spec := "fnExactDistanceOf", unfollowed := true, recurses := true, plainKeys := false, apart := false }
def FnExactDistanceOfSaid : Prop := fnExactDistanceOfRow.holds Try.pinned (OpenSpec.ofChange fnExactDistanceOfSpec)

/-- ITS FALSE NEIGHBOUR: 'it returns false'. Refute it at one input. -/
def fnExactDistanceOfWrong : ChangeSpec := { name := "fnExactDistanceOf", fn := fun _ => fun
  | [d1, d2] => { results := [.lit (.bool false)], args := [d1, d2] }
  | _ => none }
def FnExactDistanceOfWrongFalsely : Prop := fnExactDistanceOfRow.holds Try.pinned (OpenSpec.ofChange fnExactDistanceOfWrong)

/-- 'laws.FnExactSortAngles': WHATEVER THE INPUT: true; the input reads as it did. -/
def fnExactSortAnglesSpec : ChangeSpec := { name := "fnExactSortAngles", fn := fun _ => fun
  | [d] => { results := [.lit (.bool true)], args := [d] }
  | _ => none }
def fnExactSortAnglesRow : OpenClaim := { program := "ytpladfogajjnnaa", sum := "addc187ef95d64ef9b57f19e7217c7651ce2da6d9fb9720259a7c4c54f51d407", func := "loop.example/g01234/laws.FnExactSortAngles", spec := "fnExactSortAngles", unfollowed := true, recurses := true, plainKeys := false, apart := false }
def FnExactSortAnglesSaid : Prop := fnExactSortAnglesRow.holds Try.pinned (OpenSpec.ofChange fnExactSortAnglesSpec)

/-- ITS FALSE NEIGHBOUR: 'it returns false'. Refute it at one input. -/
def fnExactSortAnglesWrong : ChangeSpec := { name := "fnExactSortAngles", fn := fun _ => fun
  | [d] => { results := [.lit (.bool false)], args := [d] }
  | _ => none }
def FnExactSortAnglesWrongFalsely : Prop := fnExactSortAnglesRow.holds Try.pinned (OpenSpec.ofChange fnExactSortAnglesWrong)

/-- 'laws.FnExactExpansionOf': WHATEVER THE INPUT: true; the input reads as it did. -/
def fnExactExpansionOfSpec : ChangeSpec := { name := "fnExactExpansionOf", fn := fun _ => fun
  | [d] => { results := [.lit (.bool true)], args := [d] }
  | _ => none }
def fnExactExpansionOfRow : OpenClaim := { program := "ytpladfogajjnnaa", sum := "addc187ef95d64ef9b57f19e7217c7651ce2da6d9fb9720259a7c4c54f51d407", func := "loop.example/g01234/laws.FnExactExpansionOf", spec := "fnExactExpansionOf", inPlace := ["internal/abi.NoEscape", "internal/bytealg.MakeNoZero"], unfollowed := true, recurses := true, plainKeys := false, apart := false }
def FnExactExpansionOfSaid : Prop := fnExactExpansionOfRow.holds Try.pinned (OpenSpec.ofChange fnExactExpansionOfSpec)

/-- ITS FALSE NEIGHBOUR: 'it returns false'. Refute it at one input. -/
def fnExactExpansionOfWrong : ChangeSpec := { name := "fnExactExpansionOf", fn := fun _ => fun
  | [d] => { results := [.lit (.bool false)], args := [d] }
  | _ => none }
def FnExactExpansionOfWrongFalsely : Prop := fnExactExpansionOfRow.holds Try.pinned (OpenSpec.ofChange fnExactExpansionOfWrong)

/- THE SECOND FORM. 'bulk': how many values and letters a reading holds, each counted each time it is reached (what is shared counts as often as it is met; a slice's spare places count too). A statement '..UptoSaid' is the law's where the arguments, and the package variables that the reading takes, are together of bulk at most 1048576: NARROWER than '..Said'. Prove '..Said' where nothing that the law and all that it calls make is longer than what came in: it says more and counts as full. Else prove '..UptoSaid'. A law counts once. -/
mutual
def uptoBulk {H : Type} : DataW H → Nat
  | .lit (.string bytes) => bytes.length + 1
  | .lit _ => 1
  | .nil => 1
  | .ptr d => uptoBulk d + 1
  | .slice elems spare => uptoBulkAll elems + uptoBulkAll spare + 1
  | .agg parts => uptoBulkAll parts + 1
  | .iface _ d => uptoBulk d + 1
  | .map entries => uptoBulkEntries entries + 1
  | .held _ => 1
def uptoBulkAll {H : Type} : List (DataW H) → Nat
  | [] => 0
  | d :: r => uptoBulk d + uptoBulkAll r
def uptoBulkEntries {H : Type} : List (Lit × DataW H) → Nat
  | [] => 0
  | x :: r => uptoBulkEntry x + uptoBulkEntries r
def uptoBulkEntry {H : Type} : Lit × DataW H → Nat
  | (.string bytes, d) => bytes.length + uptoBulk d + 1
  | (_, d) => uptoBulk d + 1
 end
def uptoSmall : (H : Type) → List (DataW H) → Bool := fun _ ds => decide (uptoBulkAll ds ≤ 1048576)
def OpenSpec.upto (s : _root_.Go.ChangeSpec) : _root_.Go.OpenSpec := { _root_.Go.OpenSpec.ofChange s with cond := some uptoSmall }

/-- 'laws.FnAngles', WHERE WHAT IT READS IS OF BULK AT MOST 1048576: true; the input reads as it did. -/
def fnAnglesUptoRow : OpenClaim := { program := "ytpladfogajjnnaa", sum := "addc187ef95d64ef9b57f19e7217c7651ce2da6d9fb9720259a7c4c54f51d407", func := "loop.example/g01234/laws.FnAngles", spec := "fnAngles", unfollowed := true, recurses := true, plainKeys := false, apart := false, narrowed := true }
def FnAnglesUptoSaid : Prop := fnAnglesUptoRow.holds Try.pinned (OpenSpec.upto fnAnglesSpec)

/-- 'laws.FnExactIsAngle', WHERE WHAT IT READS IS OF BULK AT MOST 1048576: true; the input reads as it did. -/
def fnExactIsAngleUptoRow : OpenClaim := { program := "ytpladfogajjnnaa", sum := "addc187ef95d64ef9b57f19e7217c7651ce2da6d9fb9720259a7c4c54f51d407", func := "loop.example/g01234/laws.FnExactIsAngle", spec := "fnExactIsAngle", plainKeys := false, apart := false, narrowed := true }
def FnExactIsAngleUptoSaid : Prop := fnExactIsAngleUptoRow.holds Try.pinned (OpenSpec.upto fnExactIsAngleSpec)

/-- 'laws.FnExactAngleOf', WHERE WHAT IT READS IS OF BULK AT MOST 1048576: true; the input reads as it did. -/
def fnExactAngleOfUptoRow : OpenClaim := { program := "ytpladfogajjnnaa", sum := "addc187ef95d64ef9b57f19e7217c7651ce2da6d9fb9720259a7c4c54f51d407", func := "loop.example/g01234/laws.FnExactAngleOf", spec := "fnExactAngleOf", plainKeys := false, apart := false, narrowed := true }
def FnExactAngleOfUptoSaid : Prop := fnExactAngleOfUptoRow.holds Try.pinned (OpenSpec.upto fnExactAngleOfSpec)

/-- 'laws.FnExactAddAngles', WHERE WHAT IT READS IS OF BULK AT MOST 1048576: true; the input reads as it did. -/
def fnExactAddAnglesUptoRow : OpenClaim := { program := "ytpladfogajjnnaa", sum := "addc187ef95d64ef9b57f19e7217c7651ce2da6d9fb9720259a7c4c54f51d407", func := "loop.example/g01234/laws.FnExactAddAngles", spec := "fnExactAddAngles", plainKeys := false, apart := false, narrowed := true }
def FnExactAddAnglesUptoSaid : Prop := fnExactAddAnglesUptoRow.holds Try.pinned (OpenSpec.upto fnExactAddAnglesSpec)

/-- 'laws.FnExactDoubleAngle', WHERE WHAT IT READS IS OF BULK AT MOST 1048576: true; the input reads as it did. -/
def fnExactDoubleAngleUptoRow : OpenClaim := { program := "ytpladfogajjnnaa", sum := "addc187ef95d64ef9b57f19e7217c7651ce2da6d9fb9720259a7c4c54f51d407", func := "loop.example/g01234/laws.FnExactDoubleAngle", spec := "fnExactDoubleAngle", plainKeys := false, apart := false, narrowed := true }
def FnExactDoubleAngleUptoSaid : Prop := fnExactDoubleAngleUptoRow.holds Try.pinned (OpenSpec.upto fnExactDoubleAngleSpec)

/-- 'laws.FnExactOrbitOf', WHERE WHAT IT READS IS OF BULK AT MOST 1048576: true; the input reads as it did. -/
def fnExactOrbitOfUptoRow : OpenClaim := { program := "ytpladfogajjnnaa", sum := "addc187ef95d64ef9b57f19e7217c7651ce2da6d9fb9720259a7c4c54f51d407", func := "loop.example/g01234/laws.FnExactOrbitOf", spec := "fnExactOrbitOf", unfollowed := true, recurses := true, plainKeys := false, apart := false, narrowed := true }
def FnExactOrbitOfUptoSaid : Prop := fnExactOrbitOfUptoRow.holds Try.pinned (OpenSpec.upto fnExactOrbitOfSpec)

/-- 'laws.FnExactPeriodsOf', WHERE WHAT IT READS IS OF BULK AT MOST 1048576: true; the input reads as it did. -/
def fnExactPeriodsOfUptoRow : OpenClaim := { program := "ytpladfogajjnnaa", sum := "addc187ef95d64ef9b57f19e7217c7651ce2da6d9fb9720259a7c4c54f51d407", func := "loop.example/g01234/laws.FnExactPeriodsOf", spec := "fnExactPeriodsOf", unfollowed := true, recurses := true, plainKeys := false, apart := false, narrowed := true }
def FnExactPeriodsOfUptoSaid : Prop := fnExactPeriodsOfUptoRow.holds Try.pinned (OpenSpec.upto fnExactPeriodsOfSpec)

/-- 'laws.FnExactHalvesOf', WHERE WHAT IT READS IS OF BULK AT MOST 1048576: true; the input reads as it did. -/
def fnExactHalvesOfUptoRow : OpenClaim := { program := "ytpladfogajjnnaa", sum := "addc187ef95d64ef9b57f19e7217c7651ce2da6d9fb9720259a7c4c54f51d407", func := "loop.example/g01234/laws.FnExactHalvesOf", spec := "fnExactHalvesOf", plainKeys := false, apart := false, narrowed := true }
def FnExactHalvesOfUptoSaid : Prop := fnExactHalvesOfUptoRow.holds Try.pinned (OpenSpec.upto fnExactHalvesOfSpec)

/-- 'laws.FnExactIsWithin', WHERE WHAT IT READS IS OF BULK AT MOST 1048576: true; the input reads as it did. -/
def fnExactIsWithinUptoRow : OpenClaim := { program := "ytpladfogajjnnaa", sum := "addc187ef95d64ef9b57f19e7217c7651ce2da6d9fb9720259a7c4c54f51d407", func := "loop.example/g01234/laws.FnExactIsWithin", spec := "fnExactIsWithin", plainKeys := false, apart := false, narrowed := true }
def FnExactIsWithinUptoSaid : Prop := fnExactIsWithinUptoRow.holds Try.pinned (OpenSpec.upto fnExactIsWithinSpec)

/-- 'laws.FnExactCyclicOrder', WHERE WHAT IT READS IS OF BULK AT MOST 1048576: true; the input reads as it did. -/
def fnExactCyclicOrderUptoRow : OpenClaim := { program := "ytpladfogajjnnaa", sum := "addc187ef95d64ef9b57f19e7217c7651ce2da6d9fb9720259a7c4c54f51d407", func := "loop.example/g01234/laws.FnExactCyclicOrder", spec := "fnExactCyclicOrder", plainKeys := false, apart := false, narrowed := true }
def FnExactCyclicOrderUptoSaid : Prop := fnExactCyclicOrderUptoRow.holds Try.pinned (OpenSpec.upto fnExactCyclicOrderSpec)

/-- 'laws.FnExactDistanceOf', WHERE WHAT IT READS IS OF BULK AT MOST 1048576: true; the input reads as it did. -/
def fnExactDistanceOfUptoRow : OpenClaim := { program := "ytpladfogajjnnaa", sum := "addc187ef95d64ef9b57f19e7217c7651ce2da6d9fb9720259a7c4c54f51d407", func := "loop.example/g01234/laws.FnExactDistanceOf", spec := "fnExactDistanceOf", unfollowed := true, recurses := true, plainKeys := false, apart := false, narrowed := true }
def FnExactDistanceOfUptoSaid : Prop := fnExactDistanceOfUptoRow.holds Try.pinned (OpenSpec.upto fnExactDistanceOfSpec)

/-- 'laws.FnExactSortAngles', WHERE WHAT IT READS IS OF BULK AT MOST 1048576: true; the input reads as it did. -/
def fnExactSortAnglesUptoRow : OpenClaim := { program := "ytpladfogajjnnaa", sum := "addc187ef95d64ef9b57f19e7217c7651ce2da6d9fb9720259a7c4c54f51d407", func := "loop.example/g01234/laws.FnExactSortAngles", spec := "fnExactSortAngles", unfollowed := true, recurses := true, plainKeys := false, apart := false, narrowed := true }
def FnExactSortAnglesUptoSaid : Prop := fnExactSortAnglesUptoRow.holds Try.pinned (OpenSpec.upto fnExactSortAnglesSpec)

/-- 'laws.FnExactExpansionOf', WHERE WHAT IT READS IS OF BULK AT MOST 1048576: true; the input reads as it did. -/
def fnExactExpansionOfUptoRow : OpenClaim := { program := "ytpladfogajjnnaa", sum := "addc187ef95d64ef9b57f19e7217c7651ce2da6d9fb9720259a7c4c54f51d407", func := "loop.example/g01234/laws.FnExactExpansionOf", spec := "fnExactExpansionOf", inPlace := ["internal/abi.NoEscape", "internal/bytealg.MakeNoZero"], unfollowed := true, recurses := true, plainKeys := false, apart := false, narrowed := true }
def FnExactExpansionOfUptoSaid : Prop := fnExactExpansionOfUptoRow.holds Try.pinned (OpenSpec.upto fnExactExpansionOfSpec)

end Rows
end Go.Proofs.Ytpladfogajjnnaa
