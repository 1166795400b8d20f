/-
  No cell of these rows narrows 'for every input' (looked for: loops, veiled, ifaces, maps, wideKeys, modest, calm, conditions, laid).
  DERIVED. THE GIVEN ROWS OF THIS SEAT. 12 by the template 'for every input the law returns true; each argument reads behind the call as it read before'; 0 by the template 'total and deterministic' (their statements: YtillliangojdkaaTotals.lean).
  GIVEN WITH THE SEED: the statements are not yours to turn. If you find one false, say at which input.
  Laid BY PROGRAM, IN A SANDBOX (cutbox-rows.mjs): the forced cells as the released guide's own fill.sh prints them over the translation ddb2469f64ffe340… (all of the seat's roots in one cut). By AI agents, Wed Nov 11 2026. No macro, syntax, notation, axiom, sorry.
-/
import Derived.Test.YtillliangojdkaaChecked
import GoSem.Claim
import GoSem.ClaimJoined
import GoSem.ClaimMapViews
import Derived.JoinedTies
import Derived.KernelRfl
namespace Go.Proofs.Ytillliangojdkaa
/- THE CELL 'sum', in the pinned program and in every row, IS THE sha256 OF THE DUMP (.gsa) THAT YtillliangojdkaaProg.lean LOADS. Nothing in Lean hashes anything: it is a label: what it is worth is what the hold of that sum in a sandbox is worth. -/
noncomputable def Try.pinned : Pinned := { name := "ytillliangojdkaa", sum := "ddb2469f64ffe3400c6522151f4bdede439178d3f6e1d15d24de274981b11f0e", checked := Try.checked }
namespace Rows
def none {H : Type} : Left H := { results := [], args := [] }

/-- 'laws.FnExactIsLamination': WHATEVER THE INPUT: true; the input reads as it did. -/
def fnExactIsLaminationSpec : ChangeSpec := { name := "fnExactIsLamination", fn := fun _ => fun
  | [d] => { results := [.lit (.bool true)], args := [d] }
  | _ => none }
def fnExactIsLaminationRow : OpenClaim := { program := "ytillliangojdkaa", sum := "ddb2469f64ffe3400c6522151f4bdede439178d3f6e1d15d24de274981b11f0e", func := "loop.example/g01234/laws.FnExactIsLamination", spec := "fnExactIsLamination", unfollowed := true, recurses := true, plainKeys := false, apart := false }
def FnExactIsLaminationSaid : Prop := fnExactIsLaminationRow.holds Try.pinned (OpenSpec.ofChange fnExactIsLaminationSpec)

/-- ITS FALSE NEIGHBOUR: 'it returns false'. Refute it at one input. -/
def fnExactIsLaminationWrong : ChangeSpec := { name := "fnExactIsLamination", fn := fun _ => fun
  | [d] => { results := [.lit (.bool false)], args := [d] }
  | _ => none }
def FnExactIsLaminationWrongFalsely : Prop := fnExactIsLaminationRow.holds Try.pinned (OpenSpec.ofChange fnExactIsLaminationWrong)

/-- 'laws.FnExactAnglesOfPeriod': WHATEVER THE INPUT: true; the input reads as it did. -/
def fnExactAnglesOfPeriodSpec : ChangeSpec := { name := "fnExactAnglesOfPeriod", fn := fun _ => fun
  | [d] => { results := [.lit (.bool true)], args := [d] }
  | _ => none }
def fnExactAnglesOfPeriodRow : OpenClaim := { program := "ytillliangojdkaa", sum := "ddb2469f64ffe3400c6522151f4bdede439178d3f6e1d15d24de274981b11f0e", func := "loop.example/g01234/laws.FnExactAnglesOfPeriod", spec := "fnExactAnglesOfPeriod", plainKeys := false, apart := false }
def FnExactAnglesOfPeriodSaid : Prop := fnExactAnglesOfPeriodRow.holds Try.pinned (OpenSpec.ofChange fnExactAnglesOfPeriodSpec)

/-- ITS FALSE NEIGHBOUR: 'it returns false'. Refute it at one input. -/
def fnExactAnglesOfPeriodWrong : ChangeSpec := { name := "fnExactAnglesOfPeriod", fn := fun _ => fun
  | [d] => { results := [.lit (.bool false)], args := [d] }
  | _ => none }
def FnExactAnglesOfPeriodWrongFalsely : Prop := fnExactAnglesOfPeriodRow.holds Try.pinned (OpenSpec.ofChange fnExactAnglesOfPeriodWrong)

/-- 'laws.FnExactPairsOfPeriod': WHATEVER THE INPUT: true; the input reads as it did. -/
def fnExactPairsOfPeriodSpec : ChangeSpec := { name := "fnExactPairsOfPeriod", fn := fun _ => fun
  | [d] => { results := [.lit (.bool true)], args := [d] }
  | _ => none }
def fnExactPairsOfPeriodRow : OpenClaim := { program := "ytillliangojdkaa", sum := "ddb2469f64ffe3400c6522151f4bdede439178d3f6e1d15d24de274981b11f0e", func := "loop.example/g01234/laws.FnExactPairsOfPeriod", spec := "fnExactPairsOfPeriod", unfollowed := true, recurses := true, plainKeys := false, apart := false }
def FnExactPairsOfPeriodSaid : Prop := fnExactPairsOfPeriodRow.holds Try.pinned (OpenSpec.ofChange fnExactPairsOfPeriodSpec)

/-- ITS FALSE NEIGHBOUR: 'it returns false'. Refute it at one input. -/
def fnExactPairsOfPeriodWrong : ChangeSpec := { name := "fnExactPairsOfPeriod", fn := fun _ => fun
  | [d] => { results := [.lit (.bool false)], args := [d] }
  | _ => none }
def FnExactPairsOfPeriodWrongFalsely : Prop := fnExactPairsOfPeriodRow.holds Try.pinned (OpenSpec.ofChange fnExactPairsOfPeriodWrong)

/-- 'laws.FnExactPartnerOf': WHATEVER THE INPUT: true; the input reads as it did. -/
def fnExactPartnerOfSpec : ChangeSpec := { name := "fnExactPartnerOf", fn := fun _ => fun
  | [d] => { results := [.lit (.bool true)], args := [d] }
  | _ => none }
def fnExactPartnerOfRow : OpenClaim := { program := "ytillliangojdkaa", sum := "ddb2469f64ffe3400c6522151f4bdede439178d3f6e1d15d24de274981b11f0e", func := "loop.example/g01234/laws.FnExactPartnerOf", spec := "fnExactPartnerOf", plainKeys := false, apart := false }
def FnExactPartnerOfSaid : Prop := fnExactPartnerOfRow.holds Try.pinned (OpenSpec.ofChange fnExactPartnerOfSpec)

/-- ITS FALSE NEIGHBOUR: 'it returns false'. Refute it at one input. -/
def fnExactPartnerOfWrong : ChangeSpec := { name := "fnExactPartnerOf", fn := fun _ => fun
  | [d] => { results := [.lit (.bool false)], args := [d] }
  | _ => none }
def FnExactPartnerOfWrongFalsely : Prop := fnExactPartnerOfRow.holds Try.pinned (OpenSpec.ofChange fnExactPartnerOfWrong)

/-- 'laws.FnExactPairOf': WHATEVER THE INPUT: true; the input reads as it did. -/
def fnExactPairOfSpec : ChangeSpec := { name := "fnExactPairOf", fn := fun _ => fun
  | [d] => { results := [.lit (.bool true)], args := [d] }
  | _ => none }
def fnExactPairOfRow : OpenClaim := { program := "ytillliangojdkaa", sum := "ddb2469f64ffe3400c6522151f4bdede439178d3f6e1d15d24de274981b11f0e", func := "loop.example/g01234/laws.FnExactPairOf", spec := "fnExactPairOf", plainKeys := false, apart := false }
def FnExactPairOfSaid : Prop := fnExactPairOfRow.holds Try.pinned (OpenSpec.ofChange fnExactPairOfSpec)

/-- ITS FALSE NEIGHBOUR: 'it returns false'. Refute it at one input. -/
def fnExactPairOfWrong : ChangeSpec := { name := "fnExactPairOf", fn := fun _ => fun
  | [d] => { results := [.lit (.bool false)], args := [d] }
  | _ => none }
def FnExactPairOfWrongFalsely : Prop := fnExactPairOfRow.holds Try.pinned (OpenSpec.ofChange fnExactPairOfWrong)

/-- 'laws.FnExactWidthOf': WHATEVER THE INPUT: true; the input reads as it did. -/
def fnExactWidthOfSpec : ChangeSpec := { name := "fnExactWidthOf", fn := fun _ => fun
  | [d] => { results := [.lit (.bool true)], args := [d] }
  | _ => none }
def fnExactWidthOfRow : OpenClaim := { program := "ytillliangojdkaa", sum := "ddb2469f64ffe3400c6522151f4bdede439178d3f6e1d15d24de274981b11f0e", func := "loop.example/g01234/laws.FnExactWidthOf", spec := "fnExactWidthOf", plainKeys := false, apart := false }
def FnExactWidthOfSaid : Prop := fnExactWidthOfRow.holds Try.pinned (OpenSpec.ofChange fnExactWidthOfSpec)

/-- ITS FALSE NEIGHBOUR: 'it returns false'. Refute it at one input. -/
def fnExactWidthOfWrong : ChangeSpec := { name := "fnExactWidthOf", fn := fun _ => fun
  | [d] => { results := [.lit (.bool false)], args := [d] }
  | _ => none }
def FnExactWidthOfWrongFalsely : Prop := fnExactWidthOfRow.holds Try.pinned (OpenSpec.ofChange fnExactWidthOfWrong)

/-- 'laws.FnExactIsSatellite': WHATEVER THE INPUT: true; the input reads as it did. -/
def fnExactIsSatelliteSpec : ChangeSpec := { name := "fnExactIsSatellite", fn := fun _ => fun
  | [d] => { results := [.lit (.bool true)], args := [d] }
  | _ => none }
def fnExactIsSatelliteRow : OpenClaim := { program := "ytillliangojdkaa", sum := "ddb2469f64ffe3400c6522151f4bdede439178d3f6e1d15d24de274981b11f0e", func := "loop.example/g01234/laws.FnExactIsSatellite", spec := "fnExactIsSatellite", unfollowed := true, recurses := true, plainKeys := false, apart := false }
def FnExactIsSatelliteSaid : Prop := fnExactIsSatelliteRow.holds Try.pinned (OpenSpec.ofChange fnExactIsSatelliteSpec)

/-- ITS FALSE NEIGHBOUR: 'it returns false'. Refute it at one input. -/
def fnExactIsSatelliteWrong : ChangeSpec := { name := "fnExactIsSatellite", fn := fun _ => fun
  | [d] => { results := [.lit (.bool false)], args := [d] }
  | _ => none }
def FnExactIsSatelliteWrongFalsely : Prop := fnExactIsSatelliteRow.holds Try.pinned (OpenSpec.ofChange fnExactIsSatelliteWrong)

/-- 'laws.FnExactWakesAround': WHATEVER THE INPUT: true; the input reads as it did. -/
def fnExactWakesAroundSpec : ChangeSpec := { name := "fnExactWakesAround", fn := fun _ => fun
  | [d1, d2] => { results := [.lit (.bool true)], args := [d1, d2] }
  | _ => none }
def fnExactWakesAroundRow : OpenClaim := { program := "ytillliangojdkaa", sum := "ddb2469f64ffe3400c6522151f4bdede439178d3f6e1d15d24de274981b11f0e", func := "loop.example/g01234/laws.FnExactWakesAround", spec := "fnExactWakesAround", unfollowed := true, recurses := true, plainKeys := false, apart := false }
def FnExactWakesAroundSaid : Prop := fnExactWakesAroundRow.holds Try.pinned (OpenSpec.ofChange fnExactWakesAroundSpec)

/-- ITS FALSE NEIGHBOUR: 'it returns false'. Refute it at one input. -/
def fnExactWakesAroundWrong : ChangeSpec := { name := "fnExactWakesAround", fn := fun _ => fun
  | [d1, d2] => { results := [.lit (.bool false)], args := [d1, d2] }
  | _ => none }
def FnExactWakesAroundWrongFalsely : Prop := fnExactWakesAroundRow.holds Try.pinned (OpenSpec.ofChange fnExactWakesAroundWrong)

/-- 'laws.FnExactParentOf': WHATEVER THE INPUT: true; the input reads as it did. -/
def fnExactParentOfSpec : ChangeSpec := { name := "fnExactParentOf", fn := fun _ => fun
  | [d] => { results := [.lit (.bool true)], args := [d] }
  | _ => none }
def fnExactParentOfRow : OpenClaim := { program := "ytillliangojdkaa", sum := "ddb2469f64ffe3400c6522151f4bdede439178d3f6e1d15d24de274981b11f0e", func := "loop.example/g01234/laws.FnExactParentOf", spec := "fnExactParentOf", unfollowed := true, recurses := true, plainKeys := false, apart := false }
def FnExactParentOfSaid : Prop := fnExactParentOfRow.holds Try.pinned (OpenSpec.ofChange fnExactParentOfSpec)

/-- ITS FALSE NEIGHBOUR: 'it returns false'. Refute it at one input. -/
def fnExactParentOfWrong : ChangeSpec := { name := "fnExactParentOf", fn := fun _ => fun
  | [d] => { results := [.lit (.bool false)], args := [d] }
  | _ => none }
def FnExactParentOfWrongFalsely : Prop := fnExactParentOfRow.holds Try.pinned (OpenSpec.ofChange fnExactParentOfWrong)

/-- 'laws.FnExactDepthOf': WHATEVER THE INPUT: true; the input reads as it did. -/
def fnExactDepthOfSpec : ChangeSpec := { name := "fnExactDepthOf", fn := fun _ => fun
  | [d] => { results := [.lit (.bool true)], args := [d] }
  | _ => none }
def fnExactDepthOfRow : OpenClaim := { program := "ytillliangojdkaa", sum := "ddb2469f64ffe3400c6522151f4bdede439178d3f6e1d15d24de274981b11f0e", func := "loop.example/g01234/laws.FnExactDepthOf", spec := "fnExactDepthOf", unfollowed := true, recurses := true, plainKeys := false, apart := false }
def FnExactDepthOfSaid : Prop := fnExactDepthOfRow.holds Try.pinned (OpenSpec.ofChange fnExactDepthOfSpec)

/-- ITS FALSE NEIGHBOUR: 'it returns false'. Refute it at one input. -/
def fnExactDepthOfWrong : ChangeSpec := { name := "fnExactDepthOf", fn := fun _ => fun
  | [d] => { results := [.lit (.bool false)], args := [d] }
  | _ => none }
def FnExactDepthOfWrongFalsely : Prop := fnExactDepthOfRow.holds Try.pinned (OpenSpec.ofChange fnExactDepthOfWrong)

/-- 'laws.FnExactArePairsCrossing': WHATEVER THE INPUT: true; the input reads as it did. -/
def fnExactArePairsCrossingSpec : ChangeSpec := { name := "fnExactArePairsCrossing", fn := fun _ => fun
  | [d1, d2] => { results := [.lit (.bool true)], args := [d1, d2] }
  | _ => none }
def fnExactArePairsCrossingRow : OpenClaim := { program := "ytillliangojdkaa", sum := "ddb2469f64ffe3400c6522151f4bdede439178d3f6e1d15d24de274981b11f0e", func := "loop.example/g01234/laws.FnExactArePairsCrossing", spec := "fnExactArePairsCrossing", plainKeys := false, apart := false }
def FnExactArePairsCrossingSaid : Prop := fnExactArePairsCrossingRow.holds Try.pinned (OpenSpec.ofChange fnExactArePairsCrossingSpec)

/-- ITS FALSE NEIGHBOUR: 'it returns false'. Refute it at one input. -/
def fnExactArePairsCrossingWrong : ChangeSpec := { name := "fnExactArePairsCrossing", fn := fun _ => fun
  | [d1, d2] => { results := [.lit (.bool false)], args := [d1, d2] }
  | _ => none }
def FnExactArePairsCrossingWrongFalsely : Prop := fnExactArePairsCrossingRow.holds Try.pinned (OpenSpec.ofChange fnExactArePairsCrossingWrong)

/-- 'laws.FnExactCountSatellites': WHATEVER THE INPUT: true; the input reads as it did. -/
def fnExactCountSatellitesSpec : ChangeSpec := { name := "fnExactCountSatellites", fn := fun _ => fun
  | [d] => { results := [.lit (.bool true)], args := [d] }
  | _ => none }
def fnExactCountSatellitesRow : OpenClaim := { program := "ytillliangojdkaa", sum := "ddb2469f64ffe3400c6522151f4bdede439178d3f6e1d15d24de274981b11f0e", func := "loop.example/g01234/laws.FnExactCountSatellites", spec := "fnExactCountSatellites", unfollowed := true, recurses := true, plainKeys := false, apart := false }
def FnExactCountSatellitesSaid : Prop := fnExactCountSatellitesRow.holds Try.pinned (OpenSpec.ofChange fnExactCountSatellitesSpec)

/-- ITS FALSE NEIGHBOUR: 'it returns false'. Refute it at one input. -/
def fnExactCountSatellitesWrong : ChangeSpec := { name := "fnExactCountSatellites", fn := fun _ => fun
  | [d] => { results := [.lit (.bool false)], args := [d] }
  | _ => none }
def FnExactCountSatellitesWrongFalsely : Prop := fnExactCountSatellitesRow.holds Try.pinned (OpenSpec.ofChange fnExactCountSatellitesWrong)

/- THE SECOND FORM. 'bulk': how many values and letters a reading holds, each counted each time it is reached (what is shared counts as often as it is met; a slice's spare places count too). A statement '..UptoSaid' is the law's where the arguments, and the package variables that the reading takes, are together of bulk at most 1048576: NARROWER than '..Said'. Prove '..Said' where nothing that the law and all that it calls make is longer than what came in: it says more and counts as full. Else prove '..UptoSaid'. A law counts once. -/
mutual
def uptoBulk {H : Type} : DataW H → Nat
  | .lit (.string bytes) => bytes.length + 1
  | .lit _ => 1
  | .nil => 1
  | .ptr d => uptoBulk d + 1
  | .slice elems spare => uptoBulkAll elems + uptoBulkAll spare + 1
  | .agg parts => uptoBulkAll parts + 1
  | .iface _ d => uptoBulk d + 1
  | .map entries => uptoBulkEntries entries + 1
  | .held _ => 1
def uptoBulkAll {H : Type} : List (DataW H) → Nat
  | [] => 0
  | d :: r => uptoBulk d + uptoBulkAll r
def uptoBulkEntries {H : Type} : List (Lit × DataW H) → Nat
  | [] => 0
  | x :: r => uptoBulkEntry x + uptoBulkEntries r
def uptoBulkEntry {H : Type} : Lit × DataW H → Nat
  | (.string bytes, d) => bytes.length + uptoBulk d + 1
  | (_, d) => uptoBulk d + 1
 end
def uptoSmall : (H : Type) → List (DataW H) → Bool := fun _ ds => decide (uptoBulkAll ds ≤ 1048576)
def OpenSpec.upto (s : _root_.Go.ChangeSpec) : _root_.Go.OpenSpec := { _root_.Go.OpenSpec.ofChange s with cond := some uptoSmall }

/-- 'laws.FnExactIsLamination', WHERE WHAT IT READS IS OF BULK AT MOST 1048576: true; the input reads as it did. -/
def fnExactIsLaminationUptoRow : OpenClaim := { program := "ytillliangojdkaa", sum := "ddb2469f64ffe3400c6522151f4bdede439178d3f6e1d15d24de274981b11f0e", func := "loop.example/g01234/laws.FnExactIsLamination", spec := "fnExactIsLamination", unfollowed := true, recurses := true, plainKeys := false, apart := false, narrowed := true }
def FnExactIsLaminationUptoSaid : Prop := fnExactIsLaminationUptoRow.holds Try.pinned (OpenSpec.upto fnExactIsLaminationSpec)

/-- 'laws.FnExactAnglesOfPeriod', WHERE WHAT IT READS IS OF BULK AT MOST 1048576: true; the input reads as it did. -/
def fnExactAnglesOfPeriodUptoRow : OpenClaim := { program := "ytillliangojdkaa", sum := "ddb2469f64ffe3400c6522151f4bdede439178d3f6e1d15d24de274981b11f0e", func := "loop.example/g01234/laws.FnExactAnglesOfPeriod", spec := "fnExactAnglesOfPeriod", plainKeys := false, apart := false, narrowed := true }
def FnExactAnglesOfPeriodUptoSaid : Prop := fnExactAnglesOfPeriodUptoRow.holds Try.pinned (OpenSpec.upto fnExactAnglesOfPeriodSpec)

/-- 'laws.FnExactPairsOfPeriod', WHERE WHAT IT READS IS OF BULK AT MOST 1048576: true; the input reads as it did. -/
def fnExactPairsOfPeriodUptoRow : OpenClaim := { program := "ytillliangojdkaa", sum := "ddb2469f64ffe3400c6522151f4bdede439178d3f6e1d15d24de274981b11f0e", func := "loop.example/g01234/laws.FnExactPairsOfPeriod", spec := "fnExactPairsOfPeriod", unfollowed := true, recurses := true, plainKeys := false, apart := false, narrowed := true }
def FnExactPairsOfPeriodUptoSaid : Prop := fnExactPairsOfPeriodUptoRow.holds Try.pinned (OpenSpec.upto fnExactPairsOfPeriodSpec)

/-- 'laws.FnExactPartnerOf', WHERE WHAT IT READS IS OF BULK AT MOST 1048576: true; the input reads as it did. -/
def fnExactPartnerOfUptoRow : OpenClaim := { program := "ytillliangojdkaa", sum := "ddb2469f64ffe3400c6522151f4bdede439178d3f6e1d15d24de274981b11f0e", func := "loop.example/g01234/laws.FnExactPartnerOf", spec := "fnExactPartnerOf", plainKeys := false, apart := false, narrowed := true }
def FnExactPartnerOfUptoSaid : Prop := fnExactPartnerOfUptoRow.holds Try.pinned (OpenSpec.upto fnExactPartnerOfSpec)

/-- 'laws.FnExactPairOf', WHERE WHAT IT READS IS OF BULK AT MOST 1048576: true; the input reads as it did. -/
def fnExactPairOfUptoRow : OpenClaim := { program := "ytillliangojdkaa", sum := "ddb2469f64ffe3400c6522151f4bdede439178d3f6e1d15d24de274981b11f0e", func := "loop.example/g01234/laws.FnExactPairOf", spec := "fnExactPairOf", plainKeys := false, apart := false, narrowed := true }
def FnExactPairOfUptoSaid : Prop := fnExactPairOfUptoRow.holds Try.pinned (OpenSpec.upto fnExactPairOfSpec)

/-- 'laws.FnExactWidthOf', WHERE WHAT IT READS IS OF BULK AT MOST 1048576: true; the input reads as it did. -/
def fnExactWidthOfUptoRow : OpenClaim := { program := "ytillliangojdkaa", sum := "ddb2469f64ffe3400c6522151f4bdede439178d3f6e1d15d24de274981b11f0e", func := "loop.example/g01234/laws.FnExactWidthOf", spec := "fnExactWidthOf", plainKeys := false, apart := false, narrowed := true }
def FnExactWidthOfUptoSaid : Prop := fnExactWidthOfUptoRow.holds Try.pinned (OpenSpec.upto fnExactWidthOfSpec)

/-- 'laws.FnExactIsSatellite', WHERE WHAT IT READS IS OF BULK AT MOST 1048576: true; the input reads as it did. -/
def fnExactIsSatelliteUptoRow : OpenClaim := { program := "ytillliangojdkaa", sum := "ddb2469f64ffe3400c6522151f4bdede439178d3f6e1d15d24de274981b11f0e", func := "loop.example/g01234/laws.FnExactIsSatellite", spec := "fnExactIsSatellite", unfollowed := true, recurses := true, plainKeys := false, apart := false, narrowed := true }
def FnExactIsSatelliteUptoSaid : Prop := fnExactIsSatelliteUptoRow.holds Try.pinned (OpenSpec.upto fnExactIsSatelliteSpec)

/-- 'laws.FnExactWakesAround', WHERE WHAT IT READS IS OF BULK AT MOST 1048576: true; the input reads as it did. -/
def fnExactWakesAroundUptoRow : OpenClaim := { program := "ytillliangojdkaa", sum := "ddb2469f64ffe3400c6522151f4bdede439178d3f6e1d15d24de274981b11f0e", func := "loop.example/g01234/laws.FnExactWakesAround", spec := "fnExactWakesAround", unfollowed := true, recurses := true, plainKeys := false, apart := false, narrowed := true }
def FnExactWakesAroundUptoSaid : Prop := fnExactWakesAroundUptoRow.holds Try.pinned (OpenSpec.upto fnExactWakesAroundSpec)

/-- 'laws.FnExactParentOf', WHERE WHAT IT READS IS OF BULK AT MOST 1048576: true; the input reads as it did. -/
def fnExactParentOfUptoRow : OpenClaim := { program := "ytillliangojdkaa", sum := "ddb2469f64ffe3400c6522151f4bdede439178d3f6e1d15d24de274981b11f0e", func := "loop.example/g01234/laws.FnExactParentOf", spec := "fnExactParentOf", unfollowed := true, recurses := true, plainKeys := false, apart := false, narrowed := true }
def FnExactParentOfUptoSaid : Prop := fnExactParentOfUptoRow.holds Try.pinned (OpenSpec.upto fnExactParentOfSpec)

/-- 'laws.FnExactDepthOf', WHERE WHAT IT READS IS OF BULK AT MOST 1048576: true; the input reads as it did. -/
def fnExactDepthOfUptoRow : OpenClaim := { program := "ytillliangojdkaa", sum := "ddb2469f64ffe3400c6522151f4bdede439178d3f6e1d15d24de274981b11f0e", func := "loop.example/g01234/laws.FnExactDepthOf", spec := "fnExactDepthOf", unfollowed := true, recurses := true, plainKeys := false, apart := false, narrowed := true }
def FnExactDepthOfUptoSaid : Prop := fnExactDepthOfUptoRow.holds Try.pinned (OpenSpec.upto fnExactDepthOfSpec)

/-- 'laws.FnExactArePairsCrossing', WHERE WHAT IT READS IS OF BULK AT MOST 1048576: true; the input reads as it did. -/
def fnExactArePairsCrossingUptoRow : OpenClaim := { program := "ytillliangojdkaa", sum := "ddb2469f64ffe3400c6522151f4bdede439178d3f6e1d15d24de274981b11f0e", func := "loop.example/g01234/laws.FnExactArePairsCrossing", spec := "fnExactArePairsCrossing", plainKeys := false, apart := false, narrowed := true }
def FnExactArePairsCrossingUptoSaid : Prop := fnExactArePairsCrossingUptoRow.holds Try.pinned (OpenSpec.upto fnExactArePairsCrossingSpec)

/-- 'laws.FnExactCountSatellites', WHERE WHAT IT READS IS OF BULK AT MOST 1048576: true; the input reads as it did. -/
def fnExactCountSatellitesUptoRow : OpenClaim := { program := "ytillliangojdkaa", sum := "ddb2469f64ffe3400c6522151f4bdede439178d3f6e1d15d24de274981b11f0e", func := "loop.example/g01234/laws.FnExactCountSatellites", spec := "fnExactCountSatellites", unfollowed := true, recurses := true, plainKeys := false, apart := false, narrowed := true }
def FnExactCountSatellitesUptoSaid : Prop := fnExactCountSatellitesUptoRow.holds Try.pinned (OpenSpec.upto fnExactCountSatellitesSpec)

end Rows
end Go.Proofs.Ytillliangojdkaa
