/-
  No cell of these rows narrows 'for every input' (looked for: loops, veiled, ifaces, maps, wideKeys, modest, calm, conditions, laid).
  DERIVED. THE GIVEN ROWS OF THIS SEAT. 12 by the template 'for every input the law returns true; each argument reads behind the call as it read before'; 0 by the template 'total and deterministic' (their statements: YtkpgfafmaoaefaaTotals.lean).
  GIVEN WITH THE SEED: the statements are not yours to turn. If you find one false, say at which input.
  Laid BY PROGRAM, IN A SANDBOX (cutbox-rows.mjs): the forced cells as the released guide's own fill.sh prints them over the translation f162b5c6af70b40b… (all of the seat's roots in one cut). By AI agents, Wed Nov 11 2026. No macro, syntax, notation, axiom, sorry.
-/
import Derived.Test.YtkpgfafmaoaefaaChecked
import GoSem.Claim
import GoSem.ClaimJoined
import GoSem.ClaimMapViews
import Derived.JoinedTies
import Derived.KernelRfl
namespace Go.Proofs.Ytkpgfafmaoaefaa
/- THE CELL 'sum', in the pinned program and in every row, IS THE sha256 OF THE DUMP (.gsa) THAT YtkpgfafmaoaefaaProg.lean LOADS. Nothing in Lean hashes anything: it is a label: what it is worth is what the hold of that sum in a sandbox is worth. -/
noncomputable def Try.pinned : Pinned := { name := "ytkpgfafmaoaefaa", sum := "f162b5c6af70b40be63333dec75df20d0a27c404dfe6d617242e72d89ab8753b", checked := Try.checked }
namespace Rows
def none {H : Type} : Left H := { results := [], args := [] }

/-- 'laws.FnExactMajorsOf': WHATEVER THE INPUT: true; the input reads as it did. -/
def fnExactMajorsOfSpec : ChangeSpec := { name := "fnExactMajorsOf", fn := fun _ => fun
  | [d] => { results := [.lit (.bool true)], args := [d] }
  | _ => none }
def fnExactMajorsOfRow : OpenClaim := { program := "ytkpgfafmaoaefaa", sum := "f162b5c6af70b40be63333dec75df20d0a27c404dfe6d617242e72d89ab8753b", func := "loop.example/g01234/laws.FnExactMajorsOf", spec := "fnExactMajorsOf", unfollowed := true, recurses := true, plainKeys := false, apart := false }
def FnExactMajorsOfSaid : Prop := fnExactMajorsOfRow.holds Try.pinned (OpenSpec.ofChange fnExactMajorsOfSpec)

/-- ITS FALSE NEIGHBOUR: 'it returns false'. Refute it at one input. -/
def fnExactMajorsOfWrong : ChangeSpec := { name := "fnExactMajorsOf", fn := fun _ => fun
  | [d] => { results := [.lit (.bool false)], args := [d] }
  | _ => none }
def FnExactMajorsOfWrongFalsely : Prop := fnExactMajorsOfRow.holds Try.pinned (OpenSpec.ofChange fnExactMajorsOfWrong)

/-- 'laws.FnExactConditionThatFails': WHATEVER THE INPUT: true; the input reads as it did. -/
def fnExactConditionThatFailsSpec : ChangeSpec := { name := "fnExactConditionThatFails", fn := fun _ => fun
  | [d] => { results := [.lit (.bool true)], args := [d] }
  | _ => none }
def fnExactConditionThatFailsRow : OpenClaim := { program := "ytkpgfafmaoaefaa", sum := "f162b5c6af70b40be63333dec75df20d0a27c404dfe6d617242e72d89ab8753b", func := "loop.example/g01234/laws.FnExactConditionThatFails", spec := "fnExactConditionThatFails", unfollowed := true, recurses := true, plainKeys := false, apart := false }
def FnExactConditionThatFailsSaid : Prop := fnExactConditionThatFailsRow.holds Try.pinned (OpenSpec.ofChange fnExactConditionThatFailsSpec)

/-- ITS FALSE NEIGHBOUR: 'it returns false'. Refute it at one input. -/
def fnExactConditionThatFailsWrong : ChangeSpec := { name := "fnExactConditionThatFails", fn := fun _ => fun
  | [d] => { results := [.lit (.bool false)], args := [d] }
  | _ => none }
def FnExactConditionThatFailsWrongFalsely : Prop := fnExactConditionThatFailsRow.holds Try.pinned (OpenSpec.ofChange fnExactConditionThatFailsWrong)

/-- 'laws.FnExactIsCarried': WHATEVER THE INPUT: true; the input reads as it did. -/
def fnExactIsCarriedSpec : ChangeSpec := { name := "fnExactIsCarried", fn := fun _ => fun
  | [d] => { results := [.lit (.bool true)], args := [d] }
  | _ => none }
def fnExactIsCarriedRow : OpenClaim := { program := "ytkpgfafmaoaefaa", sum := "f162b5c6af70b40be63333dec75df20d0a27c404dfe6d617242e72d89ab8753b", func := "loop.example/g01234/laws.FnExactIsCarried", spec := "fnExactIsCarried", unfollowed := true, recurses := true, plainKeys := false, apart := false }
def FnExactIsCarriedSaid : Prop := fnExactIsCarriedRow.holds Try.pinned (OpenSpec.ofChange fnExactIsCarriedSpec)

/-- ITS FALSE NEIGHBOUR: 'it returns false'. Refute it at one input. -/
def fnExactIsCarriedWrong : ChangeSpec := { name := "fnExactIsCarried", fn := fun _ => fun
  | [d] => { results := [.lit (.bool false)], args := [d] }
  | _ => none }
def FnExactIsCarriedWrongFalsely : Prop := fnExactIsCarriedRow.holds Try.pinned (OpenSpec.ofChange fnExactIsCarriedWrong)

/-- 'laws.FnExactLongestLeaf': WHATEVER THE INPUT: true; the input reads as it did. -/
def fnExactLongestLeafSpec : ChangeSpec := { name := "fnExactLongestLeaf", fn := fun _ => fun
  | [d] => { results := [.lit (.bool true)], args := [d] }
  | _ => none }
def fnExactLongestLeafRow : OpenClaim := { program := "ytkpgfafmaoaefaa", sum := "f162b5c6af70b40be63333dec75df20d0a27c404dfe6d617242e72d89ab8753b", func := "loop.example/g01234/laws.FnExactLongestLeaf", spec := "fnExactLongestLeaf", unfollowed := true, recurses := true, plainKeys := false, apart := false }
def FnExactLongestLeafSaid : Prop := fnExactLongestLeafRow.holds Try.pinned (OpenSpec.ofChange fnExactLongestLeafSpec)

/-- ITS FALSE NEIGHBOUR: 'it returns false'. Refute it at one input. -/
def fnExactLongestLeafWrong : ChangeSpec := { name := "fnExactLongestLeaf", fn := fun _ => fun
  | [d] => { results := [.lit (.bool false)], args := [d] }
  | _ => none }
def FnExactLongestLeafWrongFalsely : Prop := fnExactLongestLeafRow.holds Try.pinned (OpenSpec.ofChange fnExactLongestLeafWrong)

/-- 'laws.FnExactDistanceOf': WHATEVER THE INPUT: true; the input reads as it did. -/
def fnExactDistanceOfSpec : ChangeSpec := { name := "fnExactDistanceOf", fn := fun _ => fun
  | [d1, d2] => { results := [.lit (.bool true)], args := [d1, d2] }
  | _ => none }
def fnExactDistanceOfRow : OpenClaim := { program := "ytkpgfafmaoaefaa", sum := "f162b5c6af70b40be63333dec75df20d0a27c404dfe6d617242e72d89ab8753b", func := "loop.example/g01234/laws.FnExactDistanceOf", spec := "fnExactDistanceOf", unfollowed := true, recurses := true, plainKeys := false, apart := false }
def FnExactDistanceOfSaid : Prop := fnExactDistanceOfRow.holds Try.pinned (OpenSpec.ofChange fnExactDistanceOfSpec)

/-- ITS FALSE NEIGHBOUR: 'it returns false'. Refute it at one input. -/
def fnExactDistanceOfWrong : ChangeSpec := { name := "fnExactDistanceOf", fn := fun _ => fun
  | [d1, d2] => { results := [.lit (.bool false)], args := [d1, d2] }
  | _ => none }
def FnExactDistanceOfWrongFalsely : Prop := fnExactDistanceOfRow.holds Try.pinned (OpenSpec.ofChange fnExactDistanceOfWrong)

/-- 'laws.FnExactLeafLength': WHATEVER THE INPUT: true; the input reads as it did. -/
def fnExactLeafLengthSpec : ChangeSpec := { name := "fnExactLeafLength", fn := fun _ => fun
  | [d] => { results := [.lit (.bool true)], args := [d] }
  | _ => none }
def fnExactLeafLengthRow : OpenClaim := { program := "ytkpgfafmaoaefaa", sum := "f162b5c6af70b40be63333dec75df20d0a27c404dfe6d617242e72d89ab8753b", func := "loop.example/g01234/laws.FnExactLeafLength", spec := "fnExactLeafLength", unfollowed := true, recurses := true, plainKeys := false, apart := false }
def FnExactLeafLengthSaid : Prop := fnExactLeafLengthRow.holds Try.pinned (OpenSpec.ofChange fnExactLeafLengthSpec)

/-- ITS FALSE NEIGHBOUR: 'it returns false'. Refute it at one input. -/
def fnExactLeafLengthWrong : ChangeSpec := { name := "fnExactLeafLength", fn := fun _ => fun
  | [d] => { results := [.lit (.bool false)], args := [d] }
  | _ => none }
def FnExactLeafLengthWrongFalsely : Prop := fnExactLeafLengthRow.holds Try.pinned (OpenSpec.ofChange fnExactLeafLengthWrong)

/-- 'laws.FnExactPullBackPast': WHATEVER THE INPUT: true; the input reads as it did. -/
def fnExactPullBackPastSpec : ChangeSpec := { name := "fnExactPullBackPast", fn := fun _ => fun
  | [d1, d2] => { results := [.lit (.bool true)], args := [d1, d2] }
  | _ => none }
def fnExactPullBackPastRow : OpenClaim := { program := "ytkpgfafmaoaefaa", sum := "f162b5c6af70b40be63333dec75df20d0a27c404dfe6d617242e72d89ab8753b", func := "loop.example/g01234/laws.FnExactPullBackPast", spec := "fnExactPullBackPast", plainKeys := false, apart := false }
def FnExactPullBackPastSaid : Prop := fnExactPullBackPastRow.holds Try.pinned (OpenSpec.ofChange fnExactPullBackPastSpec)

/-- ITS FALSE NEIGHBOUR: 'it returns false'. Refute it at one input. -/
def fnExactPullBackPastWrong : ChangeSpec := { name := "fnExactPullBackPast", fn := fun _ => fun
  | [d1, d2] => { results := [.lit (.bool false)], args := [d1, d2] }
  | _ => none }
def FnExactPullBackPastWrongFalsely : Prop := fnExactPullBackPastRow.holds Try.pinned (OpenSpec.ofChange fnExactPullBackPastWrong)

/-- 'laws.FnExactIsLamination': WHATEVER THE INPUT: true; the input reads as it did. -/
def fnExactIsLaminationSpec : ChangeSpec := { name := "fnExactIsLamination", fn := fun _ => fun
  | [d] => { results := [.lit (.bool true)], args := [d] }
  | _ => none }
def fnExactIsLaminationRow : OpenClaim := { program := "ytkpgfafmaoaefaa", sum := "f162b5c6af70b40be63333dec75df20d0a27c404dfe6d617242e72d89ab8753b", func := "loop.example/g01234/laws.FnExactIsLamination", spec := "fnExactIsLamination", unfollowed := true, recurses := true, plainKeys := false, apart := false }
def FnExactIsLaminationSaid : Prop := fnExactIsLaminationRow.holds Try.pinned (OpenSpec.ofChange fnExactIsLaminationSpec)

/-- ITS FALSE NEIGHBOUR: 'it returns false'. Refute it at one input. -/
def fnExactIsLaminationWrong : ChangeSpec := { name := "fnExactIsLamination", fn := fun _ => fun
  | [d] => { results := [.lit (.bool false)], args := [d] }
  | _ => none }
def FnExactIsLaminationWrongFalsely : Prop := fnExactIsLaminationRow.holds Try.pinned (OpenSpec.ofChange fnExactIsLaminationWrong)

/-- 'laws.FnExactAddLeaf': WHATEVER THE INPUT: true; the input reads as it did. -/
def fnExactAddLeafSpec : ChangeSpec := { name := "fnExactAddLeaf", fn := fun _ => fun
  | [d1, d2] => { results := [.lit (.bool true)], args := [d1, d2] }
  | _ => none }
def fnExactAddLeafRow : OpenClaim := { program := "ytkpgfafmaoaefaa", sum := "f162b5c6af70b40be63333dec75df20d0a27c404dfe6d617242e72d89ab8753b", func := "loop.example/g01234/laws.FnExactAddLeaf", spec := "fnExactAddLeaf", unfollowed := true, recurses := true, plainKeys := false, apart := false }
def FnExactAddLeafSaid : Prop := fnExactAddLeafRow.holds Try.pinned (OpenSpec.ofChange fnExactAddLeafSpec)

/-- ITS FALSE NEIGHBOUR: 'it returns false'. Refute it at one input. -/
def fnExactAddLeafWrong : ChangeSpec := { name := "fnExactAddLeaf", fn := fun _ => fun
  | [d1, d2] => { results := [.lit (.bool false)], args := [d1, d2] }
  | _ => none }
def FnExactAddLeafWrongFalsely : Prop := fnExactAddLeafRow.holds Try.pinned (OpenSpec.ofChange fnExactAddLeafWrong)

/-- 'laws.FnExactSortAngles': WHATEVER THE INPUT: true; the input reads as it did. -/
def fnExactSortAnglesSpec : ChangeSpec := { name := "fnExactSortAngles", fn := fun _ => fun
  | [d] => { results := [.lit (.bool true)], args := [d] }
  | _ => none }
def fnExactSortAnglesRow : OpenClaim := { program := "ytkpgfafmaoaefaa", sum := "f162b5c6af70b40be63333dec75df20d0a27c404dfe6d617242e72d89ab8753b", func := "loop.example/g01234/laws.FnExactSortAngles", spec := "fnExactSortAngles", unfollowed := true, recurses := true, plainKeys := false, apart := false }
def FnExactSortAnglesSaid : Prop := fnExactSortAnglesRow.holds Try.pinned (OpenSpec.ofChange fnExactSortAnglesSpec)

/-- ITS FALSE NEIGHBOUR: 'it returns false'. Refute it at one input. -/
def fnExactSortAnglesWrong : ChangeSpec := { name := "fnExactSortAngles", fn := fun _ => fun
  | [d] => { results := [.lit (.bool false)], args := [d] }
  | _ => none }
def FnExactSortAnglesWrongFalsely : Prop := fnExactSortAnglesRow.holds Try.pinned (OpenSpec.ofChange fnExactSortAnglesWrong)

/-- 'laws.FnExactPolygonOf': WHATEVER THE INPUT: true; the input reads as it did. -/
def fnExactPolygonOfSpec : ChangeSpec := { name := "fnExactPolygonOf", fn := fun _ => fun
  | [d] => { results := [.lit (.bool true)], args := [d] }
  | _ => none }
def fnExactPolygonOfRow : OpenClaim := { program := "ytkpgfafmaoaefaa", sum := "f162b5c6af70b40be63333dec75df20d0a27c404dfe6d617242e72d89ab8753b", func := "loop.example/g01234/laws.FnExactPolygonOf", spec := "fnExactPolygonOf", unfollowed := true, recurses := true, plainKeys := false, apart := false }
def FnExactPolygonOfSaid : Prop := fnExactPolygonOfRow.holds Try.pinned (OpenSpec.ofChange fnExactPolygonOfSpec)

/-- ITS FALSE NEIGHBOUR: 'it returns false'. Refute it at one input. -/
def fnExactPolygonOfWrong : ChangeSpec := { name := "fnExactPolygonOf", fn := fun _ => fun
  | [d] => { results := [.lit (.bool false)], args := [d] }
  | _ => none }
def FnExactPolygonOfWrongFalsely : Prop := fnExactPolygonOfRow.holds Try.pinned (OpenSpec.ofChange fnExactPolygonOfWrong)

/-- 'laws.FnExactEndClasses': WHATEVER THE INPUT: true; the input reads as it did. -/
def fnExactEndClassesSpec : ChangeSpec := { name := "fnExactEndClasses", fn := fun _ => fun
  | [d] => { results := [.lit (.bool true)], args := [d] }
  | _ => none }
def fnExactEndClassesRow : OpenClaim := { program := "ytkpgfafmaoaefaa", sum := "f162b5c6af70b40be63333dec75df20d0a27c404dfe6d617242e72d89ab8753b", func := "loop.example/g01234/laws.FnExactEndClasses", spec := "fnExactEndClasses", unfollowed := true, recurses := true, plainKeys := false, apart := false }
def FnExactEndClassesSaid : Prop := fnExactEndClassesRow.holds Try.pinned (OpenSpec.ofChange fnExactEndClassesSpec)

/-- ITS FALSE NEIGHBOUR: 'it returns false'. Refute it at one input. -/
def fnExactEndClassesWrong : ChangeSpec := { name := "fnExactEndClasses", fn := fun _ => fun
  | [d] => { results := [.lit (.bool false)], args := [d] }
  | _ => none }
def FnExactEndClassesWrongFalsely : Prop := fnExactEndClassesRow.holds Try.pinned (OpenSpec.ofChange fnExactEndClassesWrong)

/- THE SECOND FORM. 'bulk': how many values and letters a reading holds, each counted each time it is reached (what is shared counts as often as it is met; a slice's spare places count too). A statement '..UptoSaid' is the law's where the arguments, and the package variables that the reading takes, are together of bulk at most 1048576: NARROWER than '..Said'. Prove '..Said' where nothing that the law and all that it calls make is longer than what came in: it says more and counts as full. Else prove '..UptoSaid'. A law counts once. -/
mutual
def uptoBulk {H : Type} : DataW H → Nat
  | .lit (.string bytes) => bytes.length + 1
  | .lit _ => 1
  | .nil => 1
  | .ptr d => uptoBulk d + 1
  | .slice elems spare => uptoBulkAll elems + uptoBulkAll spare + 1
  | .agg parts => uptoBulkAll parts + 1
  | .iface _ d => uptoBulk d + 1
  | .map entries => uptoBulkEntries entries + 1
  | .held _ => 1
def uptoBulkAll {H : Type} : List (DataW H) → Nat
  | [] => 0
  | d :: r => uptoBulk d + uptoBulkAll r
def uptoBulkEntries {H : Type} : List (Lit × DataW H) → Nat
  | [] => 0
  | x :: r => uptoBulkEntry x + uptoBulkEntries r
def uptoBulkEntry {H : Type} : Lit × DataW H → Nat
  | (.string bytes, d) => bytes.length + uptoBulk d + 1
  | (_, d) => uptoBulk d + 1
 end
def uptoSmall : (H : Type) → List (DataW H) → Bool := fun _ ds => decide (uptoBulkAll ds ≤ 1048576)
def OpenSpec.upto (s : _root_.Go.ChangeSpec) : _root_.Go.OpenSpec := { _root_.Go.OpenSpec.ofChange s with cond := some uptoSmall }

/-- 'laws.FnExactMajorsOf', WHERE WHAT IT READS IS OF BULK AT MOST 1048576: true; the input reads as it did. -/
def fnExactMajorsOfUptoRow : OpenClaim := { program := "ytkpgfafmaoaefaa", sum := "f162b5c6af70b40be63333dec75df20d0a27c404dfe6d617242e72d89ab8753b", func := "loop.example/g01234/laws.FnExactMajorsOf", spec := "fnExactMajorsOf", unfollowed := true, recurses := true, plainKeys := false, apart := false, narrowed := true }
def FnExactMajorsOfUptoSaid : Prop := fnExactMajorsOfUptoRow.holds Try.pinned (OpenSpec.upto fnExactMajorsOfSpec)

/-- 'laws.FnExactConditionThatFails', WHERE WHAT IT READS IS OF BULK AT MOST 1048576: true; the input reads as it did. -/
def fnExactConditionThatFailsUptoRow : OpenClaim := { program := "ytkpgfafmaoaefaa", sum := "f162b5c6af70b40be63333dec75df20d0a27c404dfe6d617242e72d89ab8753b", func := "loop.example/g01234/laws.FnExactConditionThatFails", spec := "fnExactConditionThatFails", unfollowed := true, recurses := true, plainKeys := false, apart := false, narrowed := true }
def FnExactConditionThatFailsUptoSaid : Prop := fnExactConditionThatFailsUptoRow.holds Try.pinned (OpenSpec.upto fnExactConditionThatFailsSpec)

/-- 'laws.FnExactIsCarried', WHERE WHAT IT READS IS OF BULK AT MOST 1048576: true; the input reads as it did. -/
def fnExactIsCarriedUptoRow : OpenClaim := { program := "ytkpgfafmaoaefaa", sum := "f162b5c6af70b40be63333dec75df20d0a27c404dfe6d617242e72d89ab8753b", func := "loop.example/g01234/laws.FnExactIsCarried", spec := "fnExactIsCarried", unfollowed := true, recurses := true, plainKeys := false, apart := false, narrowed := true }
def FnExactIsCarriedUptoSaid : Prop := fnExactIsCarriedUptoRow.holds Try.pinned (OpenSpec.upto fnExactIsCarriedSpec)

/-- 'laws.FnExactLongestLeaf', WHERE WHAT IT READS IS OF BULK AT MOST 1048576: true; the input reads as it did. -/
def fnExactLongestLeafUptoRow : OpenClaim := { program := "ytkpgfafmaoaefaa", sum := "f162b5c6af70b40be63333dec75df20d0a27c404dfe6d617242e72d89ab8753b", func := "loop.example/g01234/laws.FnExactLongestLeaf", spec := "fnExactLongestLeaf", unfollowed := true, recurses := true, plainKeys := false, apart := false, narrowed := true }
def FnExactLongestLeafUptoSaid : Prop := fnExactLongestLeafUptoRow.holds Try.pinned (OpenSpec.upto fnExactLongestLeafSpec)

/-- 'laws.FnExactDistanceOf', WHERE WHAT IT READS IS OF BULK AT MOST 1048576: true; the input reads as it did. -/
def fnExactDistanceOfUptoRow : OpenClaim := { program := "ytkpgfafmaoaefaa", sum := "f162b5c6af70b40be63333dec75df20d0a27c404dfe6d617242e72d89ab8753b", func := "loop.example/g01234/laws.FnExactDistanceOf", spec := "fnExactDistanceOf", unfollowed := true, recurses := true, plainKeys := false, apart := false, narrowed := true }
def FnExactDistanceOfUptoSaid : Prop := fnExactDistanceOfUptoRow.holds Try.pinned (OpenSpec.upto fnExactDistanceOfSpec)

/-- 'laws.FnExactLeafLength', WHERE WHAT IT READS IS OF BULK AT MOST 1048576: true; the input reads as it did. -/
def fnExactLeafLengthUptoRow : OpenClaim := { program := "ytkpgfafmaoaefaa", sum := "f162b5c6af70b40be63333dec75df20d0a27c404dfe6d617242e72d89ab8753b", func := "loop.example/g01234/laws.FnExactLeafLength", spec := "fnExactLeafLength", unfollowed := true, recurses := true, plainKeys := false, apart := false, narrowed := true }
def FnExactLeafLengthUptoSaid : Prop := fnExactLeafLengthUptoRow.holds Try.pinned (OpenSpec.upto fnExactLeafLengthSpec)

/-- 'laws.FnExactPullBackPast', WHERE WHAT IT READS IS OF BULK AT MOST 1048576: true; the input reads as it did. -/
def fnExactPullBackPastUptoRow : OpenClaim := { program := "ytkpgfafmaoaefaa", sum := "f162b5c6af70b40be63333dec75df20d0a27c404dfe6d617242e72d89ab8753b", func := "loop.example/g01234/laws.FnExactPullBackPast", spec := "fnExactPullBackPast", plainKeys := false, apart := false, narrowed := true }
def FnExactPullBackPastUptoSaid : Prop := fnExactPullBackPastUptoRow.holds Try.pinned (OpenSpec.upto fnExactPullBackPastSpec)

/-- 'laws.FnExactIsLamination', WHERE WHAT IT READS IS OF BULK AT MOST 1048576: true; the input reads as it did. -/
def fnExactIsLaminationUptoRow : OpenClaim := { program := "ytkpgfafmaoaefaa", sum := "f162b5c6af70b40be63333dec75df20d0a27c404dfe6d617242e72d89ab8753b", func := "loop.example/g01234/laws.FnExactIsLamination", spec := "fnExactIsLamination", unfollowed := true, recurses := true, plainKeys := false, apart := false, narrowed := true }
def FnExactIsLaminationUptoSaid : Prop := fnExactIsLaminationUptoRow.holds Try.pinned (OpenSpec.upto fnExactIsLaminationSpec)

/-- 'laws.FnExactAddLeaf', WHERE WHAT IT READS IS OF BULK AT MOST 1048576: true; the input reads as it did. -/
def fnExactAddLeafUptoRow : OpenClaim := { program := "ytkpgfafmaoaefaa", sum := "f162b5c6af70b40be63333dec75df20d0a27c404dfe6d617242e72d89ab8753b", func := "loop.example/g01234/laws.FnExactAddLeaf", spec := "fnExactAddLeaf", unfollowed := true, recurses := true, plainKeys := false, apart := false, narrowed := true }
def FnExactAddLeafUptoSaid : Prop := fnExactAddLeafUptoRow.holds Try.pinned (OpenSpec.upto fnExactAddLeafSpec)

/-- 'laws.FnExactSortAngles', WHERE WHAT IT READS IS OF BULK AT MOST 1048576: true; the input reads as it did. -/
def fnExactSortAnglesUptoRow : OpenClaim := { program := "ytkpgfafmaoaefaa", sum := "f162b5c6af70b40be63333dec75df20d0a27c404dfe6d617242e72d89ab8753b", func := "loop.example/g01234/laws.FnExactSortAngles", spec := "fnExactSortAngles", unfollowed := true, recurses := true, plainKeys := false, apart := false, narrowed := true }
def FnExactSortAnglesUptoSaid : Prop := fnExactSortAnglesUptoRow.holds Try.pinned (OpenSpec.upto fnExactSortAnglesSpec)

/-- 'laws.FnExactPolygonOf', WHERE WHAT IT READS IS OF BULK AT MOST 1048576: true; the input reads as it did. -/
def fnExactPolygonOfUptoRow : OpenClaim := { program := "ytkpgfafmaoaefaa", sum := "f162b5c6af70b40be63333dec75df20d0a27c404dfe6d617242e72d89ab8753b", func := "loop.example/g01234/laws.FnExactPolygonOf", spec := "fnExactPolygonOf", unfollowed := true, recurses := true, plainKeys := false, apart := false, narrowed := true }
def FnExactPolygonOfUptoSaid : Prop := fnExactPolygonOfUptoRow.holds Try.pinned (OpenSpec.upto fnExactPolygonOfSpec)

/-- 'laws.FnExactEndClasses', WHERE WHAT IT READS IS OF BULK AT MOST 1048576: true; the input reads as it did. -/
def fnExactEndClassesUptoRow : OpenClaim := { program := "ytkpgfafmaoaefaa", sum := "f162b5c6af70b40be63333dec75df20d0a27c404dfe6d617242e72d89ab8753b", func := "loop.example/g01234/laws.FnExactEndClasses", spec := "fnExactEndClasses", unfollowed := true, recurses := true, plainKeys := false, apart := false, narrowed := true }
def FnExactEndClassesUptoSaid : Prop := fnExactEndClassesUptoRow.holds Try.pinned (OpenSpec.upto fnExactEndClassesSpec)

end Rows
end Go.Proofs.Ytkpgfafmaoaefaa
