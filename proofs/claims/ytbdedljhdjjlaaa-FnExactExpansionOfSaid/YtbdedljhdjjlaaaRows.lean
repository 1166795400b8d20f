/-
  No cell of these rows narrows 'for every input' (looked for: loops, veiled, ifaces, maps, wideKeys, modest, calm, conditions, laid).
  DERIVED. THE GIVEN ROWS OF THIS SEAT. 11 by the template 'for every input the law returns true; each argument reads behind the call as it read before'; 0 by the template 'total and deterministic' (their statements: YtbdedljhdjjlaaaTotals.lean).
  GIVEN WITH THE SEED: the statements are not yours to turn. If you find one false, say at which input.
  Laid BY PROGRAM, IN A SANDBOX (cutbox-rows.mjs): the forced cells as the released guide's own fill.sh prints them over the translation ee4c48baf1462c15… (all of the seat's roots in one cut). By AI agents, Wed Nov 11 2026. No macro, syntax, notation, axiom, sorry.
-/
import Derived.Test.YtbdedljhdjjlaaaChecked
import GoSem.Claim
import GoSem.ClaimJoined
import GoSem.ClaimMapViews
import Derived.JoinedTies
import Derived.KernelRfl
namespace Go.Proofs.Ytbdedljhdjjlaaa
/- THE CELL 'sum', in the pinned program and in every row, IS THE sha256 OF THE DUMP (.gsa) THAT YtbdedljhdjjlaaaProg.lean LOADS. Nothing in Lean hashes anything: it is a label: what it is worth is what the hold of that sum in a sandbox is worth. -/
noncomputable def Try.pinned : Pinned := { name := "ytbdedljhdjjlaaa", sum := "ee4c48baf1462c15034c39388d75c2c23702aa40ad562cd7f7137bd198ee44d1", checked := Try.checked }
namespace Rows
def none {H : Type} : Left H := { results := [], args := [] }

/-- 'laws.FnAngles': WHATEVER THE INPUT: true; the input reads as it did. -/
def fnAnglesSpec : ChangeSpec := { name := "fnAngles", fn := fun _ => fun
  | [d] => { results := [.lit (.bool true)], args := [d] }
  | _ => none }
def fnAnglesRow : OpenClaim := { program := "ytbdedljhdjjlaaa", sum := "ee4c48baf1462c15034c39388d75c2c23702aa40ad562cd7f7137bd198ee44d1", func := "loop.example/g01234/laws.FnAngles", spec := "fnAngles", unfollowed := true, recurses := true, plainKeys := false, apart := false }
def FnAnglesSaid : Prop := fnAnglesRow.holds Try.pinned (OpenSpec.ofChange fnAnglesSpec)

/-- ITS FALSE NEIGHBOUR: 'it returns false'. Refute it at one input. -/
def fnAnglesWrong : ChangeSpec := { name := "fnAngles", fn := fun _ => fun
  | [d] => { results := [.lit (.bool false)], args := [d] }
  | _ => none }
def FnAnglesWrongFalsely : Prop := fnAnglesRow.holds Try.pinned (OpenSpec.ofChange fnAnglesWrong)

/-- 'laws.FnExactOrbitOf': WHATEVER THE INPUT: true; the input reads as it did. -/
def fnExactOrbitOfSpec : ChangeSpec := { name := "fnExactOrbitOf", fn := fun _ => fun
  | [d] => { results := [.lit (.bool true)], args := [d] }
  | _ => none }
def fnExactOrbitOfRow : OpenClaim := { program := "ytbdedljhdjjlaaa", sum := "ee4c48baf1462c15034c39388d75c2c23702aa40ad562cd7f7137bd198ee44d1", func := "loop.example/g01234/laws.FnExactOrbitOf", spec := "fnExactOrbitOf", unfollowed := true, recurses := true, plainKeys := false, apart := false }
def FnExactOrbitOfSaid : Prop := fnExactOrbitOfRow.holds Try.pinned (OpenSpec.ofChange fnExactOrbitOfSpec)

/-- ITS FALSE NEIGHBOUR: 'it returns false'. Refute it at one input. -/
def fnExactOrbitOfWrong : ChangeSpec := { name := "fnExactOrbitOf", fn := fun _ => fun
  | [d] => { results := [.lit (.bool false)], args := [d] }
  | _ => none }
def FnExactOrbitOfWrongFalsely : Prop := fnExactOrbitOfRow.holds Try.pinned (OpenSpec.ofChange fnExactOrbitOfWrong)

/-- 'laws.FnExactPeriodsOf': WHATEVER THE INPUT: true; the input reads as it did. -/
def fnExactPeriodsOfSpec : ChangeSpec := { name := "fnExactPeriodsOf", fn := fun _ => fun
  | [d] => { results := [.lit (.bool true)], args := [d] }
  | _ => none }
def fnExactPeriodsOfRow : OpenClaim := { program := "ytbdedljhdjjlaaa", sum := "ee4c48baf1462c15034c39388d75c2c23702aa40ad562cd7f7137bd198ee44d1", func := "loop.example/g01234/laws.FnExactPeriodsOf", spec := "fnExactPeriodsOf", unfollowed := true, recurses := true, plainKeys := false, apart := false }
def FnExactPeriodsOfSaid : Prop := fnExactPeriodsOfRow.holds Try.pinned (OpenSpec.ofChange fnExactPeriodsOfSpec)

/-- ITS FALSE NEIGHBOUR: 'it returns false'. Refute it at one input. -/
def fnExactPeriodsOfWrong : ChangeSpec := { name := "fnExactPeriodsOf", fn := fun _ => fun
  | [d] => { results := [.lit (.bool false)], args := [d] }
  | _ => none }
def FnExactPeriodsOfWrongFalsely : Prop := fnExactPeriodsOfRow.holds Try.pinned (OpenSpec.ofChange fnExactPeriodsOfWrong)

/-- 'laws.FnExactHalvesOf': WHATEVER THE INPUT: true; the input reads as it did. -/
def fnExactHalvesOfSpec : ChangeSpec := { name := "fnExactHalvesOf", fn := fun _ => fun
  | [d] => { results := [.lit (.bool true)], args := [d] }
  | _ => none }
def fnExactHalvesOfRow : OpenClaim := { program := "ytbdedljhdjjlaaa", sum := "ee4c48baf1462c15034c39388d75c2c23702aa40ad562cd7f7137bd198ee44d1", func := "loop.example/g01234/laws.FnExactHalvesOf", spec := "fnExactHalvesOf", plainKeys := false, apart := false }
def FnExactHalvesOfSaid : Prop := fnExactHalvesOfRow.holds Try.pinned (OpenSpec.ofChange fnExactHalvesOfSpec)

/-- ITS FALSE NEIGHBOUR: 'it returns false'. Refute it at one input. -/
def fnExactHalvesOfWrong : ChangeSpec := { name := "fnExactHalvesOf", fn := fun _ => fun
  | [d] => { results := [.lit (.bool false)], args := [d] }
  | _ => none }
def FnExactHalvesOfWrongFalsely : Prop := fnExactHalvesOfRow.holds Try.pinned (OpenSpec.ofChange fnExactHalvesOfWrong)

/-- 'laws.FnExactSortAngles': WHATEVER THE INPUT: true; the input reads as it did. -/
def fnExactSortAnglesSpec : ChangeSpec := { name := "fnExactSortAngles", fn := fun _ => fun
  | [d] => { results := [.lit (.bool true)], args := [d] }
  | _ => none }
def fnExactSortAnglesRow : OpenClaim := { program := "ytbdedljhdjjlaaa", sum := "ee4c48baf1462c15034c39388d75c2c23702aa40ad562cd7f7137bd198ee44d1", func := "loop.example/g01234/laws.FnExactSortAngles", spec := "fnExactSortAngles", unfollowed := true, recurses := true, plainKeys := false, apart := false }
def FnExactSortAnglesSaid : Prop := fnExactSortAnglesRow.holds Try.pinned (OpenSpec.ofChange fnExactSortAnglesSpec)

/-- ITS FALSE NEIGHBOUR: 'it returns false'. Refute it at one input. -/
def fnExactSortAnglesWrong : ChangeSpec := { name := "fnExactSortAngles", fn := fun _ => fun
  | [d] => { results := [.lit (.bool false)], args := [d] }
  | _ => none }
def FnExactSortAnglesWrongFalsely : Prop := fnExactSortAnglesRow.holds Try.pinned (OpenSpec.ofChange fnExactSortAnglesWrong)

/-- 'laws.FnExactExpansionOf': WHATEVER THE INPUT: true; the input reads as it did. -/
def fnExactExpansionOfSpec : ChangeSpec := { name := "fnExactExpansionOf", fn := fun _ => fun
  | [d] => { results := [.lit (.bool true)], args := [d] }
  | _ => none }
def fnExactExpansionOfRow : OpenClaim := { program := "ytbdedljhdjjlaaa", sum := "ee4c48baf1462c15034c39388d75c2c23702aa40ad562cd7f7137bd198ee44d1", func := "loop.example/g01234/laws.FnExactExpansionOf", spec := "fnExactExpansionOf", inPlace := ["internal/abi.NoEscape", "internal/bytealg.MakeNoZero"], unfollowed := true, recurses := true, plainKeys := false, apart := false }
def FnExactExpansionOfSaid : Prop := fnExactExpansionOfRow.holds Try.pinned (OpenSpec.ofChange fnExactExpansionOfSpec)

/-- ITS FALSE NEIGHBOUR: 'it returns false'. Refute it at one input. -/
def fnExactExpansionOfWrong : ChangeSpec := { name := "fnExactExpansionOf", fn := fun _ => fun
  | [d] => { results := [.lit (.bool false)], args := [d] }
  | _ => none }
def FnExactExpansionOfWrongFalsely : Prop := fnExactExpansionOfRow.holds Try.pinned (OpenSpec.ofChange fnExactExpansionOfWrong)

/-- 'laws.FnExactLetterOf': WHATEVER THE INPUT: true; the input reads as it did. -/
def fnExactLetterOfSpec : ChangeSpec := { name := "fnExactLetterOf", fn := fun _ => fun
  | [d1, d2] => { results := [.lit (.bool true)], args := [d1, d2] }
  | _ => none }
def fnExactLetterOfRow : OpenClaim := { program := "ytbdedljhdjjlaaa", sum := "ee4c48baf1462c15034c39388d75c2c23702aa40ad562cd7f7137bd198ee44d1", func := "loop.example/g01234/laws.FnExactLetterOf", spec := "fnExactLetterOf", plainKeys := false, apart := false }
def FnExactLetterOfSaid : Prop := fnExactLetterOfRow.holds Try.pinned (OpenSpec.ofChange fnExactLetterOfSpec)

/-- ITS FALSE NEIGHBOUR: 'it returns false'. Refute it at one input. -/
def fnExactLetterOfWrong : ChangeSpec := { name := "fnExactLetterOf", fn := fun _ => fun
  | [d1, d2] => { results := [.lit (.bool false)], args := [d1, d2] }
  | _ => none }
def FnExactLetterOfWrongFalsely : Prop := fnExactLetterOfRow.holds Try.pinned (OpenSpec.ofChange fnExactLetterOfWrong)

/-- 'laws.FnExactItineraryOf': WHATEVER THE INPUT: true; the input reads as it did. -/
def fnExactItineraryOfSpec : ChangeSpec := { name := "fnExactItineraryOf", fn := fun _ => fun
  | [d1, d2] => { results := [.lit (.bool true)], args := [d1, d2] }
  | _ => none }
def fnExactItineraryOfRow : OpenClaim := { program := "ytbdedljhdjjlaaa", sum := "ee4c48baf1462c15034c39388d75c2c23702aa40ad562cd7f7137bd198ee44d1", func := "loop.example/g01234/laws.FnExactItineraryOf", spec := "fnExactItineraryOf", inPlace := ["internal/abi.NoEscape", "internal/bytealg.MakeNoZero"], unfollowed := true, recurses := true, plainKeys := false, apart := false }
def FnExactItineraryOfSaid : Prop := fnExactItineraryOfRow.holds Try.pinned (OpenSpec.ofChange fnExactItineraryOfSpec)

/-- ITS FALSE NEIGHBOUR: 'it returns false'. Refute it at one input. -/
def fnExactItineraryOfWrong : ChangeSpec := { name := "fnExactItineraryOf", fn := fun _ => fun
  | [d1, d2] => { results := [.lit (.bool false)], args := [d1, d2] }
  | _ => none }
def FnExactItineraryOfWrongFalsely : Prop := fnExactItineraryOfRow.holds Try.pinned (OpenSpec.ofChange fnExactItineraryOfWrong)

/-- 'laws.FnExactKneadingOf': WHATEVER THE INPUT: true; the input reads as it did. -/
def fnExactKneadingOfSpec : ChangeSpec := { name := "fnExactKneadingOf", fn := fun _ => fun
  | [d] => { results := [.lit (.bool true)], args := [d] }
  | _ => none }
def fnExactKneadingOfRow : OpenClaim := { program := "ytbdedljhdjjlaaa", sum := "ee4c48baf1462c15034c39388d75c2c23702aa40ad562cd7f7137bd198ee44d1", func := "loop.example/g01234/laws.FnExactKneadingOf", spec := "fnExactKneadingOf", inPlace := ["internal/abi.NoEscape", "internal/bytealg.MakeNoZero"], unfollowed := true, recurses := true, plainKeys := false, apart := false }
def FnExactKneadingOfSaid : Prop := fnExactKneadingOfRow.holds Try.pinned (OpenSpec.ofChange fnExactKneadingOfSpec)

/-- ITS FALSE NEIGHBOUR: 'it returns false'. Refute it at one input. -/
def fnExactKneadingOfWrong : ChangeSpec := { name := "fnExactKneadingOf", fn := fun _ => fun
  | [d] => { results := [.lit (.bool false)], args := [d] }
  | _ => none }
def FnExactKneadingOfWrongFalsely : Prop := fnExactKneadingOfRow.holds Try.pinned (OpenSpec.ofChange fnExactKneadingOfWrong)

/-- 'laws.FnExactSequenceOfAddress': WHATEVER THE INPUT: true; the input reads as it did. -/
def fnExactSequenceOfAddressSpec : ChangeSpec := { name := "fnExactSequenceOfAddress", fn := fun _ => fun
  | [d] => { results := [.lit (.bool true)], args := [d] }
  | _ => none }
def fnExactSequenceOfAddressRow : OpenClaim := { program := "ytbdedljhdjjlaaa", sum := "ee4c48baf1462c15034c39388d75c2c23702aa40ad562cd7f7137bd198ee44d1", func := "loop.example/g01234/laws.FnExactSequenceOfAddress", spec := "fnExactSequenceOfAddress", inPlace := ["internal/abi.NoEscape", "internal/bytealg.MakeNoZero"], plainKeys := false, apart := false }
def FnExactSequenceOfAddressSaid : Prop := fnExactSequenceOfAddressRow.holds Try.pinned (OpenSpec.ofChange fnExactSequenceOfAddressSpec)

/-- ITS FALSE NEIGHBOUR: 'it returns false'. Refute it at one input. -/
def fnExactSequenceOfAddressWrong : ChangeSpec := { name := "fnExactSequenceOfAddress", fn := fun _ => fun
  | [d] => { results := [.lit (.bool false)], args := [d] }
  | _ => none }
def FnExactSequenceOfAddressWrongFalsely : Prop := fnExactSequenceOfAddressRow.holds Try.pinned (OpenSpec.ofChange fnExactSequenceOfAddressWrong)

/-- 'laws.FnExactAdmissibleWords': WHATEVER THE INPUT: true; the input reads as it did. -/
def fnExactAdmissibleWordsSpec : ChangeSpec := { name := "fnExactAdmissibleWords", fn := fun _ => fun
  | [d] => { results := [.lit (.bool true)], args := [d] }
  | _ => none }
def fnExactAdmissibleWordsRow : OpenClaim := { program := "ytbdedljhdjjlaaa", sum := "ee4c48baf1462c15034c39388d75c2c23702aa40ad562cd7f7137bd198ee44d1", func := "loop.example/g01234/laws.FnExactAdmissibleWords", spec := "fnExactAdmissibleWords", unfollowed := true, recurses := true, plainKeys := false, apart := false }
def FnExactAdmissibleWordsSaid : Prop := fnExactAdmissibleWordsRow.holds Try.pinned (OpenSpec.ofChange fnExactAdmissibleWordsSpec)

/-- ITS FALSE NEIGHBOUR: 'it returns false'. Refute it at one input. -/
def fnExactAdmissibleWordsWrong : ChangeSpec := { name := "fnExactAdmissibleWords", fn := fun _ => fun
  | [d] => { results := [.lit (.bool false)], args := [d] }
  | _ => none }
def FnExactAdmissibleWordsWrongFalsely : Prop := fnExactAdmissibleWordsRow.holds Try.pinned (OpenSpec.ofChange fnExactAdmissibleWordsWrong)

/- THE SECOND FORM. 'bulk': how many values and letters a reading holds, each counted each time it is reached (what is shared counts as often as it is met; a slice's spare places count too). A statement '..UptoSaid' is the law's where the arguments, and the package variables that the reading takes, are together of bulk at most 1048576: NARROWER than '..Said'. Prove '..Said' where nothing that the law and all that it calls make is longer than what came in: it says more and counts as full. Else prove '..UptoSaid'. A law counts once. -/
mutual
def uptoBulk {H : Type} : DataW H → Nat
  | .lit (.string bytes) => bytes.length + 1
  | .lit _ => 1
  | .nil => 1
  | .ptr d => uptoBulk d + 1
  | .slice elems spare => uptoBulkAll elems + uptoBulkAll spare + 1
  | .agg parts => uptoBulkAll parts + 1
  | .iface _ d => uptoBulk d + 1
  | .map entries => uptoBulkEntries entries + 1
  | .held _ => 1
def uptoBulkAll {H : Type} : List (DataW H) → Nat
  | [] => 0
  | d :: r => uptoBulk d + uptoBulkAll r
def uptoBulkEntries {H : Type} : List (Lit × DataW H) → Nat
  | [] => 0
  | x :: r => uptoBulkEntry x + uptoBulkEntries r
def uptoBulkEntry {H : Type} : Lit × DataW H → Nat
  | (.string bytes, d) => bytes.length + uptoBulk d + 1
  | (_, d) => uptoBulk d + 1
 end
def uptoSmall : (H : Type) → List (DataW H) → Bool := fun _ ds => decide (uptoBulkAll ds ≤ 1048576)
def OpenSpec.upto (s : _root_.Go.ChangeSpec) : _root_.Go.OpenSpec := { _root_.Go.OpenSpec.ofChange s with cond := some uptoSmall }

/-- 'laws.FnAngles', WHERE WHAT IT READS IS OF BULK AT MOST 1048576: true; the input reads as it did. -/
def fnAnglesUptoRow : OpenClaim := { program := "ytbdedljhdjjlaaa", sum := "ee4c48baf1462c15034c39388d75c2c23702aa40ad562cd7f7137bd198ee44d1", func := "loop.example/g01234/laws.FnAngles", spec := "fnAngles", unfollowed := true, recurses := true, plainKeys := false, apart := false, narrowed := true }
def FnAnglesUptoSaid : Prop := fnAnglesUptoRow.holds Try.pinned (OpenSpec.upto fnAnglesSpec)

/-- 'laws.FnExactOrbitOf', WHERE WHAT IT READS IS OF BULK AT MOST 1048576: true; the input reads as it did. -/
def fnExactOrbitOfUptoRow : OpenClaim := { program := "ytbdedljhdjjlaaa", sum := "ee4c48baf1462c15034c39388d75c2c23702aa40ad562cd7f7137bd198ee44d1", func := "loop.example/g01234/laws.FnExactOrbitOf", spec := "fnExactOrbitOf", unfollowed := true, recurses := true, plainKeys := false, apart := false, narrowed := true }
def FnExactOrbitOfUptoSaid : Prop := fnExactOrbitOfUptoRow.holds Try.pinned (OpenSpec.upto fnExactOrbitOfSpec)

/-- 'laws.FnExactPeriodsOf', WHERE WHAT IT READS IS OF BULK AT MOST 1048576: true; the input reads as it did. -/
def fnExactPeriodsOfUptoRow : OpenClaim := { program := "ytbdedljhdjjlaaa", sum := "ee4c48baf1462c15034c39388d75c2c23702aa40ad562cd7f7137bd198ee44d1", func := "loop.example/g01234/laws.FnExactPeriodsOf", spec := "fnExactPeriodsOf", unfollowed := true, recurses := true, plainKeys := false, apart := false, narrowed := true }
def FnExactPeriodsOfUptoSaid : Prop := fnExactPeriodsOfUptoRow.holds Try.pinned (OpenSpec.upto fnExactPeriodsOfSpec)

/-- 'laws.FnExactHalvesOf', WHERE WHAT IT READS IS OF BULK AT MOST 1048576: true; the input reads as it did. -/
def fnExactHalvesOfUptoRow : OpenClaim := { program := "ytbdedljhdjjlaaa", sum := "ee4c48baf1462c15034c39388d75c2c23702aa40ad562cd7f7137bd198ee44d1", func := "loop.example/g01234/laws.FnExactHalvesOf", spec := "fnExactHalvesOf", plainKeys := false, apart := false, narrowed := true }
def FnExactHalvesOfUptoSaid : Prop := fnExactHalvesOfUptoRow.holds Try.pinned (OpenSpec.upto fnExactHalvesOfSpec)

/-- 'laws.FnExactSortAngles', WHERE WHAT IT READS IS OF BULK AT MOST 1048576: true; the input reads as it did. -/
def fnExactSortAnglesUptoRow : OpenClaim := { program := "ytbdedljhdjjlaaa", sum := "ee4c48baf1462c15034c39388d75c2c23702aa40ad562cd7f7137bd198ee44d1", func := "loop.example/g01234/laws.FnExactSortAngles", spec := "fnExactSortAngles", unfollowed := true, recurses := true, plainKeys := false, apart := false, narrowed := true }
def FnExactSortAnglesUptoSaid : Prop := fnExactSortAnglesUptoRow.holds Try.pinned (OpenSpec.upto fnExactSortAnglesSpec)

/-- 'laws.FnExactExpansionOf', WHERE WHAT IT READS IS OF BULK AT MOST 1048576: true; the input reads as it did. -/
def fnExactExpansionOfUptoRow : OpenClaim := { program := "ytbdedljhdjjlaaa", sum := "ee4c48baf1462c15034c39388d75c2c23702aa40ad562cd7f7137bd198ee44d1", func := "loop.example/g01234/laws.FnExactExpansionOf", spec := "fnExactExpansionOf", inPlace := ["internal/abi.NoEscape", "internal/bytealg.MakeNoZero"], unfollowed := true, recurses := true, plainKeys := false, apart := false, narrowed := true }
def FnExactExpansionOfUptoSaid : Prop := fnExactExpansionOfUptoRow.holds Try.pinned (OpenSpec.upto fnExactExpansionOfSpec)

/-- 'laws.FnExactLetterOf', WHERE WHAT IT READS IS OF BULK AT MOST 1048576: true; the input reads as it did. -/
def fnExactLetterOfUptoRow : OpenClaim := { program := "ytbdedljhdjjlaaa", sum := "ee4c48baf1462c15034c39388d75c2c23702aa40ad562cd7f7137bd198ee44d1", func := "loop.example/g01234/laws.FnExactLetterOf", spec := "fnExactLetterOf", plainKeys := false, apart := false, narrowed := true }
def FnExactLetterOfUptoSaid : Prop := fnExactLetterOfUptoRow.holds Try.pinned (OpenSpec.upto fnExactLetterOfSpec)

/-- 'laws.FnExactItineraryOf', WHERE WHAT IT READS IS OF BULK AT MOST 1048576: true; the input reads as it did. -/
def fnExactItineraryOfUptoRow : OpenClaim := { program := "ytbdedljhdjjlaaa", sum := "ee4c48baf1462c15034c39388d75c2c23702aa40ad562cd7f7137bd198ee44d1", func := "loop.example/g01234/laws.FnExactItineraryOf", spec := "fnExactItineraryOf", inPlace := ["internal/abi.NoEscape", "internal/bytealg.MakeNoZero"], unfollowed := true, recurses := true, plainKeys := false, apart := false, narrowed := true }
def FnExactItineraryOfUptoSaid : Prop := fnExactItineraryOfUptoRow.holds Try.pinned (OpenSpec.upto fnExactItineraryOfSpec)

/-- 'laws.FnExactKneadingOf', WHERE WHAT IT READS IS OF BULK AT MOST 1048576: true; the input reads as it did. -/
def fnExactKneadingOfUptoRow : OpenClaim := { program := "ytbdedljhdjjlaaa", sum := "ee4c48baf1462c15034c39388d75c2c23702aa40ad562cd7f7137bd198ee44d1", func := "loop.example/g01234/laws.FnExactKneadingOf", spec := "fnExactKneadingOf", inPlace := ["internal/abi.NoEscape", "internal/bytealg.MakeNoZero"], unfollowed := true, recurses := true, plainKeys := false, apart := false, narrowed := true }
def FnExactKneadingOfUptoSaid : Prop := fnExactKneadingOfUptoRow.holds Try.pinned (OpenSpec.upto fnExactKneadingOfSpec)

/-- 'laws.FnExactSequenceOfAddress', WHERE WHAT IT READS IS OF BULK AT MOST 1048576: true; the input reads as it did. -/
def fnExactSequenceOfAddressUptoRow : OpenClaim := { program := "ytbdedljhdjjlaaa", sum := "ee4c48baf1462c15034c39388d75c2c23702aa40ad562cd7f7137bd198ee44d1", func := "loop.example/g01234/laws.FnExactSequenceOfAddress", spec := "fnExactSequenceOfAddress", inPlace := ["internal/abi.NoEscape", "internal/bytealg.MakeNoZero"], plainKeys := false, apart := false, narrowed := true }
def FnExactSequenceOfAddressUptoSaid : Prop := fnExactSequenceOfAddressUptoRow.holds Try.pinned (OpenSpec.upto fnExactSequenceOfAddressSpec)

/-- 'laws.FnExactAdmissibleWords', WHERE WHAT IT READS IS OF BULK AT MOST 1048576: true; the input reads as it did. -/
def fnExactAdmissibleWordsUptoRow : OpenClaim := { program := "ytbdedljhdjjlaaa", sum := "ee4c48baf1462c15034c39388d75c2c23702aa40ad562cd7f7137bd198ee44d1", func := "loop.example/g01234/laws.FnExactAdmissibleWords", spec := "fnExactAdmissibleWords", unfollowed := true, recurses := true, plainKeys := false, apart := false, narrowed := true }
def FnExactAdmissibleWordsUptoSaid : Prop := fnExactAdmissibleWordsUptoRow.holds Try.pinned (OpenSpec.upto fnExactAdmissibleWordsSpec)

end Rows
end Go.Proofs.Ytbdedljhdjjlaaa
