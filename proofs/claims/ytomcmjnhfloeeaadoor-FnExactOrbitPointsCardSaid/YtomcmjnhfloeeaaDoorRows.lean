/-
  NARROWER THAN 'FOR EVERY INPUT', by the rows' own cells (each row's printed sentence says how): FnExactReplaceStar: laid · FnExactDifferenceOf: laid · FnExactRhoOf: laid · FnExactFailsFor: laid · FnExactIsAdmissible: laid · FnExactInternalAddress: laid · FnExactIsPointOf: laid · FnExactOrbitPoints: laid.
  DERIVED. THE GIVEN ROWS OF THIS SEAT. 8 by the template 'for every input the law returns true; each argument reads behind the call as it read before'; 0 by the template 'total and deterministic' (their statements: YtomcmjnhfloeeaaDoorTotals.lean).
  GIVEN WITH THE SEED: the statements are not yours to turn. If you find one false, say at which input.
  Laid BY PROGRAM, IN A SANDBOX (cutbox-rows.mjs): the forced cells as the released guide's own fill.sh prints them over the translation 3933f0686c40a3ee… (all of the seat's roots in one cut). By AI agents, Wed Nov 11 2026. No macro, syntax, notation, axiom, sorry.
-/
import Derived.Test.YtomcmjnhfloeeaaDoorChecked
import GoSem.PinnedTables
import GoSem.Claim
import GoSem.ClaimJoined
import GoSem.ClaimMapViews
import Derived.JoinedTies
import Derived.KernelRfl
namespace Go.Proofs.YtomcmjnhfloeeaaDoor
/- THE CELL 'sum', in the pinned program and in every row, IS THE sha256 OF THE DUMP (.gsa) THAT YtomcmjnhfloeeaaDoorProg.lean LOADS. Nothing in Lean hashes anything: it is a label: what it is worth is what the hold of that sum in a sandbox is worth. -/
noncomputable def Tryd.pinned : Pinned := { name := "ytomcmjnhfloeeaadoor", sum := "3933f0686c40a3ee7fd08031053804db11516cffab0716471350aa5a5fbecf5b", checked := Tryd.checked }
namespace Rows
def none {H : Type} : Left H := { results := [], args := [] }

/- WHAT THE LISTED PACKAGE-LEVEL VARIABLES READ AS WHEN THE CALL BEGINS. Each datum BY PROGRAM (the guide's laid-datum.mjs) off the statement by which the dump's own 'gosem.cut.vars' lays the variable. In a bare row this is a premise. The card (YtomcmjnhfloeeaaDoorCards.lean) ties it to the program's text. -/
def laid_unicode_utf8_acceptRanges {H : Type} : DataW H := .agg [.agg [.lit (.int .u8 128), .lit (.int .u8 191)], .agg [.lit (.int .u8 160), .lit (.int .u8 191)], .agg [.lit (.int .u8 128), .lit (.int .u8 159)], .agg [.lit (.int .u8 144), .lit (.int .u8 191)], .agg [.lit (.int .u8 128), .lit (.int .u8 143)], .agg [.lit (.int .u8 0), .lit (.int .u8 0)], .agg [.lit (.int .u8 0), .lit (.int .u8 0)], .agg [.lit (.int .u8 0), .lit (.int .u8 0)], .agg [.lit (.int .u8 0), .lit (.int .u8 0)], .agg [.lit (.int .u8 0), .lit (.int .u8 0)], .agg [.lit (.int .u8 0), .lit (.int .u8 0)], .agg [.lit (.int .u8 0), .lit (.int .u8 0)], .agg [.lit (.int .u8 0), .lit (.int .u8 0)], .agg [.lit (.int .u8 0), .lit (.int .u8 0)], .agg [.lit (.int .u8 0), .lit (.int .u8 0)], .agg [.lit (.int .u8 0), .lit (.int .u8 0)]]
/-- One of Go's own tables, pinned by name: the form's constant. -/
def laid_unicode_utf8_first : DataW Unit := Go.Pinned.utf8First

/-- 'laws.FnExactReplaceStar': WHATEVER THE INPUT: true; the input reads as it did. -/
def fnExactReplaceStarSpec : ChangeSpec := { name := "fnExactReplaceStar", fn := fun _ => fun
  | [d1, d2] => { results := [.lit (.bool true)], args := [d1, d2] }
  | _ => none }
def fnExactReplaceStarRow : OpenClaim := { program := "ytomcmjnhfloeeaadoor", sum := "3933f0686c40a3ee7fd08031053804db11516cffab0716471350aa5a5fbecf5b", func := "loop.example/g01234/laws.FnExactReplaceStar", spec := "fnExactReplaceStar", inPlace := ["internal/bytealg.IndexByteString", "internal/bytealg.IndexString", "internal/abi.NoEscape", "internal/bytealg.MakeNoZero", "internal/bytealg.CountString"], named := ["unicode/utf8.first", "unicode/utf8.acceptRanges", "internal/bytealg.MaxLen"], plainKeys := false, apart := false, laid := [("unicode/utf8.acceptRanges", laid_unicode_utf8_acceptRanges), ("unicode/utf8.first", laid_unicode_utf8_first)] }
def FnExactReplaceStarSaid : Prop := fnExactReplaceStarRow.holds Tryd.pinned (OpenSpec.ofChange fnExactReplaceStarSpec)

/-- ITS FALSE NEIGHBOUR: 'it returns false'. Refute it at one input. -/
def fnExactReplaceStarWrong : ChangeSpec := { name := "fnExactReplaceStar", fn := fun _ => fun
  | [d1, d2] => { results := [.lit (.bool false)], args := [d1, d2] }
  | _ => none }
def FnExactReplaceStarWrongFalsely : Prop := fnExactReplaceStarRow.holds Tryd.pinned (OpenSpec.ofChange fnExactReplaceStarWrong)

/-- 'laws.FnExactDifferenceOf': WHATEVER THE INPUT: true; the input reads as it did. -/
def fnExactDifferenceOfSpec : ChangeSpec := { name := "fnExactDifferenceOf", fn := fun _ => fun
  | [d1, d2] => { results := [.lit (.bool true)], args := [d1, d2] }
  | _ => none }
def fnExactDifferenceOfRow : OpenClaim := { program := "ytomcmjnhfloeeaadoor", sum := "3933f0686c40a3ee7fd08031053804db11516cffab0716471350aa5a5fbecf5b", func := "loop.example/g01234/laws.FnExactDifferenceOf", spec := "fnExactDifferenceOf", inPlace := ["internal/bytealg.IndexByteString", "internal/bytealg.IndexString", "internal/abi.NoEscape", "internal/bytealg.MakeNoZero"], unfollowed := true, recurses := true, named := ["unicode/utf8.first", "unicode/utf8.acceptRanges", "internal/bytealg.MaxLen"], plainKeys := false, apart := false, laid := [("unicode/utf8.acceptRanges", laid_unicode_utf8_acceptRanges), ("unicode/utf8.first", laid_unicode_utf8_first)] }
def FnExactDifferenceOfSaid : Prop := fnExactDifferenceOfRow.holds Tryd.pinned (OpenSpec.ofChange fnExactDifferenceOfSpec)

/-- ITS FALSE NEIGHBOUR: 'it returns false'. Refute it at one input. -/
def fnExactDifferenceOfWrong : ChangeSpec := { name := "fnExactDifferenceOf", fn := fun _ => fun
  | [d1, d2] => { results := [.lit (.bool false)], args := [d1, d2] }
  | _ => none }
def FnExactDifferenceOfWrongFalsely : Prop := fnExactDifferenceOfRow.holds Tryd.pinned (OpenSpec.ofChange fnExactDifferenceOfWrong)

/-- 'laws.FnExactRhoOf': WHATEVER THE INPUT: true; the input reads as it did. -/
def fnExactRhoOfSpec : ChangeSpec := { name := "fnExactRhoOf", fn := fun _ => fun
  | [d1, d2] => { results := [.lit (.bool true)], args := [d1, d2] }
  | _ => none }
def fnExactRhoOfRow : OpenClaim := { program := "ytomcmjnhfloeeaadoor", sum := "3933f0686c40a3ee7fd08031053804db11516cffab0716471350aa5a5fbecf5b", func := "loop.example/g01234/laws.FnExactRhoOf", spec := "fnExactRhoOf", inPlace := ["internal/bytealg.IndexByteString", "internal/bytealg.IndexString", "internal/abi.NoEscape", "internal/bytealg.MakeNoZero"], unfollowed := true, recurses := true, named := ["unicode/utf8.first", "unicode/utf8.acceptRanges", "internal/bytealg.MaxLen"], plainKeys := false, apart := false, laid := [("unicode/utf8.acceptRanges", laid_unicode_utf8_acceptRanges), ("unicode/utf8.first", laid_unicode_utf8_first)] }
def FnExactRhoOfSaid : Prop := fnExactRhoOfRow.holds Tryd.pinned (OpenSpec.ofChange fnExactRhoOfSpec)

/-- ITS FALSE NEIGHBOUR: 'it returns false'. Refute it at one input. -/
def fnExactRhoOfWrong : ChangeSpec := { name := "fnExactRhoOf", fn := fun _ => fun
  | [d1, d2] => { results := [.lit (.bool false)], args := [d1, d2] }
  | _ => none }
def FnExactRhoOfWrongFalsely : Prop := fnExactRhoOfRow.holds Tryd.pinned (OpenSpec.ofChange fnExactRhoOfWrong)

/-- 'laws.FnExactFailsFor': WHATEVER THE INPUT: true; the input reads as it did. -/
def fnExactFailsForSpec : ChangeSpec := { name := "fnExactFailsFor", fn := fun _ => fun
  | [d1, d2] => { results := [.lit (.bool true)], args := [d1, d2] }
  | _ => none }
def fnExactFailsForRow : OpenClaim := { program := "ytomcmjnhfloeeaadoor", sum := "3933f0686c40a3ee7fd08031053804db11516cffab0716471350aa5a5fbecf5b", func := "loop.example/g01234/laws.FnExactFailsFor", spec := "fnExactFailsFor", inPlace := ["internal/bytealg.IndexByteString", "internal/bytealg.IndexString", "internal/abi.NoEscape", "internal/bytealg.MakeNoZero"], unfollowed := true, recurses := true, named := ["unicode/utf8.first", "unicode/utf8.acceptRanges", "internal/bytealg.MaxLen"], plainKeys := false, apart := false, laid := [("unicode/utf8.acceptRanges", laid_unicode_utf8_acceptRanges), ("unicode/utf8.first", laid_unicode_utf8_first)] }
def FnExactFailsForSaid : Prop := fnExactFailsForRow.holds Tryd.pinned (OpenSpec.ofChange fnExactFailsForSpec)

/-- ITS FALSE NEIGHBOUR: 'it returns false'. Refute it at one input. -/
def fnExactFailsForWrong : ChangeSpec := { name := "fnExactFailsFor", fn := fun _ => fun
  | [d1, d2] => { results := [.lit (.bool false)], args := [d1, d2] }
  | _ => none }
def FnExactFailsForWrongFalsely : Prop := fnExactFailsForRow.holds Tryd.pinned (OpenSpec.ofChange fnExactFailsForWrong)

/-- 'laws.FnExactIsAdmissible': WHATEVER THE INPUT: true; the input reads as it did. -/
def fnExactIsAdmissibleSpec : ChangeSpec := { name := "fnExactIsAdmissible", fn := fun _ => fun
  | [d] => { results := [.lit (.bool true)], args := [d] }
  | _ => none }
def fnExactIsAdmissibleRow : OpenClaim := { program := "ytomcmjnhfloeeaadoor", sum := "3933f0686c40a3ee7fd08031053804db11516cffab0716471350aa5a5fbecf5b", func := "loop.example/g01234/laws.FnExactIsAdmissible", spec := "fnExactIsAdmissible", inPlace := ["internal/bytealg.IndexByteString", "internal/bytealg.IndexString", "internal/abi.NoEscape", "internal/bytealg.MakeNoZero"], unfollowed := true, recurses := true, named := ["unicode/utf8.first", "unicode/utf8.acceptRanges", "internal/bytealg.MaxLen"], plainKeys := false, apart := false, laid := [("unicode/utf8.acceptRanges", laid_unicode_utf8_acceptRanges), ("unicode/utf8.first", laid_unicode_utf8_first)] }
def FnExactIsAdmissibleSaid : Prop := fnExactIsAdmissibleRow.holds Tryd.pinned (OpenSpec.ofChange fnExactIsAdmissibleSpec)

/-- ITS FALSE NEIGHBOUR: 'it returns false'. Refute it at one input. -/
def fnExactIsAdmissibleWrong : ChangeSpec := { name := "fnExactIsAdmissible", fn := fun _ => fun
  | [d] => { results := [.lit (.bool false)], args := [d] }
  | _ => none }
def FnExactIsAdmissibleWrongFalsely : Prop := fnExactIsAdmissibleRow.holds Tryd.pinned (OpenSpec.ofChange fnExactIsAdmissibleWrong)

/-- 'laws.FnExactInternalAddress': WHATEVER THE INPUT: true; the input reads as it did. -/
def fnExactInternalAddressSpec : ChangeSpec := { name := "fnExactInternalAddress", fn := fun _ => fun
  | [d] => { results := [.lit (.bool true)], args := [d] }
  | _ => none }
def fnExactInternalAddressRow : OpenClaim := { program := "ytomcmjnhfloeeaadoor", sum := "3933f0686c40a3ee7fd08031053804db11516cffab0716471350aa5a5fbecf5b", func := "loop.example/g01234/laws.FnExactInternalAddress", spec := "fnExactInternalAddress", inPlace := ["internal/bytealg.IndexByteString", "internal/bytealg.IndexString", "internal/abi.NoEscape", "internal/bytealg.MakeNoZero"], unfollowed := true, recurses := true, named := ["unicode/utf8.first", "unicode/utf8.acceptRanges", "internal/bytealg.MaxLen"], plainKeys := false, apart := false, laid := [("unicode/utf8.acceptRanges", laid_unicode_utf8_acceptRanges), ("unicode/utf8.first", laid_unicode_utf8_first)] }
def FnExactInternalAddressSaid : Prop := fnExactInternalAddressRow.holds Tryd.pinned (OpenSpec.ofChange fnExactInternalAddressSpec)

/-- ITS FALSE NEIGHBOUR: 'it returns false'. Refute it at one input. -/
def fnExactInternalAddressWrong : ChangeSpec := { name := "fnExactInternalAddress", fn := fun _ => fun
  | [d] => { results := [.lit (.bool false)], args := [d] }
  | _ => none }
def FnExactInternalAddressWrongFalsely : Prop := fnExactInternalAddressRow.holds Tryd.pinned (OpenSpec.ofChange fnExactInternalAddressWrong)

/-- 'laws.FnExactIsPointOf': WHATEVER THE INPUT: true; the input reads as it did. -/
def fnExactIsPointOfSpec : ChangeSpec := { name := "fnExactIsPointOf", fn := fun _ => fun
  | [d1, d2] => { results := [.lit (.bool true)], args := [d1, d2] }
  | _ => none }
def fnExactIsPointOfRow : OpenClaim := { program := "ytomcmjnhfloeeaadoor", sum := "3933f0686c40a3ee7fd08031053804db11516cffab0716471350aa5a5fbecf5b", func := "loop.example/g01234/laws.FnExactIsPointOf", spec := "fnExactIsPointOf", inPlace := ["internal/bytealg.IndexByteString", "internal/bytealg.IndexString", "internal/abi.NoEscape", "internal/bytealg.MakeNoZero"], named := ["unicode/utf8.first", "unicode/utf8.acceptRanges", "internal/bytealg.MaxLen"], plainKeys := false, apart := false, laid := [("unicode/utf8.acceptRanges", laid_unicode_utf8_acceptRanges), ("unicode/utf8.first", laid_unicode_utf8_first)] }
def FnExactIsPointOfSaid : Prop := fnExactIsPointOfRow.holds Tryd.pinned (OpenSpec.ofChange fnExactIsPointOfSpec)

/-- ITS FALSE NEIGHBOUR: 'it returns false'. Refute it at one input. -/
def fnExactIsPointOfWrong : ChangeSpec := { name := "fnExactIsPointOf", fn := fun _ => fun
  | [d1, d2] => { results := [.lit (.bool false)], args := [d1, d2] }
  | _ => none }
def FnExactIsPointOfWrongFalsely : Prop := fnExactIsPointOfRow.holds Tryd.pinned (OpenSpec.ofChange fnExactIsPointOfWrong)

/-- 'laws.FnExactOrbitPoints': WHATEVER THE INPUT: true; the input reads as it did. -/
def fnExactOrbitPointsSpec : ChangeSpec := { name := "fnExactOrbitPoints", fn := fun _ => fun
  | [d] => { results := [.lit (.bool true)], args := [d] }
  | _ => none }
def fnExactOrbitPointsRow : OpenClaim := { program := "ytomcmjnhfloeeaadoor", sum := "3933f0686c40a3ee7fd08031053804db11516cffab0716471350aa5a5fbecf5b", func := "loop.example/g01234/laws.FnExactOrbitPoints", spec := "fnExactOrbitPoints", inPlace := ["internal/bytealg.IndexByteString", "internal/bytealg.IndexString", "internal/abi.NoEscape", "internal/bytealg.MakeNoZero"], named := ["unicode/utf8.first", "unicode/utf8.acceptRanges", "internal/bytealg.MaxLen"], plainKeys := false, apart := false, laid := [("unicode/utf8.acceptRanges", laid_unicode_utf8_acceptRanges), ("unicode/utf8.first", laid_unicode_utf8_first)] }
def FnExactOrbitPointsSaid : Prop := fnExactOrbitPointsRow.holds Tryd.pinned (OpenSpec.ofChange fnExactOrbitPointsSpec)

/-- ITS FALSE NEIGHBOUR: 'it returns false'. Refute it at one input. -/
def fnExactOrbitPointsWrong : ChangeSpec := { name := "fnExactOrbitPoints", fn := fun _ => fun
  | [d] => { results := [.lit (.bool false)], args := [d] }
  | _ => none }
def FnExactOrbitPointsWrongFalsely : Prop := fnExactOrbitPointsRow.holds Tryd.pinned (OpenSpec.ofChange fnExactOrbitPointsWrong)

/- THE SECOND FORM. 'bulk': how many values and letters a reading holds, each counted each time it is reached (what is shared counts as often as it is met; a slice's spare places count too). A statement '..UptoSaid' is the law's where the arguments, and the package variables that the reading takes, are together of bulk at most 1048576: NARROWER than '..Said'. Prove '..Said' where nothing that the law and all that it calls make is longer than what came in: it says more and counts as full. Else prove '..UptoSaid'. A law counts once. -/
mutual
def uptoBulk {H : Type} : DataW H → Nat
  | .lit (.string bytes) => bytes.length + 1
  | .lit _ => 1
  | .nil => 1
  | .ptr d => uptoBulk d + 1
  | .slice elems spare => uptoBulkAll elems + uptoBulkAll spare + 1
  | .agg parts => uptoBulkAll parts + 1
  | .iface _ d => uptoBulk d + 1
  | .map entries => uptoBulkEntries entries + 1
  | .held _ => 1
def uptoBulkAll {H : Type} : List (DataW H) → Nat
  | [] => 0
  | d :: r => uptoBulk d + uptoBulkAll r
def uptoBulkEntries {H : Type} : List (Lit × DataW H) → Nat
  | [] => 0
  | x :: r => uptoBulkEntry x + uptoBulkEntries r
def uptoBulkEntry {H : Type} : Lit × DataW H → Nat
  | (.string bytes, d) => bytes.length + uptoBulk d + 1
  | (_, d) => uptoBulk d + 1
 end
def uptoSmall : (H : Type) → List (DataW H) → Bool := fun _ ds => decide (uptoBulkAll ds ≤ 1048576)
def OpenSpec.upto (s : _root_.Go.ChangeSpec) : _root_.Go.OpenSpec := { _root_.Go.OpenSpec.ofChange s with cond := some uptoSmall }

/-- 'laws.FnExactReplaceStar', WHERE WHAT IT READS IS OF BULK AT MOST 1048576: true; the input reads as it did. -/
def fnExactReplaceStarUptoRow : OpenClaim := { program := "ytomcmjnhfloeeaadoor", sum := "3933f0686c40a3ee7fd08031053804db11516cffab0716471350aa5a5fbecf5b", func := "loop.example/g01234/laws.FnExactReplaceStar", spec := "fnExactReplaceStar", inPlace := ["internal/bytealg.IndexByteString", "internal/bytealg.IndexString", "internal/abi.NoEscape", "internal/bytealg.MakeNoZero", "internal/bytealg.CountString"], named := ["unicode/utf8.first", "unicode/utf8.acceptRanges", "internal/bytealg.MaxLen"], plainKeys := false, apart := false, laid := [("unicode/utf8.acceptRanges", laid_unicode_utf8_acceptRanges), ("unicode/utf8.first", laid_unicode_utf8_first)], narrowed := true }
def FnExactReplaceStarUptoSaid : Prop := fnExactReplaceStarUptoRow.holds Tryd.pinned (OpenSpec.upto fnExactReplaceStarSpec)

/-- 'laws.FnExactDifferenceOf', WHERE WHAT IT READS IS OF BULK AT MOST 1048576: true; the input reads as it did. -/
def fnExactDifferenceOfUptoRow : OpenClaim := { program := "ytomcmjnhfloeeaadoor", sum := "3933f0686c40a3ee7fd08031053804db11516cffab0716471350aa5a5fbecf5b", func := "loop.example/g01234/laws.FnExactDifferenceOf", spec := "fnExactDifferenceOf", inPlace := ["internal/bytealg.IndexByteString", "internal/bytealg.IndexString", "internal/abi.NoEscape", "internal/bytealg.MakeNoZero"], unfollowed := true, recurses := true, named := ["unicode/utf8.first", "unicode/utf8.acceptRanges", "internal/bytealg.MaxLen"], plainKeys := false, apart := false, laid := [("unicode/utf8.acceptRanges", laid_unicode_utf8_acceptRanges), ("unicode/utf8.first", laid_unicode_utf8_first)], narrowed := true }
def FnExactDifferenceOfUptoSaid : Prop := fnExactDifferenceOfUptoRow.holds Tryd.pinned (OpenSpec.upto fnExactDifferenceOfSpec)

/-- 'laws.FnExactRhoOf', WHERE WHAT IT READS IS OF BULK AT MOST 1048576: true; the input reads as it did. -/
def fnExactRhoOfUptoRow : OpenClaim := { program := "ytomcmjnhfloeeaadoor", sum := "3933f0686c40a3ee7fd08031053804db11516cffab0716471350aa5a5fbecf5b", func := "loop.example/g01234/laws.FnExactRhoOf", spec := "fnExactRhoOf", inPlace := ["internal/bytealg.IndexByteString", "internal/bytealg.IndexString", "internal/abi.NoEscape", "internal/bytealg.MakeNoZero"], unfollowed := true, recurses := true, named := ["unicode/utf8.first", "unicode/utf8.acceptRanges", "internal/bytealg.MaxLen"], plainKeys := false, apart := false, laid := [("unicode/utf8.acceptRanges", laid_unicode_utf8_acceptRanges), ("unicode/utf8.first", laid_unicode_utf8_first)], narrowed := true }
def FnExactRhoOfUptoSaid : Prop := fnExactRhoOfUptoRow.holds Tryd.pinned (OpenSpec.upto fnExactRhoOfSpec)

/-- 'laws.FnExactFailsFor', WHERE WHAT IT READS IS OF BULK AT MOST 1048576: true; the input reads as it did. -/
def fnExactFailsForUptoRow : OpenClaim := { program := "ytomcmjnhfloeeaadoor", sum := "3933f0686c40a3ee7fd08031053804db11516cffab0716471350aa5a5fbecf5b", func := "loop.example/g01234/laws.FnExactFailsFor", spec := "fnExactFailsFor", inPlace := ["internal/bytealg.IndexByteString", "internal/bytealg.IndexString", "internal/abi.NoEscape", "internal/bytealg.MakeNoZero"], unfollowed := true, recurses := true, named := ["unicode/utf8.first", "unicode/utf8.acceptRanges", "internal/bytealg.MaxLen"], plainKeys := false, apart := false, laid := [("unicode/utf8.acceptRanges", laid_unicode_utf8_acceptRanges), ("unicode/utf8.first", laid_unicode_utf8_first)], narrowed := true }
def FnExactFailsForUptoSaid : Prop := fnExactFailsForUptoRow.holds Tryd.pinned (OpenSpec.upto fnExactFailsForSpec)

/-- 'laws.FnExactIsAdmissible', WHERE WHAT IT READS IS OF BULK AT MOST 1048576: true; the input reads as it did. -/
def fnExactIsAdmissibleUptoRow : OpenClaim := { program := "ytomcmjnhfloeeaadoor", sum := "3933f0686c40a3ee7fd08031053804db11516cffab0716471350aa5a5fbecf5b", func := "loop.example/g01234/laws.FnExactIsAdmissible", spec := "fnExactIsAdmissible", inPlace := ["internal/bytealg.IndexByteString", "internal/bytealg.IndexString", "internal/abi.NoEscape", "internal/bytealg.MakeNoZero"], unfollowed := true, recurses := true, named := ["unicode/utf8.first", "unicode/utf8.acceptRanges", "internal/bytealg.MaxLen"], plainKeys := false, apart := false, laid := [("unicode/utf8.acceptRanges", laid_unicode_utf8_acceptRanges), ("unicode/utf8.first", laid_unicode_utf8_first)], narrowed := true }
def FnExactIsAdmissibleUptoSaid : Prop := fnExactIsAdmissibleUptoRow.holds Tryd.pinned (OpenSpec.upto fnExactIsAdmissibleSpec)

/-- 'laws.FnExactInternalAddress', WHERE WHAT IT READS IS OF BULK AT MOST 1048576: true; the input reads as it did. -/
def fnExactInternalAddressUptoRow : OpenClaim := { program := "ytomcmjnhfloeeaadoor", sum := "3933f0686c40a3ee7fd08031053804db11516cffab0716471350aa5a5fbecf5b", func := "loop.example/g01234/laws.FnExactInternalAddress", spec := "fnExactInternalAddress", inPlace := ["internal/bytealg.IndexByteString", "internal/bytealg.IndexString", "internal/abi.NoEscape", "internal/bytealg.MakeNoZero"], unfollowed := true, recurses := true, named := ["unicode/utf8.first", "unicode/utf8.acceptRanges", "internal/bytealg.MaxLen"], plainKeys := false, apart := false, laid := [("unicode/utf8.acceptRanges", laid_unicode_utf8_acceptRanges), ("unicode/utf8.first", laid_unicode_utf8_first)], narrowed := true }
def FnExactInternalAddressUptoSaid : Prop := fnExactInternalAddressUptoRow.holds Tryd.pinned (OpenSpec.upto fnExactInternalAddressSpec)

/-- 'laws.FnExactIsPointOf', WHERE WHAT IT READS IS OF BULK AT MOST 1048576: true; the input reads as it did. -/
def fnExactIsPointOfUptoRow : OpenClaim := { program := "ytomcmjnhfloeeaadoor", sum := "3933f0686c40a3ee7fd08031053804db11516cffab0716471350aa5a5fbecf5b", func := "loop.example/g01234/laws.FnExactIsPointOf", spec := "fnExactIsPointOf", inPlace := ["internal/bytealg.IndexByteString", "internal/bytealg.IndexString", "internal/abi.NoEscape", "internal/bytealg.MakeNoZero"], named := ["unicode/utf8.first", "unicode/utf8.acceptRanges", "internal/bytealg.MaxLen"], plainKeys := false, apart := false, laid := [("unicode/utf8.acceptRanges", laid_unicode_utf8_acceptRanges), ("unicode/utf8.first", laid_unicode_utf8_first)], narrowed := true }
def FnExactIsPointOfUptoSaid : Prop := fnExactIsPointOfUptoRow.holds Tryd.pinned (OpenSpec.upto fnExactIsPointOfSpec)

/-- 'laws.FnExactOrbitPoints', WHERE WHAT IT READS IS OF BULK AT MOST 1048576: true; the input reads as it did. -/
def fnExactOrbitPointsUptoRow : OpenClaim := { program := "ytomcmjnhfloeeaadoor", sum := "3933f0686c40a3ee7fd08031053804db11516cffab0716471350aa5a5fbecf5b", func := "loop.example/g01234/laws.FnExactOrbitPoints", spec := "fnExactOrbitPoints", inPlace := ["internal/bytealg.IndexByteString", "internal/bytealg.IndexString", "internal/abi.NoEscape", "internal/bytealg.MakeNoZero"], named := ["unicode/utf8.first", "unicode/utf8.acceptRanges", "internal/bytealg.MaxLen"], plainKeys := false, apart := false, laid := [("unicode/utf8.acceptRanges", laid_unicode_utf8_acceptRanges), ("unicode/utf8.first", laid_unicode_utf8_first)], narrowed := true }
def FnExactOrbitPointsUptoSaid : Prop := fnExactOrbitPointsUptoRow.holds Tryd.pinned (OpenSpec.upto fnExactOrbitPointsSpec)

end Rows
end Go.Proofs.YtomcmjnhfloeeaaDoor
