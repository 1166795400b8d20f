/-
  No cell of these rows narrows 'for every input' (looked for: loops, veiled, ifaces, maps, wideKeys, modest, calm, conditions, laid).
  DERIVED. THE GIVEN ROWS OF THIS SEAT. 11 by the template 'for every input the law returns true; each argument reads behind the call as it read before'; 0 by the template 'total and deterministic' (their statements: YtfakkibacepdeaaTotals.lean).
  GIVEN WITH THE SEED: the statements are not yours to turn. If you find one false, say at which input.
  Laid BY PROGRAM, IN A SANDBOX (cutbox-rows.mjs): the forced cells as the released guide's own fill.sh prints them over the translation 45b87adfb3e1e625… (all of the seat's roots in one cut). By AI agents, Wed Nov 11 2026. No macro, syntax, notation, axiom, sorry.
-/
import Derived.Test.YtfakkibacepdeaaChecked
import GoSem.Claim
import GoSem.ClaimJoined
import GoSem.ClaimMapViews
import Derived.JoinedTies
import Derived.KernelRfl
namespace Go.Proofs.Ytfakkibacepdeaa
/- THE CELL 'sum', in the pinned program and in every row, IS THE sha256 OF THE DUMP (.gsa) THAT YtfakkibacepdeaaProg.lean LOADS. Nothing in Lean hashes anything: it is a label: what it is worth is what the hold of that sum in a sandbox is worth. -/
noncomputable def Try.pinned : Pinned := { name := "ytfakkibacepdeaa", sum := "45b87adfb3e1e6252124f11707927494a0d20c774c5447be1499946e4f140f40", checked := Try.checked }
namespace Rows
def none {H : Type} : Left H := { results := [], args := [] }

/-- 'laws.FnAngles': WHATEVER THE INPUT: true; the input reads as it did. -/
def fnAnglesSpec : ChangeSpec := { name := "fnAngles", fn := fun _ => fun
  | [d] => { results := [.lit (.bool true)], args := [d] }
  | _ => none }
def fnAnglesRow : OpenClaim := { program := "ytfakkibacepdeaa", sum := "45b87adfb3e1e6252124f11707927494a0d20c774c5447be1499946e4f140f40", func := "loop.example/g01234/laws.FnAngles", spec := "fnAngles", unfollowed := true, recurses := true, plainKeys := false, apart := false }
def FnAnglesSaid : Prop := fnAnglesRow.holds Try.pinned (OpenSpec.ofChange fnAnglesSpec)

/-- ITS FALSE NEIGHBOUR: 'it returns false'. Refute it at one input. -/
def fnAnglesWrong : ChangeSpec := { name := "fnAngles", fn := fun _ => fun
  | [d] => { results := [.lit (.bool false)], args := [d] }
  | _ => none }
def FnAnglesWrongFalsely : Prop := fnAnglesRow.holds Try.pinned (OpenSpec.ofChange fnAnglesWrong)

/-- 'laws.FnWakes': WHATEVER THE INPUT: true; the input reads as it did. -/
def fnWakesSpec : ChangeSpec := { name := "fnWakes", fn := fun _ => fun
  | [d] => { results := [.lit (.bool true)], args := [d] }
  | _ => none }
def fnWakesRow : OpenClaim := { program := "ytfakkibacepdeaa", sum := "45b87adfb3e1e6252124f11707927494a0d20c774c5447be1499946e4f140f40", func := "loop.example/g01234/laws.FnWakes", spec := "fnWakes", unfollowed := true, recurses := true, plainKeys := false, apart := false }
def FnWakesSaid : Prop := fnWakesRow.holds Try.pinned (OpenSpec.ofChange fnWakesSpec)

/-- ITS FALSE NEIGHBOUR: 'it returns false'. Refute it at one input. -/
def fnWakesWrong : ChangeSpec := { name := "fnWakes", fn := fun _ => fun
  | [d] => { results := [.lit (.bool false)], args := [d] }
  | _ => none }
def FnWakesWrongFalsely : Prop := fnWakesRow.holds Try.pinned (OpenSpec.ofChange fnWakesWrong)

/-- 'laws.FnExactSortAngles': WHATEVER THE INPUT: true; the input reads as it did. -/
def fnExactSortAnglesSpec : ChangeSpec := { name := "fnExactSortAngles", fn := fun _ => fun
  | [d] => { results := [.lit (.bool true)], args := [d] }
  | _ => none }
def fnExactSortAnglesRow : OpenClaim := { program := "ytfakkibacepdeaa", sum := "45b87adfb3e1e6252124f11707927494a0d20c774c5447be1499946e4f140f40", func := "loop.example/g01234/laws.FnExactSortAngles", spec := "fnExactSortAngles", unfollowed := true, recurses := true, plainKeys := false, apart := false }
def FnExactSortAnglesSaid : Prop := fnExactSortAnglesRow.holds Try.pinned (OpenSpec.ofChange fnExactSortAnglesSpec)

/-- ITS FALSE NEIGHBOUR: 'it returns false'. Refute it at one input. -/
def fnExactSortAnglesWrong : ChangeSpec := { name := "fnExactSortAngles", fn := fun _ => fun
  | [d] => { results := [.lit (.bool false)], args := [d] }
  | _ => none }
def FnExactSortAnglesWrongFalsely : Prop := fnExactSortAnglesRow.holds Try.pinned (OpenSpec.ofChange fnExactSortAnglesWrong)

/-- 'laws.FnExactSequenceOfAddress': WHATEVER THE INPUT: true; the input reads as it did. -/
def fnExactSequenceOfAddressSpec : ChangeSpec := { name := "fnExactSequenceOfAddress", fn := fun _ => fun
  | [d] => { results := [.lit (.bool true)], args := [d] }
  | _ => none }
def fnExactSequenceOfAddressRow : OpenClaim := { program := "ytfakkibacepdeaa", sum := "45b87adfb3e1e6252124f11707927494a0d20c774c5447be1499946e4f140f40", func := "loop.example/g01234/laws.FnExactSequenceOfAddress", spec := "fnExactSequenceOfAddress", inPlace := ["internal/abi.NoEscape", "internal/bytealg.MakeNoZero"], unfollowed := true, recurses := true, plainKeys := false, apart := false }
def FnExactSequenceOfAddressSaid : Prop := fnExactSequenceOfAddressRow.holds Try.pinned (OpenSpec.ofChange fnExactSequenceOfAddressSpec)

/-- ITS FALSE NEIGHBOUR: 'it returns false'. Refute it at one input. -/
def fnExactSequenceOfAddressWrong : ChangeSpec := { name := "fnExactSequenceOfAddress", fn := fun _ => fun
  | [d] => { results := [.lit (.bool false)], args := [d] }
  | _ => none }
def FnExactSequenceOfAddressWrongFalsely : Prop := fnExactSequenceOfAddressRow.holds Try.pinned (OpenSpec.ofChange fnExactSequenceOfAddressWrong)

/-- 'laws.FnExactAdmissibleWords': WHATEVER THE INPUT: true; the input reads as it did. -/
def fnExactAdmissibleWordsSpec : ChangeSpec := { name := "fnExactAdmissibleWords", fn := fun _ => fun
  | [d] => { results := [.lit (.bool true)], args := [d] }
  | _ => none }
def fnExactAdmissibleWordsRow : OpenClaim := { program := "ytfakkibacepdeaa", sum := "45b87adfb3e1e6252124f11707927494a0d20c774c5447be1499946e4f140f40", func := "loop.example/g01234/laws.FnExactAdmissibleWords", spec := "fnExactAdmissibleWords", unfollowed := true, recurses := true, plainKeys := false, apart := false }
def FnExactAdmissibleWordsSaid : Prop := fnExactAdmissibleWordsRow.holds Try.pinned (OpenSpec.ofChange fnExactAdmissibleWordsSpec)

/-- ITS FALSE NEIGHBOUR: 'it returns false'. Refute it at one input. -/
def fnExactAdmissibleWordsWrong : ChangeSpec := { name := "fnExactAdmissibleWords", fn := fun _ => fun
  | [d] => { results := [.lit (.bool false)], args := [d] }
  | _ => none }
def FnExactAdmissibleWordsWrongFalsely : Prop := fnExactAdmissibleWordsRow.holds Try.pinned (OpenSpec.ofChange fnExactAdmissibleWordsWrong)

/-- 'laws.FnExactAddLeaf': WHATEVER THE INPUT: true; the input reads as it did. -/
def fnExactAddLeafSpec : ChangeSpec := { name := "fnExactAddLeaf", fn := fun _ => fun
  | [d1, d2] => { results := [.lit (.bool true)], args := [d1, d2] }
  | _ => none }
def fnExactAddLeafRow : OpenClaim := { program := "ytfakkibacepdeaa", sum := "45b87adfb3e1e6252124f11707927494a0d20c774c5447be1499946e4f140f40", func := "loop.example/g01234/laws.FnExactAddLeaf", spec := "fnExactAddLeaf", unfollowed := true, recurses := true, plainKeys := false, apart := false }
def FnExactAddLeafSaid : Prop := fnExactAddLeafRow.holds Try.pinned (OpenSpec.ofChange fnExactAddLeafSpec)

/-- ITS FALSE NEIGHBOUR: 'it returns false'. Refute it at one input. -/
def fnExactAddLeafWrong : ChangeSpec := { name := "fnExactAddLeaf", fn := fun _ => fun
  | [d1, d2] => { results := [.lit (.bool false)], args := [d1, d2] }
  | _ => none }
def FnExactAddLeafWrongFalsely : Prop := fnExactAddLeafRow.holds Try.pinned (OpenSpec.ofChange fnExactAddLeafWrong)

/-- 'laws.FnExactGapAround': WHATEVER THE INPUT: true; the input reads as it did. -/
def fnExactGapAroundSpec : ChangeSpec := { name := "fnExactGapAround", fn := fun _ => fun
  | [d1, d2] => { results := [.lit (.bool true)], args := [d1, d2] }
  | _ => none }
def fnExactGapAroundRow : OpenClaim := { program := "ytfakkibacepdeaa", sum := "45b87adfb3e1e6252124f11707927494a0d20c774c5447be1499946e4f140f40", func := "loop.example/g01234/laws.FnExactGapAround", spec := "fnExactGapAround", unfollowed := true, recurses := true, plainKeys := false, apart := false }
def FnExactGapAroundSaid : Prop := fnExactGapAroundRow.holds Try.pinned (OpenSpec.ofChange fnExactGapAroundSpec)

/-- ITS FALSE NEIGHBOUR: 'it returns false'. Refute it at one input. -/
def fnExactGapAroundWrong : ChangeSpec := { name := "fnExactGapAround", fn := fun _ => fun
  | [d1, d2] => { results := [.lit (.bool false)], args := [d1, d2] }
  | _ => none }
def FnExactGapAroundWrongFalsely : Prop := fnExactGapAroundRow.holds Try.pinned (OpenSpec.ofChange fnExactGapAroundWrong)

/-- 'laws.FnExactPolygonOf': WHATEVER THE INPUT: true; the input reads as it did. -/
def fnExactPolygonOfSpec : ChangeSpec := { name := "fnExactPolygonOf", fn := fun _ => fun
  | [d] => { results := [.lit (.bool true)], args := [d] }
  | _ => none }
def fnExactPolygonOfRow : OpenClaim := { program := "ytfakkibacepdeaa", sum := "45b87adfb3e1e6252124f11707927494a0d20c774c5447be1499946e4f140f40", func := "loop.example/g01234/laws.FnExactPolygonOf", spec := "fnExactPolygonOf", unfollowed := true, recurses := true, plainKeys := false, apart := false }
def FnExactPolygonOfSaid : Prop := fnExactPolygonOfRow.holds Try.pinned (OpenSpec.ofChange fnExactPolygonOfSpec)

/-- ITS FALSE NEIGHBOUR: 'it returns false'. Refute it at one input. -/
def fnExactPolygonOfWrong : ChangeSpec := { name := "fnExactPolygonOf", fn := fun _ => fun
  | [d] => { results := [.lit (.bool false)], args := [d] }
  | _ => none }
def FnExactPolygonOfWrongFalsely : Prop := fnExactPolygonOfRow.holds Try.pinned (OpenSpec.ofChange fnExactPolygonOfWrong)

/-- 'laws.FnExactWakesAround': WHATEVER THE INPUT: true; the input reads as it did. -/
def fnExactWakesAroundSpec : ChangeSpec := { name := "fnExactWakesAround", fn := fun _ => fun
  | [d1, d2] => { results := [.lit (.bool true)], args := [d1, d2] }
  | _ => none }
def fnExactWakesAroundRow : OpenClaim := { program := "ytfakkibacepdeaa", sum := "45b87adfb3e1e6252124f11707927494a0d20c774c5447be1499946e4f140f40", func := "loop.example/g01234/laws.FnExactWakesAround", spec := "fnExactWakesAround", unfollowed := true, recurses := true, plainKeys := false, apart := false }
def FnExactWakesAroundSaid : Prop := fnExactWakesAroundRow.holds Try.pinned (OpenSpec.ofChange fnExactWakesAroundSpec)

/-- ITS FALSE NEIGHBOUR: 'it returns false'. Refute it at one input. -/
def fnExactWakesAroundWrong : ChangeSpec := { name := "fnExactWakesAround", fn := fun _ => fun
  | [d1, d2] => { results := [.lit (.bool false)], args := [d1, d2] }
  | _ => none }
def FnExactWakesAroundWrongFalsely : Prop := fnExactWakesAroundRow.holds Try.pinned (OpenSpec.ofChange fnExactWakesAroundWrong)

/-- 'laws.FnExactParentOf': WHATEVER THE INPUT: true; the input reads as it did. -/
def fnExactParentOfSpec : ChangeSpec := { name := "fnExactParentOf", fn := fun _ => fun
  | [d] => { results := [.lit (.bool true)], args := [d] }
  | _ => none }
def fnExactParentOfRow : OpenClaim := { program := "ytfakkibacepdeaa", sum := "45b87adfb3e1e6252124f11707927494a0d20c774c5447be1499946e4f140f40", func := "loop.example/g01234/laws.FnExactParentOf", spec := "fnExactParentOf", unfollowed := true, recurses := true, plainKeys := false, apart := false }
def FnExactParentOfSaid : Prop := fnExactParentOfRow.holds Try.pinned (OpenSpec.ofChange fnExactParentOfSpec)

/-- ITS FALSE NEIGHBOUR: 'it returns false'. Refute it at one input. -/
def fnExactParentOfWrong : ChangeSpec := { name := "fnExactParentOf", fn := fun _ => fun
  | [d] => { results := [.lit (.bool false)], args := [d] }
  | _ => none }
def FnExactParentOfWrongFalsely : Prop := fnExactParentOfRow.holds Try.pinned (OpenSpec.ofChange fnExactParentOfWrong)

/-- 'laws.FnExactDepthOf': WHATEVER THE INPUT: true; the input reads as it did. -/
def fnExactDepthOfSpec : ChangeSpec := { name := "fnExactDepthOf", fn := fun _ => fun
  | [d] => { results := [.lit (.bool true)], args := [d] }
  | _ => none }
def fnExactDepthOfRow : OpenClaim := { program := "ytfakkibacepdeaa", sum := "45b87adfb3e1e6252124f11707927494a0d20c774c5447be1499946e4f140f40", func := "loop.example/g01234/laws.FnExactDepthOf", spec := "fnExactDepthOf", unfollowed := true, recurses := true, plainKeys := false, apart := false }
def FnExactDepthOfSaid : Prop := fnExactDepthOfRow.holds Try.pinned (OpenSpec.ofChange fnExactDepthOfSpec)

/-- ITS FALSE NEIGHBOUR: 'it returns false'. Refute it at one input. -/
def fnExactDepthOfWrong : ChangeSpec := { name := "fnExactDepthOf", fn := fun _ => fun
  | [d] => { results := [.lit (.bool false)], args := [d] }
  | _ => none }
def FnExactDepthOfWrongFalsely : Prop := fnExactDepthOfRow.holds Try.pinned (OpenSpec.ofChange fnExactDepthOfWrong)

/- THE SECOND FORM. 'bulk': how many values and letters a reading holds, each counted each time it is reached (what is shared counts as often as it is met; a slice's spare places count too). A statement '..UptoSaid' is the law's where the arguments, and the package variables that the reading takes, are together of bulk at most 1048576: NARROWER than '..Said'. Prove '..Said' where nothing that the law and all that it calls make is longer than what came in: it says more and counts as full. Else prove '..UptoSaid'. A law counts once. -/
mutual
def uptoBulk {H : Type} : DataW H → Nat
  | .lit (.string bytes) => bytes.length + 1
  | .lit _ => 1
  | .nil => 1
  | .ptr d => uptoBulk d + 1
  | .slice elems spare => uptoBulkAll elems + uptoBulkAll spare + 1
  | .agg parts => uptoBulkAll parts + 1
  | .iface _ d => uptoBulk d + 1
  | .map entries => uptoBulkEntries entries + 1
  | .held _ => 1
def uptoBulkAll {H : Type} : List (DataW H) → Nat
  | [] => 0
  | d :: r => uptoBulk d + uptoBulkAll r
def uptoBulkEntries {H : Type} : List (Lit × DataW H) → Nat
  | [] => 0
  | x :: r => uptoBulkEntry x + uptoBulkEntries r
def uptoBulkEntry {H : Type} : Lit × DataW H → Nat
  | (.string bytes, d) => bytes.length + uptoBulk d + 1
  | (_, d) => uptoBulk d + 1
 end
def uptoSmall : (H : Type) → List (DataW H) → Bool := fun _ ds => decide (uptoBulkAll ds ≤ 1048576)
def OpenSpec.upto (s : _root_.Go.ChangeSpec) : _root_.Go.OpenSpec := { _root_.Go.OpenSpec.ofChange s with cond := some uptoSmall }

/-- 'laws.FnAngles', WHERE WHAT IT READS IS OF BULK AT MOST 1048576: true; the input reads as it did. -/
def fnAnglesUptoRow : OpenClaim := { program := "ytfakkibacepdeaa", sum := "45b87adfb3e1e6252124f11707927494a0d20c774c5447be1499946e4f140f40", func := "loop.example/g01234/laws.FnAngles", spec := "fnAngles", unfollowed := true, recurses := true, plainKeys := false, apart := false, narrowed := true }
def FnAnglesUptoSaid : Prop := fnAnglesUptoRow.holds Try.pinned (OpenSpec.upto fnAnglesSpec)

/-- 'laws.FnWakes', WHERE WHAT IT READS IS OF BULK AT MOST 1048576: true; the input reads as it did. -/
def fnWakesUptoRow : OpenClaim := { program := "ytfakkibacepdeaa", sum := "45b87adfb3e1e6252124f11707927494a0d20c774c5447be1499946e4f140f40", func := "loop.example/g01234/laws.FnWakes", spec := "fnWakes", unfollowed := true, recurses := true, plainKeys := false, apart := false, narrowed := true }
def FnWakesUptoSaid : Prop := fnWakesUptoRow.holds Try.pinned (OpenSpec.upto fnWakesSpec)

/-- 'laws.FnExactSortAngles', WHERE WHAT IT READS IS OF BULK AT MOST 1048576: true; the input reads as it did. -/
def fnExactSortAnglesUptoRow : OpenClaim := { program := "ytfakkibacepdeaa", sum := "45b87adfb3e1e6252124f11707927494a0d20c774c5447be1499946e4f140f40", func := "loop.example/g01234/laws.FnExactSortAngles", spec := "fnExactSortAngles", unfollowed := true, recurses := true, plainKeys := false, apart := false, narrowed := true }
def FnExactSortAnglesUptoSaid : Prop := fnExactSortAnglesUptoRow.holds Try.pinned (OpenSpec.upto fnExactSortAnglesSpec)

/-- 'laws.FnExactSequenceOfAddress', WHERE WHAT IT READS IS OF BULK AT MOST 1048576: true; the input reads as it did. -/
def fnExactSequenceOfAddressUptoRow : OpenClaim := { program := "ytfakkibacepdeaa", sum := "45b87adfb3e1e6252124f11707927494a0d20c774c5447be1499946e4f140f40", func := "loop.example/g01234/laws.FnExactSequenceOfAddress", spec := "fnExactSequenceOfAddress", inPlace := ["internal/abi.NoEscape", "internal/bytealg.MakeNoZero"], unfollowed := true, recurses := true, plainKeys := false, apart := false, narrowed := true }
def FnExactSequenceOfAddressUptoSaid : Prop := fnExactSequenceOfAddressUptoRow.holds Try.pinned (OpenSpec.upto fnExactSequenceOfAddressSpec)

/-- 'laws.FnExactAdmissibleWords', WHERE WHAT IT READS IS OF BULK AT MOST 1048576: true; the input reads as it did. -/
def fnExactAdmissibleWordsUptoRow : OpenClaim := { program := "ytfakkibacepdeaa", sum := "45b87adfb3e1e6252124f11707927494a0d20c774c5447be1499946e4f140f40", func := "loop.example/g01234/laws.FnExactAdmissibleWords", spec := "fnExactAdmissibleWords", unfollowed := true, recurses := true, plainKeys := false, apart := false, narrowed := true }
def FnExactAdmissibleWordsUptoSaid : Prop := fnExactAdmissibleWordsUptoRow.holds Try.pinned (OpenSpec.upto fnExactAdmissibleWordsSpec)

/-- 'laws.FnExactAddLeaf', WHERE WHAT IT READS IS OF BULK AT MOST 1048576: true; the input reads as it did. -/
def fnExactAddLeafUptoRow : OpenClaim := { program := "ytfakkibacepdeaa", sum := "45b87adfb3e1e6252124f11707927494a0d20c774c5447be1499946e4f140f40", func := "loop.example/g01234/laws.FnExactAddLeaf", spec := "fnExactAddLeaf", unfollowed := true, recurses := true, plainKeys := false, apart := false, narrowed := true }
def FnExactAddLeafUptoSaid : Prop := fnExactAddLeafUptoRow.holds Try.pinned (OpenSpec.upto fnExactAddLeafSpec)

/-- 'laws.FnExactGapAround', WHERE WHAT IT READS IS OF BULK AT MOST 1048576: true; the input reads as it did. -/
def fnExactGapAroundUptoRow : OpenClaim := { program := "ytfakkibacepdeaa", sum := "45b87adfb3e1e6252124f11707927494a0d20c774c5447be1499946e4f140f40", func := "loop.example/g01234/laws.FnExactGapAround", spec := "fnExactGapAround", unfollowed := true, recurses := true, plainKeys := false, apart := false, narrowed := true }
def FnExactGapAroundUptoSaid : Prop := fnExactGapAroundUptoRow.holds Try.pinned (OpenSpec.upto fnExactGapAroundSpec)

/-- 'laws.FnExactPolygonOf', WHERE WHAT IT READS IS OF BULK AT MOST 1048576: true; the input reads as it did. -/
def fnExactPolygonOfUptoRow : OpenClaim := { program := "ytfakkibacepdeaa", sum := "45b87adfb3e1e6252124f11707927494a0d20c774c5447be1499946e4f140f40", func := "loop.example/g01234/laws.FnExactPolygonOf", spec := "fnExactPolygonOf", unfollowed := true, recurses := true, plainKeys := false, apart := false, narrowed := true }
def FnExactPolygonOfUptoSaid : Prop := fnExactPolygonOfUptoRow.holds Try.pinned (OpenSpec.upto fnExactPolygonOfSpec)

/-- 'laws.FnExactWakesAround', WHERE WHAT IT READS IS OF BULK AT MOST 1048576: true; the input reads as it did. -/
def fnExactWakesAroundUptoRow : OpenClaim := { program := "ytfakkibacepdeaa", sum := "45b87adfb3e1e6252124f11707927494a0d20c774c5447be1499946e4f140f40", func := "loop.example/g01234/laws.FnExactWakesAround", spec := "fnExactWakesAround", unfollowed := true, recurses := true, plainKeys := false, apart := false, narrowed := true }
def FnExactWakesAroundUptoSaid : Prop := fnExactWakesAroundUptoRow.holds Try.pinned (OpenSpec.upto fnExactWakesAroundSpec)

/-- 'laws.FnExactParentOf', WHERE WHAT IT READS IS OF BULK AT MOST 1048576: true; the input reads as it did. -/
def fnExactParentOfUptoRow : OpenClaim := { program := "ytfakkibacepdeaa", sum := "45b87adfb3e1e6252124f11707927494a0d20c774c5447be1499946e4f140f40", func := "loop.example/g01234/laws.FnExactParentOf", spec := "fnExactParentOf", unfollowed := true, recurses := true, plainKeys := false, apart := false, narrowed := true }
def FnExactParentOfUptoSaid : Prop := fnExactParentOfUptoRow.holds Try.pinned (OpenSpec.upto fnExactParentOfSpec)

/-- 'laws.FnExactDepthOf', WHERE WHAT IT READS IS OF BULK AT MOST 1048576: true; the input reads as it did. -/
def fnExactDepthOfUptoRow : OpenClaim := { program := "ytfakkibacepdeaa", sum := "45b87adfb3e1e6252124f11707927494a0d20c774c5447be1499946e4f140f40", func := "loop.example/g01234/laws.FnExactDepthOf", spec := "fnExactDepthOf", unfollowed := true, recurses := true, plainKeys := false, apart := false, narrowed := true }
def FnExactDepthOfUptoSaid : Prop := fnExactDepthOfUptoRow.holds Try.pinned (OpenSpec.upto fnExactDepthOfSpec)

end Rows
end Go.Proofs.Ytfakkibacepdeaa
