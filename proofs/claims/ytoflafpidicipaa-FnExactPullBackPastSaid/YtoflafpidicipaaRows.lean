/-
  No cell of these rows narrows 'for every input' (looked for: loops, veiled, ifaces, maps, wideKeys, modest, calm, conditions, laid).
  DERIVED. THE GIVEN ROWS OF THIS SEAT. 11 by the template 'for every input the law returns true; each argument reads behind the call as it read before'; 0 by the template 'total and deterministic' (their statements: YtoflafpidicipaaTotals.lean).
  GIVEN WITH THE SEED: the statements are not yours to turn. If you find one false, say at which input.
  Laid BY PROGRAM, IN A SANDBOX (cutbox-rows.mjs): the forced cells as the released guide's own fill.sh prints them over the translation 9c01bd6fff71f620… (all of the seat's roots in one cut). By AI agents, Wed Nov 11 2026. No macro, syntax, notation, axiom, sorry.
-/
import Derived.Test.YtoflafpidicipaaChecked
import GoSem.Claim
import GoSem.ClaimJoined
import GoSem.ClaimMapViews
import Derived.JoinedTies
import Derived.KernelRfl
namespace Go.Proofs.Ytoflafpidicipaa
/- THE CELL 'sum', in the pinned program and in every row, IS THE sha256 OF THE DUMP (.gsa) THAT YtoflafpidicipaaProg.lean LOADS. Nothing in Lean hashes anything: it is a label: what it is worth is what the hold of that sum in a sandbox is worth. -/
noncomputable def Try.pinned : Pinned := { name := "ytoflafpidicipaa", sum := "9c01bd6fff71f620e8ebdff74987f8e0069ae432b0df4f85e14791de67c35db0", checked := Try.checked }
namespace Rows
def none {H : Type} : Left H := { results := [], args := [] }

/-- 'laws.FnExactIsLeaf': WHATEVER THE INPUT: true; the input reads as it did. -/
def fnExactIsLeafSpec : ChangeSpec := { name := "fnExactIsLeaf", fn := fun _ => fun
  | [d] => { results := [.lit (.bool true)], args := [d] }
  | _ => none }
def fnExactIsLeafRow : OpenClaim := { program := "ytoflafpidicipaa", sum := "9c01bd6fff71f620e8ebdff74987f8e0069ae432b0df4f85e14791de67c35db0", func := "loop.example/g01234/laws.FnExactIsLeaf", spec := "fnExactIsLeaf", plainKeys := false, apart := false }
def FnExactIsLeafSaid : Prop := fnExactIsLeafRow.holds Try.pinned (OpenSpec.ofChange fnExactIsLeafSpec)

/-- ITS FALSE NEIGHBOUR: 'it returns false'. Refute it at one input. -/
def fnExactIsLeafWrong : ChangeSpec := { name := "fnExactIsLeaf", fn := fun _ => fun
  | [d] => { results := [.lit (.bool false)], args := [d] }
  | _ => none }
def FnExactIsLeafWrongFalsely : Prop := fnExactIsLeafRow.holds Try.pinned (OpenSpec.ofChange fnExactIsLeafWrong)

/-- 'laws.FnExactLeafOf': WHATEVER THE INPUT: true; the input reads as it did. -/
def fnExactLeafOfSpec : ChangeSpec := { name := "fnExactLeafOf", fn := fun _ => fun
  | [d1, d2] => { results := [.lit (.bool true)], args := [d1, d2] }
  | _ => none }
def fnExactLeafOfRow : OpenClaim := { program := "ytoflafpidicipaa", sum := "9c01bd6fff71f620e8ebdff74987f8e0069ae432b0df4f85e14791de67c35db0", func := "loop.example/g01234/laws.FnExactLeafOf", spec := "fnExactLeafOf", plainKeys := false, apart := false }
def FnExactLeafOfSaid : Prop := fnExactLeafOfRow.holds Try.pinned (OpenSpec.ofChange fnExactLeafOfSpec)

/-- ITS FALSE NEIGHBOUR: 'it returns false'. Refute it at one input. -/
def fnExactLeafOfWrong : ChangeSpec := { name := "fnExactLeafOf", fn := fun _ => fun
  | [d1, d2] => { results := [.lit (.bool false)], args := [d1, d2] }
  | _ => none }
def FnExactLeafOfWrongFalsely : Prop := fnExactLeafOfRow.holds Try.pinned (OpenSpec.ofChange fnExactLeafOfWrong)

/-- 'laws.FnExactLeafLength': WHATEVER THE INPUT: true; the input reads as it did. -/
def fnExactLeafLengthSpec : ChangeSpec := { name := "fnExactLeafLength", fn := fun _ => fun
  | [d] => { results := [.lit (.bool true)], args := [d] }
  | _ => none }
def fnExactLeafLengthRow : OpenClaim := { program := "ytoflafpidicipaa", sum := "9c01bd6fff71f620e8ebdff74987f8e0069ae432b0df4f85e14791de67c35db0", func := "loop.example/g01234/laws.FnExactLeafLength", spec := "fnExactLeafLength", unfollowed := true, recurses := true, plainKeys := false, apart := false }
def FnExactLeafLengthSaid : Prop := fnExactLeafLengthRow.holds Try.pinned (OpenSpec.ofChange fnExactLeafLengthSpec)

/-- ITS FALSE NEIGHBOUR: 'it returns false'. Refute it at one input. -/
def fnExactLeafLengthWrong : ChangeSpec := { name := "fnExactLeafLength", fn := fun _ => fun
  | [d] => { results := [.lit (.bool false)], args := [d] }
  | _ => none }
def FnExactLeafLengthWrongFalsely : Prop := fnExactLeafLengthRow.holds Try.pinned (OpenSpec.ofChange fnExactLeafLengthWrong)

/-- 'laws.FnExactDoLeavesCross': WHATEVER THE INPUT: true; the input reads as it did. -/
def fnExactDoLeavesCrossSpec : ChangeSpec := { name := "fnExactDoLeavesCross", fn := fun _ => fun
  | [d1, d2] => { results := [.lit (.bool true)], args := [d1, d2] }
  | _ => none }
def fnExactDoLeavesCrossRow : OpenClaim := { program := "ytoflafpidicipaa", sum := "9c01bd6fff71f620e8ebdff74987f8e0069ae432b0df4f85e14791de67c35db0", func := "loop.example/g01234/laws.FnExactDoLeavesCross", spec := "fnExactDoLeavesCross", plainKeys := false, apart := false }
def FnExactDoLeavesCrossSaid : Prop := fnExactDoLeavesCrossRow.holds Try.pinned (OpenSpec.ofChange fnExactDoLeavesCrossSpec)

/-- ITS FALSE NEIGHBOUR: 'it returns false'. Refute it at one input. -/
def fnExactDoLeavesCrossWrong : ChangeSpec := { name := "fnExactDoLeavesCross", fn := fun _ => fun
  | [d1, d2] => { results := [.lit (.bool false)], args := [d1, d2] }
  | _ => none }
def FnExactDoLeavesCrossWrongFalsely : Prop := fnExactDoLeavesCrossRow.holds Try.pinned (OpenSpec.ofChange fnExactDoLeavesCrossWrong)

/-- 'laws.FnExactImageOfLeaf': WHATEVER THE INPUT: true; the input reads as it did. -/
def fnExactImageOfLeafSpec : ChangeSpec := { name := "fnExactImageOfLeaf", fn := fun _ => fun
  | [d] => { results := [.lit (.bool true)], args := [d] }
  | _ => none }
def fnExactImageOfLeafRow : OpenClaim := { program := "ytoflafpidicipaa", sum := "9c01bd6fff71f620e8ebdff74987f8e0069ae432b0df4f85e14791de67c35db0", func := "loop.example/g01234/laws.FnExactImageOfLeaf", spec := "fnExactImageOfLeaf", plainKeys := false, apart := false }
def FnExactImageOfLeafSaid : Prop := fnExactImageOfLeafRow.holds Try.pinned (OpenSpec.ofChange fnExactImageOfLeafSpec)

/-- ITS FALSE NEIGHBOUR: 'it returns false'. Refute it at one input. -/
def fnExactImageOfLeafWrong : ChangeSpec := { name := "fnExactImageOfLeaf", fn := fun _ => fun
  | [d] => { results := [.lit (.bool false)], args := [d] }
  | _ => none }
def FnExactImageOfLeafWrongFalsely : Prop := fnExactImageOfLeafRow.holds Try.pinned (OpenSpec.ofChange fnExactImageOfLeafWrong)

/-- 'laws.FnExactPullBackPast': WHATEVER THE INPUT: true; the input reads as it did. -/
def fnExactPullBackPastSpec : ChangeSpec := { name := "fnExactPullBackPast", fn := fun _ => fun
  | [d1, d2] => { results := [.lit (.bool true)], args := [d1, d2] }
  | _ => none }
def fnExactPullBackPastRow : OpenClaim := { program := "ytoflafpidicipaa", sum := "9c01bd6fff71f620e8ebdff74987f8e0069ae432b0df4f85e14791de67c35db0", func := "loop.example/g01234/laws.FnExactPullBackPast", spec := "fnExactPullBackPast", plainKeys := false, apart := false }
def FnExactPullBackPastSaid : Prop := fnExactPullBackPastRow.holds Try.pinned (OpenSpec.ofChange fnExactPullBackPastSpec)

/-- ITS FALSE NEIGHBOUR: 'it returns false'. Refute it at one input. -/
def fnExactPullBackPastWrong : ChangeSpec := { name := "fnExactPullBackPast", fn := fun _ => fun
  | [d1, d2] => { results := [.lit (.bool false)], args := [d1, d2] }
  | _ => none }
def FnExactPullBackPastWrongFalsely : Prop := fnExactPullBackPastRow.holds Try.pinned (OpenSpec.ofChange fnExactPullBackPastWrong)

/-- 'laws.FnExactIsLamination': WHATEVER THE INPUT: true; the input reads as it did. -/
def fnExactIsLaminationSpec : ChangeSpec := { name := "fnExactIsLamination", fn := fun _ => fun
  | [d] => { results := [.lit (.bool true)], args := [d] }
  | _ => none }
def fnExactIsLaminationRow : OpenClaim := { program := "ytoflafpidicipaa", sum := "9c01bd6fff71f620e8ebdff74987f8e0069ae432b0df4f85e14791de67c35db0", func := "loop.example/g01234/laws.FnExactIsLamination", spec := "fnExactIsLamination", unfollowed := true, recurses := true, plainKeys := false, apart := false }
def FnExactIsLaminationSaid : Prop := fnExactIsLaminationRow.holds Try.pinned (OpenSpec.ofChange fnExactIsLaminationSpec)

/-- ITS FALSE NEIGHBOUR: 'it returns false'. Refute it at one input. -/
def fnExactIsLaminationWrong : ChangeSpec := { name := "fnExactIsLamination", fn := fun _ => fun
  | [d] => { results := [.lit (.bool false)], args := [d] }
  | _ => none }
def FnExactIsLaminationWrongFalsely : Prop := fnExactIsLaminationRow.holds Try.pinned (OpenSpec.ofChange fnExactIsLaminationWrong)

/-- 'laws.FnExactAddLeaf': WHATEVER THE INPUT: true; the input reads as it did. -/
def fnExactAddLeafSpec : ChangeSpec := { name := "fnExactAddLeaf", fn := fun _ => fun
  | [d1, d2] => { results := [.lit (.bool true)], args := [d1, d2] }
  | _ => none }
def fnExactAddLeafRow : OpenClaim := { program := "ytoflafpidicipaa", sum := "9c01bd6fff71f620e8ebdff74987f8e0069ae432b0df4f85e14791de67c35db0", func := "loop.example/g01234/laws.FnExactAddLeaf", spec := "fnExactAddLeaf", unfollowed := true, recurses := true, plainKeys := false, apart := false }
def FnExactAddLeafSaid : Prop := fnExactAddLeafRow.holds Try.pinned (OpenSpec.ofChange fnExactAddLeafSpec)

/-- ITS FALSE NEIGHBOUR: 'it returns false'. Refute it at one input. -/
def fnExactAddLeafWrong : ChangeSpec := { name := "fnExactAddLeaf", fn := fun _ => fun
  | [d1, d2] => { results := [.lit (.bool false)], args := [d1, d2] }
  | _ => none }
def FnExactAddLeafWrongFalsely : Prop := fnExactAddLeafRow.holds Try.pinned (OpenSpec.ofChange fnExactAddLeafWrong)

/-- 'laws.FnExactGapAround': WHATEVER THE INPUT: true; the input reads as it did. -/
def fnExactGapAroundSpec : ChangeSpec := { name := "fnExactGapAround", fn := fun _ => fun
  | [d1, d2] => { results := [.lit (.bool true)], args := [d1, d2] }
  | _ => none }
def fnExactGapAroundRow : OpenClaim := { program := "ytoflafpidicipaa", sum := "9c01bd6fff71f620e8ebdff74987f8e0069ae432b0df4f85e14791de67c35db0", func := "loop.example/g01234/laws.FnExactGapAround", spec := "fnExactGapAround", unfollowed := true, recurses := true, plainKeys := false, apart := false }
def FnExactGapAroundSaid : Prop := fnExactGapAroundRow.holds Try.pinned (OpenSpec.ofChange fnExactGapAroundSpec)

/-- ITS FALSE NEIGHBOUR: 'it returns false'. Refute it at one input. -/
def fnExactGapAroundWrong : ChangeSpec := { name := "fnExactGapAround", fn := fun _ => fun
  | [d1, d2] => { results := [.lit (.bool false)], args := [d1, d2] }
  | _ => none }
def FnExactGapAroundWrongFalsely : Prop := fnExactGapAroundRow.holds Try.pinned (OpenSpec.ofChange fnExactGapAroundWrong)

/-- 'laws.FnExactPolygonOf': WHATEVER THE INPUT: true; the input reads as it did. -/
def fnExactPolygonOfSpec : ChangeSpec := { name := "fnExactPolygonOf", fn := fun _ => fun
  | [d] => { results := [.lit (.bool true)], args := [d] }
  | _ => none }
def fnExactPolygonOfRow : OpenClaim := { program := "ytoflafpidicipaa", sum := "9c01bd6fff71f620e8ebdff74987f8e0069ae432b0df4f85e14791de67c35db0", func := "loop.example/g01234/laws.FnExactPolygonOf", spec := "fnExactPolygonOf", unfollowed := true, recurses := true, plainKeys := false, apart := false }
def FnExactPolygonOfSaid : Prop := fnExactPolygonOfRow.holds Try.pinned (OpenSpec.ofChange fnExactPolygonOfSpec)

/-- ITS FALSE NEIGHBOUR: 'it returns false'. Refute it at one input. -/
def fnExactPolygonOfWrong : ChangeSpec := { name := "fnExactPolygonOf", fn := fun _ => fun
  | [d] => { results := [.lit (.bool false)], args := [d] }
  | _ => none }
def FnExactPolygonOfWrongFalsely : Prop := fnExactPolygonOfRow.holds Try.pinned (OpenSpec.ofChange fnExactPolygonOfWrong)

/-- 'laws.FnExactImagesOfLeaf': WHATEVER THE INPUT: true; the input reads as it did. -/
def fnExactImagesOfLeafSpec : ChangeSpec := { name := "fnExactImagesOfLeaf", fn := fun _ => fun
  | [d] => { results := [.lit (.bool true)], args := [d] }
  | _ => none }
def fnExactImagesOfLeafRow : OpenClaim := { program := "ytoflafpidicipaa", sum := "9c01bd6fff71f620e8ebdff74987f8e0069ae432b0df4f85e14791de67c35db0", func := "loop.example/g01234/laws.FnExactImagesOfLeaf", spec := "fnExactImagesOfLeaf", plainKeys := false, apart := false }
def FnExactImagesOfLeafSaid : Prop := fnExactImagesOfLeafRow.holds Try.pinned (OpenSpec.ofChange fnExactImagesOfLeafSpec)

/-- ITS FALSE NEIGHBOUR: 'it returns false'. Refute it at one input. -/
def fnExactImagesOfLeafWrong : ChangeSpec := { name := "fnExactImagesOfLeaf", fn := fun _ => fun
  | [d] => { results := [.lit (.bool false)], args := [d] }
  | _ => none }
def FnExactImagesOfLeafWrongFalsely : Prop := fnExactImagesOfLeafRow.holds Try.pinned (OpenSpec.ofChange fnExactImagesOfLeafWrong)

/- THE SECOND FORM. 'bulk': how many values and letters a reading holds, each counted each time it is reached (what is shared counts as often as it is met; a slice's spare places count too). A statement '..UptoSaid' is the law's where the arguments, and the package variables that the reading takes, are together of bulk at most 1048576: NARROWER than '..Said'. Prove '..Said' where nothing that the law and all that it calls make is longer than what came in: it says more and counts as full. Else prove '..UptoSaid'. A law counts once. -/
mutual
def uptoBulk {H : Type} : DataW H → Nat
  | .lit (.string bytes) => bytes.length + 1
  | .lit _ => 1
  | .nil => 1
  | .ptr d => uptoBulk d + 1
  | .slice elems spare => uptoBulkAll elems + uptoBulkAll spare + 1
  | .agg parts => uptoBulkAll parts + 1
  | .iface _ d => uptoBulk d + 1
  | .map entries => uptoBulkEntries entries + 1
  | .held _ => 1
def uptoBulkAll {H : Type} : List (DataW H) → Nat
  | [] => 0
  | d :: r => uptoBulk d + uptoBulkAll r
def uptoBulkEntries {H : Type} : List (Lit × DataW H) → Nat
  | [] => 0
  | x :: r => uptoBulkEntry x + uptoBulkEntries r
def uptoBulkEntry {H : Type} : Lit × DataW H → Nat
  | (.string bytes, d) => bytes.length + uptoBulk d + 1
  | (_, d) => uptoBulk d + 1
 end
def uptoSmall : (H : Type) → List (DataW H) → Bool := fun _ ds => decide (uptoBulkAll ds ≤ 1048576)
def OpenSpec.upto (s : _root_.Go.ChangeSpec) : _root_.Go.OpenSpec := { _root_.Go.OpenSpec.ofChange s with cond := some uptoSmall }

/-- 'laws.FnExactIsLeaf', WHERE WHAT IT READS IS OF BULK AT MOST 1048576: true; the input reads as it did. -/
def fnExactIsLeafUptoRow : OpenClaim := { program := "ytoflafpidicipaa", sum := "9c01bd6fff71f620e8ebdff74987f8e0069ae432b0df4f85e14791de67c35db0", func := "loop.example/g01234/laws.FnExactIsLeaf", spec := "fnExactIsLeaf", plainKeys := false, apart := false, narrowed := true }
def FnExactIsLeafUptoSaid : Prop := fnExactIsLeafUptoRow.holds Try.pinned (OpenSpec.upto fnExactIsLeafSpec)

/-- 'laws.FnExactLeafOf', WHERE WHAT IT READS IS OF BULK AT MOST 1048576: true; the input reads as it did. -/
def fnExactLeafOfUptoRow : OpenClaim := { program := "ytoflafpidicipaa", sum := "9c01bd6fff71f620e8ebdff74987f8e0069ae432b0df4f85e14791de67c35db0", func := "loop.example/g01234/laws.FnExactLeafOf", spec := "fnExactLeafOf", plainKeys := false, apart := false, narrowed := true }
def FnExactLeafOfUptoSaid : Prop := fnExactLeafOfUptoRow.holds Try.pinned (OpenSpec.upto fnExactLeafOfSpec)

/-- 'laws.FnExactLeafLength', WHERE WHAT IT READS IS OF BULK AT MOST 1048576: true; the input reads as it did. -/
def fnExactLeafLengthUptoRow : OpenClaim := { program := "ytoflafpidicipaa", sum := "9c01bd6fff71f620e8ebdff74987f8e0069ae432b0df4f85e14791de67c35db0", func := "loop.example/g01234/laws.FnExactLeafLength", spec := "fnExactLeafLength", unfollowed := true, recurses := true, plainKeys := false, apart := false, narrowed := true }
def FnExactLeafLengthUptoSaid : Prop := fnExactLeafLengthUptoRow.holds Try.pinned (OpenSpec.upto fnExactLeafLengthSpec)

/-- 'laws.FnExactDoLeavesCross', WHERE WHAT IT READS IS OF BULK AT MOST 1048576: true; the input reads as it did. -/
def fnExactDoLeavesCrossUptoRow : OpenClaim := { program := "ytoflafpidicipaa", sum := "9c01bd6fff71f620e8ebdff74987f8e0069ae432b0df4f85e14791de67c35db0", func := "loop.example/g01234/laws.FnExactDoLeavesCross", spec := "fnExactDoLeavesCross", plainKeys := false, apart := false, narrowed := true }
def FnExactDoLeavesCrossUptoSaid : Prop := fnExactDoLeavesCrossUptoRow.holds Try.pinned (OpenSpec.upto fnExactDoLeavesCrossSpec)

/-- 'laws.FnExactImageOfLeaf', WHERE WHAT IT READS IS OF BULK AT MOST 1048576: true; the input reads as it did. -/
def fnExactImageOfLeafUptoRow : OpenClaim := { program := "ytoflafpidicipaa", sum := "9c01bd6fff71f620e8ebdff74987f8e0069ae432b0df4f85e14791de67c35db0", func := "loop.example/g01234/laws.FnExactImageOfLeaf", spec := "fnExactImageOfLeaf", plainKeys := false, apart := false, narrowed := true }
def FnExactImageOfLeafUptoSaid : Prop := fnExactImageOfLeafUptoRow.holds Try.pinned (OpenSpec.upto fnExactImageOfLeafSpec)

/-- 'laws.FnExactPullBackPast', WHERE WHAT IT READS IS OF BULK AT MOST 1048576: true; the input reads as it did. -/
def fnExactPullBackPastUptoRow : OpenClaim := { program := "ytoflafpidicipaa", sum := "9c01bd6fff71f620e8ebdff74987f8e0069ae432b0df4f85e14791de67c35db0", func := "loop.example/g01234/laws.FnExactPullBackPast", spec := "fnExactPullBackPast", plainKeys := false, apart := false, narrowed := true }
def FnExactPullBackPastUptoSaid : Prop := fnExactPullBackPastUptoRow.holds Try.pinned (OpenSpec.upto fnExactPullBackPastSpec)

/-- 'laws.FnExactIsLamination', WHERE WHAT IT READS IS OF BULK AT MOST 1048576: true; the input reads as it did. -/
def fnExactIsLaminationUptoRow : OpenClaim := { program := "ytoflafpidicipaa", sum := "9c01bd6fff71f620e8ebdff74987f8e0069ae432b0df4f85e14791de67c35db0", func := "loop.example/g01234/laws.FnExactIsLamination", spec := "fnExactIsLamination", unfollowed := true, recurses := true, plainKeys := false, apart := false, narrowed := true }
def FnExactIsLaminationUptoSaid : Prop := fnExactIsLaminationUptoRow.holds Try.pinned (OpenSpec.upto fnExactIsLaminationSpec)

/-- 'laws.FnExactAddLeaf', WHERE WHAT IT READS IS OF BULK AT MOST 1048576: true; the input reads as it did. -/
def fnExactAddLeafUptoRow : OpenClaim := { program := "ytoflafpidicipaa", sum := "9c01bd6fff71f620e8ebdff74987f8e0069ae432b0df4f85e14791de67c35db0", func := "loop.example/g01234/laws.FnExactAddLeaf", spec := "fnExactAddLeaf", unfollowed := true, recurses := true, plainKeys := false, apart := false, narrowed := true }
def FnExactAddLeafUptoSaid : Prop := fnExactAddLeafUptoRow.holds Try.pinned (OpenSpec.upto fnExactAddLeafSpec)

/-- 'laws.FnExactGapAround', WHERE WHAT IT READS IS OF BULK AT MOST 1048576: true; the input reads as it did. -/
def fnExactGapAroundUptoRow : OpenClaim := { program := "ytoflafpidicipaa", sum := "9c01bd6fff71f620e8ebdff74987f8e0069ae432b0df4f85e14791de67c35db0", func := "loop.example/g01234/laws.FnExactGapAround", spec := "fnExactGapAround", unfollowed := true, recurses := true, plainKeys := false, apart := false, narrowed := true }
def FnExactGapAroundUptoSaid : Prop := fnExactGapAroundUptoRow.holds Try.pinned (OpenSpec.upto fnExactGapAroundSpec)

/-- 'laws.FnExactPolygonOf', WHERE WHAT IT READS IS OF BULK AT MOST 1048576: true; the input reads as it did. -/
def fnExactPolygonOfUptoRow : OpenClaim := { program := "ytoflafpidicipaa", sum := "9c01bd6fff71f620e8ebdff74987f8e0069ae432b0df4f85e14791de67c35db0", func := "loop.example/g01234/laws.FnExactPolygonOf", spec := "fnExactPolygonOf", unfollowed := true, recurses := true, plainKeys := false, apart := false, narrowed := true }
def FnExactPolygonOfUptoSaid : Prop := fnExactPolygonOfUptoRow.holds Try.pinned (OpenSpec.upto fnExactPolygonOfSpec)

/-- 'laws.FnExactImagesOfLeaf', WHERE WHAT IT READS IS OF BULK AT MOST 1048576: true; the input reads as it did. -/
def fnExactImagesOfLeafUptoRow : OpenClaim := { program := "ytoflafpidicipaa", sum := "9c01bd6fff71f620e8ebdff74987f8e0069ae432b0df4f85e14791de67c35db0", func := "loop.example/g01234/laws.FnExactImagesOfLeaf", spec := "fnExactImagesOfLeaf", plainKeys := false, apart := false, narrowed := true }
def FnExactImagesOfLeafUptoSaid : Prop := fnExactImagesOfLeafUptoRow.holds Try.pinned (OpenSpec.upto fnExactImagesOfLeafSpec)

end Rows
end Go.Proofs.Ytoflafpidicipaa
