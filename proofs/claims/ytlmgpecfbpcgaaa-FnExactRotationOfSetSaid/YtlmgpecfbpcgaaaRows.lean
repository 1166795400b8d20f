/-
  No cell of these rows narrows 'for every input' (looked for: loops, veiled, ifaces, maps, wideKeys, modest, calm, conditions, laid).
  DERIVED. THE GIVEN ROWS OF THIS SEAT. 9 by the template 'for every input the law returns true; each argument reads behind the call as it read before'; 0 by the template 'total and deterministic' (their statements: YtlmgpecfbpcgaaaTotals.lean).
  GIVEN WITH THE SEED: the statements are not yours to turn. If you find one false, say at which input.
  Laid BY PROGRAM, IN A SANDBOX (cutbox-rows.mjs): the forced cells as the released guide's own fill.sh prints them over the translation 6aea22181a2433e3… (all of the seat's roots in one cut). By AI agents, Wed Nov 11 2026. No macro, syntax, notation, axiom, sorry.
-/
import Derived.Test.YtlmgpecfbpcgaaaChecked
import GoSem.Claim
import GoSem.ClaimJoined
import GoSem.ClaimMapViews
import Derived.JoinedTies
import Derived.KernelRfl
namespace Go.Proofs.Ytlmgpecfbpcgaaa
/- THE CELL 'sum', in the pinned program and in every row, IS THE sha256 OF THE DUMP (.gsa) THAT YtlmgpecfbpcgaaaProg.lean LOADS. Nothing in Lean hashes anything: it is a label: what it is worth is what the hold of that sum in a sandbox is worth. -/
noncomputable def Try.pinned : Pinned := { name := "ytlmgpecfbpcgaaa", sum := "6aea22181a2433e3ed3d71b923513ea8550c9f9c06f68dcffba56210efcb49a0", checked := Try.checked }
namespace Rows
def none {H : Type} : Left H := { results := [], args := [] }

/-- 'laws.FnExactDistanceOf': WHATEVER THE INPUT: true; the input reads as it did. -/
def fnExactDistanceOfSpec : ChangeSpec := { name := "fnExactDistanceOf", fn := fun _ => fun
  | [d1, d2] => { results := [.lit (.bool true)], args := [d1, d2] }
  | _ => none }
def fnExactDistanceOfRow : OpenClaim := { program := "ytlmgpecfbpcgaaa", sum := "6aea22181a2433e3ed3d71b923513ea8550c9f9c06f68dcffba56210efcb49a0", func := "loop.example/g01234/laws.FnExactDistanceOf", spec := "fnExactDistanceOf", unfollowed := true, recurses := true, plainKeys := false, apart := false }
def FnExactDistanceOfSaid : Prop := fnExactDistanceOfRow.holds Try.pinned (OpenSpec.ofChange fnExactDistanceOfSpec)

/-- ITS FALSE NEIGHBOUR: 'it returns false'. Refute it at one input. -/
def fnExactDistanceOfWrong : ChangeSpec := { name := "fnExactDistanceOf", fn := fun _ => fun
  | [d1, d2] => { results := [.lit (.bool false)], args := [d1, d2] }
  | _ => none }
def FnExactDistanceOfWrongFalsely : Prop := fnExactDistanceOfRow.holds Try.pinned (OpenSpec.ofChange fnExactDistanceOfWrong)

/-- 'laws.FnExactLeafLength': WHATEVER THE INPUT: true; the input reads as it did. -/
def fnExactLeafLengthSpec : ChangeSpec := { name := "fnExactLeafLength", fn := fun _ => fun
  | [d] => { results := [.lit (.bool true)], args := [d] }
  | _ => none }
def fnExactLeafLengthRow : OpenClaim := { program := "ytlmgpecfbpcgaaa", sum := "6aea22181a2433e3ed3d71b923513ea8550c9f9c06f68dcffba56210efcb49a0", func := "loop.example/g01234/laws.FnExactLeafLength", spec := "fnExactLeafLength", unfollowed := true, recurses := true, plainKeys := false, apart := false }
def FnExactLeafLengthSaid : Prop := fnExactLeafLengthRow.holds Try.pinned (OpenSpec.ofChange fnExactLeafLengthSpec)

/-- ITS FALSE NEIGHBOUR: 'it returns false'. Refute it at one input. -/
def fnExactLeafLengthWrong : ChangeSpec := { name := "fnExactLeafLength", fn := fun _ => fun
  | [d] => { results := [.lit (.bool false)], args := [d] }
  | _ => none }
def FnExactLeafLengthWrongFalsely : Prop := fnExactLeafLengthRow.holds Try.pinned (OpenSpec.ofChange fnExactLeafLengthWrong)

/-- 'laws.FnExactLongestLeaf': WHATEVER THE INPUT: true; the input reads as it did. -/
def fnExactLongestLeafSpec : ChangeSpec := { name := "fnExactLongestLeaf", fn := fun _ => fun
  | [d] => { results := [.lit (.bool true)], args := [d] }
  | _ => none }
def fnExactLongestLeafRow : OpenClaim := { program := "ytlmgpecfbpcgaaa", sum := "6aea22181a2433e3ed3d71b923513ea8550c9f9c06f68dcffba56210efcb49a0", func := "loop.example/g01234/laws.FnExactLongestLeaf", spec := "fnExactLongestLeaf", unfollowed := true, recurses := true, plainKeys := false, apart := false }
def FnExactLongestLeafSaid : Prop := fnExactLongestLeafRow.holds Try.pinned (OpenSpec.ofChange fnExactLongestLeafSpec)

/-- ITS FALSE NEIGHBOUR: 'it returns false'. Refute it at one input. -/
def fnExactLongestLeafWrong : ChangeSpec := { name := "fnExactLongestLeaf", fn := fun _ => fun
  | [d] => { results := [.lit (.bool false)], args := [d] }
  | _ => none }
def FnExactLongestLeafWrongFalsely : Prop := fnExactLongestLeafRow.holds Try.pinned (OpenSpec.ofChange fnExactLongestLeafWrong)

/-- 'laws.FnExactMajorsOf': WHATEVER THE INPUT: true; the input reads as it did. -/
def fnExactMajorsOfSpec : ChangeSpec := { name := "fnExactMajorsOf", fn := fun _ => fun
  | [d] => { results := [.lit (.bool true)], args := [d] }
  | _ => none }
def fnExactMajorsOfRow : OpenClaim := { program := "ytlmgpecfbpcgaaa", sum := "6aea22181a2433e3ed3d71b923513ea8550c9f9c06f68dcffba56210efcb49a0", func := "loop.example/g01234/laws.FnExactMajorsOf", spec := "fnExactMajorsOf", unfollowed := true, recurses := true, plainKeys := false, apart := false }
def FnExactMajorsOfSaid : Prop := fnExactMajorsOfRow.holds Try.pinned (OpenSpec.ofChange fnExactMajorsOfSpec)

/-- ITS FALSE NEIGHBOUR: 'it returns false'. Refute it at one input. -/
def fnExactMajorsOfWrong : ChangeSpec := { name := "fnExactMajorsOf", fn := fun _ => fun
  | [d] => { results := [.lit (.bool false)], args := [d] }
  | _ => none }
def FnExactMajorsOfWrongFalsely : Prop := fnExactMajorsOfRow.holds Try.pinned (OpenSpec.ofChange fnExactMajorsOfWrong)

/-- 'laws.FnExactConditionThatFails': WHATEVER THE INPUT: true; the input reads as it did. -/
def fnExactConditionThatFailsSpec : ChangeSpec := { name := "fnExactConditionThatFails", fn := fun _ => fun
  | [d] => { results := [.lit (.bool true)], args := [d] }
  | _ => none }
def fnExactConditionThatFailsRow : OpenClaim := { program := "ytlmgpecfbpcgaaa", sum := "6aea22181a2433e3ed3d71b923513ea8550c9f9c06f68dcffba56210efcb49a0", func := "loop.example/g01234/laws.FnExactConditionThatFails", spec := "fnExactConditionThatFails", unfollowed := true, recurses := true, plainKeys := false, apart := false }
def FnExactConditionThatFailsSaid : Prop := fnExactConditionThatFailsRow.holds Try.pinned (OpenSpec.ofChange fnExactConditionThatFailsSpec)

/-- ITS FALSE NEIGHBOUR: 'it returns false'. Refute it at one input. -/
def fnExactConditionThatFailsWrong : ChangeSpec := { name := "fnExactConditionThatFails", fn := fun _ => fun
  | [d] => { results := [.lit (.bool false)], args := [d] }
  | _ => none }
def FnExactConditionThatFailsWrongFalsely : Prop := fnExactConditionThatFailsRow.holds Try.pinned (OpenSpec.ofChange fnExactConditionThatFailsWrong)

/-- 'laws.FnExactPullBackBy': WHATEVER THE INPUT: true; the input reads as it did. -/
def fnExactPullBackBySpec : ChangeSpec := { name := "fnExactPullBackBy", fn := fun _ => fun
  | [d1, d2] => { results := [.lit (.bool true)], args := [d1, d2] }
  | _ => none }
def fnExactPullBackByRow : OpenClaim := { program := "ytlmgpecfbpcgaaa", sum := "6aea22181a2433e3ed3d71b923513ea8550c9f9c06f68dcffba56210efcb49a0", func := "loop.example/g01234/laws.FnExactPullBackBy", spec := "fnExactPullBackBy", unfollowed := true, recurses := true, plainKeys := false, apart := false }
def FnExactPullBackBySaid : Prop := fnExactPullBackByRow.holds Try.pinned (OpenSpec.ofChange fnExactPullBackBySpec)

/-- ITS FALSE NEIGHBOUR: 'it returns false'. Refute it at one input. -/
def fnExactPullBackByWrong : ChangeSpec := { name := "fnExactPullBackBy", fn := fun _ => fun
  | [d1, d2] => { results := [.lit (.bool false)], args := [d1, d2] }
  | _ => none }
def FnExactPullBackByWrongFalsely : Prop := fnExactPullBackByRow.holds Try.pinned (OpenSpec.ofChange fnExactPullBackByWrong)

/-- 'laws.FnExactWidthOf': WHATEVER THE INPUT: true; the input reads as it did. -/
def fnExactWidthOfSpec : ChangeSpec := { name := "fnExactWidthOf", fn := fun _ => fun
  | [d] => { results := [.lit (.bool true)], args := [d] }
  | _ => none }
def fnExactWidthOfRow : OpenClaim := { program := "ytlmgpecfbpcgaaa", sum := "6aea22181a2433e3ed3d71b923513ea8550c9f9c06f68dcffba56210efcb49a0", func := "loop.example/g01234/laws.FnExactWidthOf", spec := "fnExactWidthOf", plainKeys := false, apart := false }
def FnExactWidthOfSaid : Prop := fnExactWidthOfRow.holds Try.pinned (OpenSpec.ofChange fnExactWidthOfSpec)

/-- ITS FALSE NEIGHBOUR: 'it returns false'. Refute it at one input. -/
def fnExactWidthOfWrong : ChangeSpec := { name := "fnExactWidthOf", fn := fun _ => fun
  | [d] => { results := [.lit (.bool false)], args := [d] }
  | _ => none }
def FnExactWidthOfWrongFalsely : Prop := fnExactWidthOfRow.holds Try.pinned (OpenSpec.ofChange fnExactWidthOfWrong)

/-- 'laws.FnExactRotationSet': WHATEVER THE INPUT: true; the input reads as it did. -/
def fnExactRotationSetSpec : ChangeSpec := { name := "fnExactRotationSet", fn := fun _ => fun
  | [d1, d2] => { results := [.lit (.bool true)], args := [d1, d2] }
  | _ => none }
def fnExactRotationSetRow : OpenClaim := { program := "ytlmgpecfbpcgaaa", sum := "6aea22181a2433e3ed3d71b923513ea8550c9f9c06f68dcffba56210efcb49a0", func := "loop.example/g01234/laws.FnExactRotationSet", spec := "fnExactRotationSet", plainKeys := false, apart := false }
def FnExactRotationSetSaid : Prop := fnExactRotationSetRow.holds Try.pinned (OpenSpec.ofChange fnExactRotationSetSpec)

/-- ITS FALSE NEIGHBOUR: 'it returns false'. Refute it at one input. -/
def fnExactRotationSetWrong : ChangeSpec := { name := "fnExactRotationSet", fn := fun _ => fun
  | [d1, d2] => { results := [.lit (.bool false)], args := [d1, d2] }
  | _ => none }
def FnExactRotationSetWrongFalsely : Prop := fnExactRotationSetRow.holds Try.pinned (OpenSpec.ofChange fnExactRotationSetWrong)

/-- 'laws.FnExactRotationOfSet': WHATEVER THE INPUT: true; the input reads as it did. -/
def fnExactRotationOfSetSpec : ChangeSpec := { name := "fnExactRotationOfSet", fn := fun _ => fun
  | [d] => { results := [.lit (.bool true)], args := [d] }
  | _ => none }
def fnExactRotationOfSetRow : OpenClaim := { program := "ytlmgpecfbpcgaaa", sum := "6aea22181a2433e3ed3d71b923513ea8550c9f9c06f68dcffba56210efcb49a0", func := "loop.example/g01234/laws.FnExactRotationOfSet", spec := "fnExactRotationOfSet", unfollowed := true, recurses := true, plainKeys := false, apart := false }
def FnExactRotationOfSetSaid : Prop := fnExactRotationOfSetRow.holds Try.pinned (OpenSpec.ofChange fnExactRotationOfSetSpec)

/-- ITS FALSE NEIGHBOUR: 'it returns false'. Refute it at one input. -/
def fnExactRotationOfSetWrong : ChangeSpec := { name := "fnExactRotationOfSet", fn := fun _ => fun
  | [d] => { results := [.lit (.bool false)], args := [d] }
  | _ => none }
def FnExactRotationOfSetWrongFalsely : Prop := fnExactRotationOfSetRow.holds Try.pinned (OpenSpec.ofChange fnExactRotationOfSetWrong)

/- THE SECOND FORM. 'bulk': how many values and letters a reading holds, each counted each time it is reached (what is shared counts as often as it is met; a slice's spare places count too). A statement '..UptoSaid' is the law's where the arguments, and the package variables that the reading takes, are together of bulk at most 1048576: NARROWER than '..Said'. Prove '..Said' where nothing that the law and all that it calls make is longer than what came in: it says more and counts as full. Else prove '..UptoSaid'. A law counts once. -/
mutual
def uptoBulk {H : Type} : DataW H → Nat
  | .lit (.string bytes) => bytes.length + 1
  | .lit _ => 1
  | .nil => 1
  | .ptr d => uptoBulk d + 1
  | .slice elems spare => uptoBulkAll elems + uptoBulkAll spare + 1
  | .agg parts => uptoBulkAll parts + 1
  | .iface _ d => uptoBulk d + 1
  | .map entries => uptoBulkEntries entries + 1
  | .held _ => 1
def uptoBulkAll {H : Type} : List (DataW H) → Nat
  | [] => 0
  | d :: r => uptoBulk d + uptoBulkAll r
def uptoBulkEntries {H : Type} : List (Lit × DataW H) → Nat
  | [] => 0
  | x :: r => uptoBulkEntry x + uptoBulkEntries r
def uptoBulkEntry {H : Type} : Lit × DataW H → Nat
  | (.string bytes, d) => bytes.length + uptoBulk d + 1
  | (_, d) => uptoBulk d + 1
 end
def uptoSmall : (H : Type) → List (DataW H) → Bool := fun _ ds => decide (uptoBulkAll ds ≤ 1048576)
def OpenSpec.upto (s : _root_.Go.ChangeSpec) : _root_.Go.OpenSpec := { _root_.Go.OpenSpec.ofChange s with cond := some uptoSmall }

/-- 'laws.FnExactDistanceOf', WHERE WHAT IT READS IS OF BULK AT MOST 1048576: true; the input reads as it did. -/
def fnExactDistanceOfUptoRow : OpenClaim := { program := "ytlmgpecfbpcgaaa", sum := "6aea22181a2433e3ed3d71b923513ea8550c9f9c06f68dcffba56210efcb49a0", func := "loop.example/g01234/laws.FnExactDistanceOf", spec := "fnExactDistanceOf", unfollowed := true, recurses := true, plainKeys := false, apart := false, narrowed := true }
def FnExactDistanceOfUptoSaid : Prop := fnExactDistanceOfUptoRow.holds Try.pinned (OpenSpec.upto fnExactDistanceOfSpec)

/-- 'laws.FnExactLeafLength', WHERE WHAT IT READS IS OF BULK AT MOST 1048576: true; the input reads as it did. -/
def fnExactLeafLengthUptoRow : OpenClaim := { program := "ytlmgpecfbpcgaaa", sum := "6aea22181a2433e3ed3d71b923513ea8550c9f9c06f68dcffba56210efcb49a0", func := "loop.example/g01234/laws.FnExactLeafLength", spec := "fnExactLeafLength", unfollowed := true, recurses := true, plainKeys := false, apart := false, narrowed := true }
def FnExactLeafLengthUptoSaid : Prop := fnExactLeafLengthUptoRow.holds Try.pinned (OpenSpec.upto fnExactLeafLengthSpec)

/-- 'laws.FnExactLongestLeaf', WHERE WHAT IT READS IS OF BULK AT MOST 1048576: true; the input reads as it did. -/
def fnExactLongestLeafUptoRow : OpenClaim := { program := "ytlmgpecfbpcgaaa", sum := "6aea22181a2433e3ed3d71b923513ea8550c9f9c06f68dcffba56210efcb49a0", func := "loop.example/g01234/laws.FnExactLongestLeaf", spec := "fnExactLongestLeaf", unfollowed := true, recurses := true, plainKeys := false, apart := false, narrowed := true }
def FnExactLongestLeafUptoSaid : Prop := fnExactLongestLeafUptoRow.holds Try.pinned (OpenSpec.upto fnExactLongestLeafSpec)

/-- 'laws.FnExactMajorsOf', WHERE WHAT IT READS IS OF BULK AT MOST 1048576: true; the input reads as it did. -/
def fnExactMajorsOfUptoRow : OpenClaim := { program := "ytlmgpecfbpcgaaa", sum := "6aea22181a2433e3ed3d71b923513ea8550c9f9c06f68dcffba56210efcb49a0", func := "loop.example/g01234/laws.FnExactMajorsOf", spec := "fnExactMajorsOf", unfollowed := true, recurses := true, plainKeys := false, apart := false, narrowed := true }
def FnExactMajorsOfUptoSaid : Prop := fnExactMajorsOfUptoRow.holds Try.pinned (OpenSpec.upto fnExactMajorsOfSpec)

/-- 'laws.FnExactConditionThatFails', WHERE WHAT IT READS IS OF BULK AT MOST 1048576: true; the input reads as it did. -/
def fnExactConditionThatFailsUptoRow : OpenClaim := { program := "ytlmgpecfbpcgaaa", sum := "6aea22181a2433e3ed3d71b923513ea8550c9f9c06f68dcffba56210efcb49a0", func := "loop.example/g01234/laws.FnExactConditionThatFails", spec := "fnExactConditionThatFails", unfollowed := true, recurses := true, plainKeys := false, apart := false, narrowed := true }
def FnExactConditionThatFailsUptoSaid : Prop := fnExactConditionThatFailsUptoRow.holds Try.pinned (OpenSpec.upto fnExactConditionThatFailsSpec)

/-- 'laws.FnExactPullBackBy', WHERE WHAT IT READS IS OF BULK AT MOST 1048576: true; the input reads as it did. -/
def fnExactPullBackByUptoRow : OpenClaim := { program := "ytlmgpecfbpcgaaa", sum := "6aea22181a2433e3ed3d71b923513ea8550c9f9c06f68dcffba56210efcb49a0", func := "loop.example/g01234/laws.FnExactPullBackBy", spec := "fnExactPullBackBy", unfollowed := true, recurses := true, plainKeys := false, apart := false, narrowed := true }
def FnExactPullBackByUptoSaid : Prop := fnExactPullBackByUptoRow.holds Try.pinned (OpenSpec.upto fnExactPullBackBySpec)

/-- 'laws.FnExactWidthOf', WHERE WHAT IT READS IS OF BULK AT MOST 1048576: true; the input reads as it did. -/
def fnExactWidthOfUptoRow : OpenClaim := { program := "ytlmgpecfbpcgaaa", sum := "6aea22181a2433e3ed3d71b923513ea8550c9f9c06f68dcffba56210efcb49a0", func := "loop.example/g01234/laws.FnExactWidthOf", spec := "fnExactWidthOf", plainKeys := false, apart := false, narrowed := true }
def FnExactWidthOfUptoSaid : Prop := fnExactWidthOfUptoRow.holds Try.pinned (OpenSpec.upto fnExactWidthOfSpec)

/-- 'laws.FnExactRotationSet', WHERE WHAT IT READS IS OF BULK AT MOST 1048576: true; the input reads as it did. -/
def fnExactRotationSetUptoRow : OpenClaim := { program := "ytlmgpecfbpcgaaa", sum := "6aea22181a2433e3ed3d71b923513ea8550c9f9c06f68dcffba56210efcb49a0", func := "loop.example/g01234/laws.FnExactRotationSet", spec := "fnExactRotationSet", plainKeys := false, apart := false, narrowed := true }
def FnExactRotationSetUptoSaid : Prop := fnExactRotationSetUptoRow.holds Try.pinned (OpenSpec.upto fnExactRotationSetSpec)

/-- 'laws.FnExactRotationOfSet', WHERE WHAT IT READS IS OF BULK AT MOST 1048576: true; the input reads as it did. -/
def fnExactRotationOfSetUptoRow : OpenClaim := { program := "ytlmgpecfbpcgaaa", sum := "6aea22181a2433e3ed3d71b923513ea8550c9f9c06f68dcffba56210efcb49a0", func := "loop.example/g01234/laws.FnExactRotationOfSet", spec := "fnExactRotationOfSet", unfollowed := true, recurses := true, plainKeys := false, apart := false, narrowed := true }
def FnExactRotationOfSetUptoSaid : Prop := fnExactRotationOfSetUptoRow.holds Try.pinned (OpenSpec.upto fnExactRotationOfSetSpec)

end Rows
end Go.Proofs.Ytlmgpecfbpcgaaa
