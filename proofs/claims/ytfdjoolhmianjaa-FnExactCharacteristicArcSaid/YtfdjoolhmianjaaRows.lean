/-
  No cell of these rows narrows 'for every input' (looked for: loops, veiled, ifaces, maps, wideKeys, modest, calm, conditions, laid).
  DERIVED. THE GIVEN ROWS OF THIS SEAT. 6 by the template 'for every input the law returns true; each argument reads behind the call as it read before'; 0 by the template 'total and deterministic' (their statements: YtfdjoolhmianjaaTotals.lean).
  GIVEN WITH THE SEED: the statements are not yours to turn. If you find one false, say at which input.
  Laid BY PROGRAM, IN A SANDBOX (cutbox-rows.mjs): the forced cells as the released guide's own fill.sh prints them over the translation 00d6e51f40ff02b9… (all of the seat's roots in one cut). By AI agents, Wed Nov 11 2026. No macro, syntax, notation, axiom, sorry.
-/
import Derived.Test.YtfdjoolhmianjaaChecked
import GoSem.Claim
import GoSem.ClaimJoined
import GoSem.ClaimMapViews
import Derived.JoinedTies
import Derived.KernelRfl
namespace Go.Proofs.Ytfdjoolhmianjaa
/- THE CELL 'sum', in the pinned program and in every row, IS THE sha256 OF THE DUMP (.gsa) THAT YtfdjoolhmianjaaProg.lean LOADS. Nothing in Lean hashes anything: it is a label: what it is worth is what the hold of that sum in a sandbox is worth. -/
noncomputable def Try.pinned : Pinned := { name := "ytfdjoolhmianjaa", sum := "00d6e51f40ff02b925ebf6491d846fbf00015d91e4d460660a02c3461ae454d3", checked := Try.checked }
namespace Rows
def none {H : Type} : Left H := { results := [], args := [] }

/-- 'laws.FnExactPortraitThatFails': WHATEVER THE INPUT: true; the input reads as it did. -/
def fnExactPortraitThatFailsSpec : ChangeSpec := { name := "fnExactPortraitThatFails", fn := fun _ => fun
  | [d] => { results := [.lit (.bool true)], args := [d] }
  | _ => none }
def fnExactPortraitThatFailsRow : OpenClaim := { program := "ytfdjoolhmianjaa", sum := "00d6e51f40ff02b925ebf6491d846fbf00015d91e4d460660a02c3461ae454d3", func := "loop.example/g01234/laws.FnExactPortraitThatFails", spec := "fnExactPortraitThatFails", unfollowed := true, recurses := true, plainKeys := false, apart := false }
def FnExactPortraitThatFailsSaid : Prop := fnExactPortraitThatFailsRow.holds Try.pinned (OpenSpec.ofChange fnExactPortraitThatFailsSpec)

/-- ITS FALSE NEIGHBOUR: 'it returns false'. Refute it at one input. -/
def fnExactPortraitThatFailsWrong : ChangeSpec := { name := "fnExactPortraitThatFails", fn := fun _ => fun
  | [d] => { results := [.lit (.bool false)], args := [d] }
  | _ => none }
def FnExactPortraitThatFailsWrongFalsely : Prop := fnExactPortraitThatFailsRow.holds Try.pinned (OpenSpec.ofChange fnExactPortraitThatFailsWrong)

/-- 'laws.FnExactIsPortrait': WHATEVER THE INPUT: true; the input reads as it did. -/
def fnExactIsPortraitSpec : ChangeSpec := { name := "fnExactIsPortrait", fn := fun _ => fun
  | [d] => { results := [.lit (.bool true)], args := [d] }
  | _ => none }
def fnExactIsPortraitRow : OpenClaim := { program := "ytfdjoolhmianjaa", sum := "00d6e51f40ff02b925ebf6491d846fbf00015d91e4d460660a02c3461ae454d3", func := "loop.example/g01234/laws.FnExactIsPortrait", spec := "fnExactIsPortrait", unfollowed := true, recurses := true, plainKeys := false, apart := false }
def FnExactIsPortraitSaid : Prop := fnExactIsPortraitRow.holds Try.pinned (OpenSpec.ofChange fnExactIsPortraitSpec)

/-- ITS FALSE NEIGHBOUR: 'it returns false'. Refute it at one input. -/
def fnExactIsPortraitWrong : ChangeSpec := { name := "fnExactIsPortrait", fn := fun _ => fun
  | [d] => { results := [.lit (.bool false)], args := [d] }
  | _ => none }
def FnExactIsPortraitWrongFalsely : Prop := fnExactIsPortraitRow.holds Try.pinned (OpenSpec.ofChange fnExactIsPortraitWrong)

/-- 'laws.FnExactValenceOf': WHATEVER THE INPUT: true; the input reads as it did. -/
def fnExactValenceOfSpec : ChangeSpec := { name := "fnExactValenceOf", fn := fun _ => fun
  | [d] => { results := [.lit (.bool true)], args := [d] }
  | _ => none }
def fnExactValenceOfRow : OpenClaim := { program := "ytfdjoolhmianjaa", sum := "00d6e51f40ff02b925ebf6491d846fbf00015d91e4d460660a02c3461ae454d3", func := "loop.example/g01234/laws.FnExactValenceOf", spec := "fnExactValenceOf", unfollowed := true, recurses := true, plainKeys := false, apart := false }
def FnExactValenceOfSaid : Prop := fnExactValenceOfRow.holds Try.pinned (OpenSpec.ofChange fnExactValenceOfSpec)

/-- ITS FALSE NEIGHBOUR: 'it returns false'. Refute it at one input. -/
def fnExactValenceOfWrong : ChangeSpec := { name := "fnExactValenceOf", fn := fun _ => fun
  | [d] => { results := [.lit (.bool false)], args := [d] }
  | _ => none }
def FnExactValenceOfWrongFalsely : Prop := fnExactValenceOfRow.holds Try.pinned (OpenSpec.ofChange fnExactValenceOfWrong)

/-- 'laws.FnExactRotationNumber': WHATEVER THE INPUT: true; the input reads as it did. -/
def fnExactRotationNumberSpec : ChangeSpec := { name := "fnExactRotationNumber", fn := fun _ => fun
  | [d] => { results := [.lit (.bool true)], args := [d] }
  | _ => none }
def fnExactRotationNumberRow : OpenClaim := { program := "ytfdjoolhmianjaa", sum := "00d6e51f40ff02b925ebf6491d846fbf00015d91e4d460660a02c3461ae454d3", func := "loop.example/g01234/laws.FnExactRotationNumber", spec := "fnExactRotationNumber", unfollowed := true, recurses := true, plainKeys := false, apart := false }
def FnExactRotationNumberSaid : Prop := fnExactRotationNumberRow.holds Try.pinned (OpenSpec.ofChange fnExactRotationNumberSpec)

/-- ITS FALSE NEIGHBOUR: 'it returns false'. Refute it at one input. -/
def fnExactRotationNumberWrong : ChangeSpec := { name := "fnExactRotationNumber", fn := fun _ => fun
  | [d] => { results := [.lit (.bool false)], args := [d] }
  | _ => none }
def FnExactRotationNumberWrongFalsely : Prop := fnExactRotationNumberRow.holds Try.pinned (OpenSpec.ofChange fnExactRotationNumberWrong)

/-- 'laws.FnExactCharacteristicArc': WHATEVER THE INPUT: true; the input reads as it did. -/
def fnExactCharacteristicArcSpec : ChangeSpec := { name := "fnExactCharacteristicArc", fn := fun _ => fun
  | [d] => { results := [.lit (.bool true)], args := [d] }
  | _ => none }
def fnExactCharacteristicArcRow : OpenClaim := { program := "ytfdjoolhmianjaa", sum := "00d6e51f40ff02b925ebf6491d846fbf00015d91e4d460660a02c3461ae454d3", func := "loop.example/g01234/laws.FnExactCharacteristicArc", spec := "fnExactCharacteristicArc", unfollowed := true, recurses := true, plainKeys := false, apart := false }
def FnExactCharacteristicArcSaid : Prop := fnExactCharacteristicArcRow.holds Try.pinned (OpenSpec.ofChange fnExactCharacteristicArcSpec)

/-- ITS FALSE NEIGHBOUR: 'it returns false'. Refute it at one input. -/
def fnExactCharacteristicArcWrong : ChangeSpec := { name := "fnExactCharacteristicArc", fn := fun _ => fun
  | [d] => { results := [.lit (.bool false)], args := [d] }
  | _ => none }
def FnExactCharacteristicArcWrongFalsely : Prop := fnExactCharacteristicArcRow.holds Try.pinned (OpenSpec.ofChange fnExactCharacteristicArcWrong)

/-- 'laws.FnExactPortraitOf': WHATEVER THE INPUT: true; the input reads as it did. -/
def fnExactPortraitOfSpec : ChangeSpec := { name := "fnExactPortraitOf", fn := fun _ => fun
  | [d1, d2] => { results := [.lit (.bool true)], args := [d1, d2] }
  | _ => none }
def fnExactPortraitOfRow : OpenClaim := { program := "ytfdjoolhmianjaa", sum := "00d6e51f40ff02b925ebf6491d846fbf00015d91e4d460660a02c3461ae454d3", func := "loop.example/g01234/laws.FnExactPortraitOf", spec := "fnExactPortraitOf", unfollowed := true, recurses := true, plainKeys := false, apart := false }
def FnExactPortraitOfSaid : Prop := fnExactPortraitOfRow.holds Try.pinned (OpenSpec.ofChange fnExactPortraitOfSpec)

/-- ITS FALSE NEIGHBOUR: 'it returns false'. Refute it at one input. -/
def fnExactPortraitOfWrong : ChangeSpec := { name := "fnExactPortraitOf", fn := fun _ => fun
  | [d1, d2] => { results := [.lit (.bool false)], args := [d1, d2] }
  | _ => none }
def FnExactPortraitOfWrongFalsely : Prop := fnExactPortraitOfRow.holds Try.pinned (OpenSpec.ofChange fnExactPortraitOfWrong)

/- THE SECOND FORM. 'bulk': how many values and letters a reading holds, each counted each time it is reached (what is shared counts as often as it is met; a slice's spare places count too). A statement '..UptoSaid' is the law's where the arguments, and the package variables that the reading takes, are together of bulk at most 1048576: NARROWER than '..Said'. Prove '..Said' where nothing that the law and all that it calls make is longer than what came in: it says more and counts as full. Else prove '..UptoSaid'. A law counts once. -/
mutual
def uptoBulk {H : Type} : DataW H → Nat
  | .lit (.string bytes) => bytes.length + 1
  | .lit _ => 1
  | .nil => 1
  | .ptr d => uptoBulk d + 1
  | .slice elems spare => uptoBulkAll elems + uptoBulkAll spare + 1
  | .agg parts => uptoBulkAll parts + 1
  | .iface _ d => uptoBulk d + 1
  | .map entries => uptoBulkEntries entries + 1
  | .held _ => 1
def uptoBulkAll {H : Type} : List (DataW H) → Nat
  | [] => 0
  | d :: r => uptoBulk d + uptoBulkAll r
def uptoBulkEntries {H : Type} : List (Lit × DataW H) → Nat
  | [] => 0
  | x :: r => uptoBulkEntry x + uptoBulkEntries r
def uptoBulkEntry {H : Type} : Lit × DataW H → Nat
  | (.string bytes, d) => bytes.length + uptoBulk d + 1
  | (_, d) => uptoBulk d + 1
 end
def uptoSmall : (H : Type) → List (DataW H) → Bool := fun _ ds => decide (uptoBulkAll ds ≤ 1048576)
def OpenSpec.upto (s : _root_.Go.ChangeSpec) : _root_.Go.OpenSpec := { _root_.Go.OpenSpec.ofChange s with cond := some uptoSmall }

/-- 'laws.FnExactPortraitThatFails', WHERE WHAT IT READS IS OF BULK AT MOST 1048576: true; the input reads as it did. -/
def fnExactPortraitThatFailsUptoRow : OpenClaim := { program := "ytfdjoolhmianjaa", sum := "00d6e51f40ff02b925ebf6491d846fbf00015d91e4d460660a02c3461ae454d3", func := "loop.example/g01234/laws.FnExactPortraitThatFails", spec := "fnExactPortraitThatFails", unfollowed := true, recurses := true, plainKeys := false, apart := false, narrowed := true }
def FnExactPortraitThatFailsUptoSaid : Prop := fnExactPortraitThatFailsUptoRow.holds Try.pinned (OpenSpec.upto fnExactPortraitThatFailsSpec)

/-- 'laws.FnExactIsPortrait', WHERE WHAT IT READS IS OF BULK AT MOST 1048576: true; the input reads as it did. -/
def fnExactIsPortraitUptoRow : OpenClaim := { program := "ytfdjoolhmianjaa", sum := "00d6e51f40ff02b925ebf6491d846fbf00015d91e4d460660a02c3461ae454d3", func := "loop.example/g01234/laws.FnExactIsPortrait", spec := "fnExactIsPortrait", unfollowed := true, recurses := true, plainKeys := false, apart := false, narrowed := true }
def FnExactIsPortraitUptoSaid : Prop := fnExactIsPortraitUptoRow.holds Try.pinned (OpenSpec.upto fnExactIsPortraitSpec)

/-- 'laws.FnExactValenceOf', WHERE WHAT IT READS IS OF BULK AT MOST 1048576: true; the input reads as it did. -/
def fnExactValenceOfUptoRow : OpenClaim := { program := "ytfdjoolhmianjaa", sum := "00d6e51f40ff02b925ebf6491d846fbf00015d91e4d460660a02c3461ae454d3", func := "loop.example/g01234/laws.FnExactValenceOf", spec := "fnExactValenceOf", unfollowed := true, recurses := true, plainKeys := false, apart := false, narrowed := true }
def FnExactValenceOfUptoSaid : Prop := fnExactValenceOfUptoRow.holds Try.pinned (OpenSpec.upto fnExactValenceOfSpec)

/-- 'laws.FnExactRotationNumber', WHERE WHAT IT READS IS OF BULK AT MOST 1048576: true; the input reads as it did. -/
def fnExactRotationNumberUptoRow : OpenClaim := { program := "ytfdjoolhmianjaa", sum := "00d6e51f40ff02b925ebf6491d846fbf00015d91e4d460660a02c3461ae454d3", func := "loop.example/g01234/laws.FnExactRotationNumber", spec := "fnExactRotationNumber", unfollowed := true, recurses := true, plainKeys := false, apart := false, narrowed := true }
def FnExactRotationNumberUptoSaid : Prop := fnExactRotationNumberUptoRow.holds Try.pinned (OpenSpec.upto fnExactRotationNumberSpec)

/-- 'laws.FnExactCharacteristicArc', WHERE WHAT IT READS IS OF BULK AT MOST 1048576: true; the input reads as it did. -/
def fnExactCharacteristicArcUptoRow : OpenClaim := { program := "ytfdjoolhmianjaa", sum := "00d6e51f40ff02b925ebf6491d846fbf00015d91e4d460660a02c3461ae454d3", func := "loop.example/g01234/laws.FnExactCharacteristicArc", spec := "fnExactCharacteristicArc", unfollowed := true, recurses := true, plainKeys := false, apart := false, narrowed := true }
def FnExactCharacteristicArcUptoSaid : Prop := fnExactCharacteristicArcUptoRow.holds Try.pinned (OpenSpec.upto fnExactCharacteristicArcSpec)

/-- 'laws.FnExactPortraitOf', WHERE WHAT IT READS IS OF BULK AT MOST 1048576: true; the input reads as it did. -/
def fnExactPortraitOfUptoRow : OpenClaim := { program := "ytfdjoolhmianjaa", sum := "00d6e51f40ff02b925ebf6491d846fbf00015d91e4d460660a02c3461ae454d3", func := "loop.example/g01234/laws.FnExactPortraitOf", spec := "fnExactPortraitOf", unfollowed := true, recurses := true, plainKeys := false, apart := false, narrowed := true }
def FnExactPortraitOfUptoSaid : Prop := fnExactPortraitOfUptoRow.holds Try.pinned (OpenSpec.upto fnExactPortraitOfSpec)

end Rows
end Go.Proofs.Ytfdjoolhmianjaa
