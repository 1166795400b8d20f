/-
  No cell of these rows narrows 'for every input' (looked for: loops, veiled, ifaces, maps, wideKeys, modest, calm, conditions, laid).
  DERIVED. THE GIVEN ROWS OF THIS SEAT. 4 by the template 'for every input the law returns true; each argument reads behind the call as it read before'; 0 by the template 'total and deterministic' (their statements: YtabddjfgbhnldaaTotals.lean).
  GIVEN WITH THE SEED: the statements are not yours to turn. If you find one false, say at which input.
  Laid BY PROGRAM, IN A SANDBOX (cutbox-rows.mjs): the forced cells as the released guide's own fill.sh prints them over the translation a929a97a623b19b0… (all of the seat's roots in one cut). By AI agents, Wed Nov 11 2026. No macro, syntax, notation, axiom, sorry.
-/
import Derived.Test.YtabddjfgbhnldaaChecked
import GoSem.Claim
import GoSem.ClaimJoined
import GoSem.ClaimMapViews
import Derived.JoinedTies
import Derived.KernelRfl
namespace Go.Proofs.Ytabddjfgbhnldaa
/- THE CELL 'sum', in the pinned program and in every row, IS THE sha256 OF THE DUMP (.gsa) THAT YtabddjfgbhnldaaProg.lean LOADS. Nothing in Lean hashes anything: it is a label: what it is worth is what the hold of that sum in a sandbox is worth. -/
noncomputable def Try.pinned : Pinned := { name := "ytabddjfgbhnldaa", sum := "a929a97a623b19b02dbcc70774028c39971d5cb5660fafae16f49b98c7ee3ea4", checked := Try.checked }
namespace Rows
def none {H : Type} : Left H := { results := [], args := [] }

/-- 'laws.FnLimbs': WHATEVER THE INPUT: true; the input reads as it did. -/
def fnLimbsSpec : ChangeSpec := { name := "fnLimbs", fn := fun _ => fun
  | [d] => { results := [.lit (.bool true)], args := [d] }
  | _ => none }
def fnLimbsRow : OpenClaim := { program := "ytabddjfgbhnldaa", sum := "a929a97a623b19b02dbcc70774028c39971d5cb5660fafae16f49b98c7ee3ea4", func := "loop.example/g01234/laws.FnLimbs", spec := "fnLimbs", unfollowed := true, recurses := true, plainKeys := false, apart := false }
def FnLimbsSaid : Prop := fnLimbsRow.holds Try.pinned (OpenSpec.ofChange fnLimbsSpec)

/-- ITS FALSE NEIGHBOUR: 'it returns false'. Refute it at one input. -/
def fnLimbsWrong : ChangeSpec := { name := "fnLimbs", fn := fun _ => fun
  | [d] => { results := [.lit (.bool false)], args := [d] }
  | _ => none }
def FnLimbsWrongFalsely : Prop := fnLimbsRow.holds Try.pinned (OpenSpec.ofChange fnLimbsWrong)

/-- 'laws.FnExactLimbOf': WHATEVER THE INPUT: true; the input reads as it did. -/
def fnExactLimbOfSpec : ChangeSpec := { name := "fnExactLimbOf", fn := fun _ => fun
  | [d] => { results := [.lit (.bool true)], args := [d] }
  | _ => none }
def fnExactLimbOfRow : OpenClaim := { program := "ytabddjfgbhnldaa", sum := "a929a97a623b19b02dbcc70774028c39971d5cb5660fafae16f49b98c7ee3ea4", func := "loop.example/g01234/laws.FnExactLimbOf", spec := "fnExactLimbOf", unfollowed := true, recurses := true, plainKeys := false, apart := false }
def FnExactLimbOfSaid : Prop := fnExactLimbOfRow.holds Try.pinned (OpenSpec.ofChange fnExactLimbOfSpec)

/-- ITS FALSE NEIGHBOUR: 'it returns false'. Refute it at one input. -/
def fnExactLimbOfWrong : ChangeSpec := { name := "fnExactLimbOf", fn := fun _ => fun
  | [d] => { results := [.lit (.bool false)], args := [d] }
  | _ => none }
def FnExactLimbOfWrongFalsely : Prop := fnExactLimbOfRow.holds Try.pinned (OpenSpec.ofChange fnExactLimbOfWrong)

/-- 'laws.FnExactAreObstructed': WHATEVER THE INPUT: true; the input reads as it did. -/
def fnExactAreObstructedSpec : ChangeSpec := { name := "fnExactAreObstructed", fn := fun _ => fun
  | [d1, d2] => { results := [.lit (.bool true)], args := [d1, d2] }
  | _ => none }
def fnExactAreObstructedRow : OpenClaim := { program := "ytabddjfgbhnldaa", sum := "a929a97a623b19b02dbcc70774028c39971d5cb5660fafae16f49b98c7ee3ea4", func := "loop.example/g01234/laws.FnExactAreObstructed", spec := "fnExactAreObstructed", unfollowed := true, recurses := true, plainKeys := false, apart := false }
def FnExactAreObstructedSaid : Prop := fnExactAreObstructedRow.holds Try.pinned (OpenSpec.ofChange fnExactAreObstructedSpec)

/-- ITS FALSE NEIGHBOUR: 'it returns false'. Refute it at one input. -/
def fnExactAreObstructedWrong : ChangeSpec := { name := "fnExactAreObstructed", fn := fun _ => fun
  | [d1, d2] => { results := [.lit (.bool false)], args := [d1, d2] }
  | _ => none }
def FnExactAreObstructedWrongFalsely : Prop := fnExactAreObstructedRow.holds Try.pinned (OpenSpec.ofChange fnExactAreObstructedWrong)

/-- 'laws.FnExactOppositeAngle': WHATEVER THE INPUT: true; the input reads as it did. -/
def fnExactOppositeAngleSpec : ChangeSpec := { name := "fnExactOppositeAngle", fn := fun _ => fun
  | [d] => { results := [.lit (.bool true)], args := [d] }
  | _ => none }
def fnExactOppositeAngleRow : OpenClaim := { program := "ytabddjfgbhnldaa", sum := "a929a97a623b19b02dbcc70774028c39971d5cb5660fafae16f49b98c7ee3ea4", func := "loop.example/g01234/laws.FnExactOppositeAngle", spec := "fnExactOppositeAngle", plainKeys := false, apart := false }
def FnExactOppositeAngleSaid : Prop := fnExactOppositeAngleRow.holds Try.pinned (OpenSpec.ofChange fnExactOppositeAngleSpec)

/-- ITS FALSE NEIGHBOUR: 'it returns false'. Refute it at one input. -/
def fnExactOppositeAngleWrong : ChangeSpec := { name := "fnExactOppositeAngle", fn := fun _ => fun
  | [d] => { results := [.lit (.bool false)], args := [d] }
  | _ => none }
def FnExactOppositeAngleWrongFalsely : Prop := fnExactOppositeAngleRow.holds Try.pinned (OpenSpec.ofChange fnExactOppositeAngleWrong)

/- THE SECOND FORM. 'bulk': how many values and letters a reading holds, each counted each time it is reached (what is shared counts as often as it is met; a slice's spare places count too). A statement '..UptoSaid' is the law's where the arguments, and the package variables that the reading takes, are together of bulk at most 1048576: NARROWER than '..Said'. Prove '..Said' where nothing that the law and all that it calls make is longer than what came in: it says more and counts as full. Else prove '..UptoSaid'. A law counts once. -/
mutual
def uptoBulk {H : Type} : DataW H → Nat
  | .lit (.string bytes) => bytes.length + 1
  | .lit _ => 1
  | .nil => 1
  | .ptr d => uptoBulk d + 1
  | .slice elems spare => uptoBulkAll elems + uptoBulkAll spare + 1
  | .agg parts => uptoBulkAll parts + 1
  | .iface _ d => uptoBulk d + 1
  | .map entries => uptoBulkEntries entries + 1
  | .held _ => 1
def uptoBulkAll {H : Type} : List (DataW H) → Nat
  | [] => 0
  | d :: r => uptoBulk d + uptoBulkAll r
def uptoBulkEntries {H : Type} : List (Lit × DataW H) → Nat
  | [] => 0
  | x :: r => uptoBulkEntry x + uptoBulkEntries r
def uptoBulkEntry {H : Type} : Lit × DataW H → Nat
  | (.string bytes, d) => bytes.length + uptoBulk d + 1
  | (_, d) => uptoBulk d + 1
 end
def uptoSmall : (H : Type) → List (DataW H) → Bool := fun _ ds => decide (uptoBulkAll ds ≤ 1048576)
def OpenSpec.upto (s : _root_.Go.ChangeSpec) : _root_.Go.OpenSpec := { _root_.Go.OpenSpec.ofChange s with cond := some uptoSmall }

/-- 'laws.FnLimbs', WHERE WHAT IT READS IS OF BULK AT MOST 1048576: true; the input reads as it did. -/
def fnLimbsUptoRow : OpenClaim := { program := "ytabddjfgbhnldaa", sum := "a929a97a623b19b02dbcc70774028c39971d5cb5660fafae16f49b98c7ee3ea4", func := "loop.example/g01234/laws.FnLimbs", spec := "fnLimbs", unfollowed := true, recurses := true, plainKeys := false, apart := false, narrowed := true }
def FnLimbsUptoSaid : Prop := fnLimbsUptoRow.holds Try.pinned (OpenSpec.upto fnLimbsSpec)

/-- 'laws.FnExactLimbOf', WHERE WHAT IT READS IS OF BULK AT MOST 1048576: true; the input reads as it did. -/
def fnExactLimbOfUptoRow : OpenClaim := { program := "ytabddjfgbhnldaa", sum := "a929a97a623b19b02dbcc70774028c39971d5cb5660fafae16f49b98c7ee3ea4", func := "loop.example/g01234/laws.FnExactLimbOf", spec := "fnExactLimbOf", unfollowed := true, recurses := true, plainKeys := false, apart := false, narrowed := true }
def FnExactLimbOfUptoSaid : Prop := fnExactLimbOfUptoRow.holds Try.pinned (OpenSpec.upto fnExactLimbOfSpec)

/-- 'laws.FnExactAreObstructed', WHERE WHAT IT READS IS OF BULK AT MOST 1048576: true; the input reads as it did. -/
def fnExactAreObstructedUptoRow : OpenClaim := { program := "ytabddjfgbhnldaa", sum := "a929a97a623b19b02dbcc70774028c39971d5cb5660fafae16f49b98c7ee3ea4", func := "loop.example/g01234/laws.FnExactAreObstructed", spec := "fnExactAreObstructed", unfollowed := true, recurses := true, plainKeys := false, apart := false, narrowed := true }
def FnExactAreObstructedUptoSaid : Prop := fnExactAreObstructedUptoRow.holds Try.pinned (OpenSpec.upto fnExactAreObstructedSpec)

/-- 'laws.FnExactOppositeAngle', WHERE WHAT IT READS IS OF BULK AT MOST 1048576: true; the input reads as it did. -/
def fnExactOppositeAngleUptoRow : OpenClaim := { program := "ytabddjfgbhnldaa", sum := "a929a97a623b19b02dbcc70774028c39971d5cb5660fafae16f49b98c7ee3ea4", func := "loop.example/g01234/laws.FnExactOppositeAngle", spec := "fnExactOppositeAngle", plainKeys := false, apart := false, narrowed := true }
def FnExactOppositeAngleUptoSaid : Prop := fnExactOppositeAngleUptoRow.holds Try.pinned (OpenSpec.upto fnExactOppositeAngleSpec)

end Rows
end Go.Proofs.Ytabddjfgbhnldaa
