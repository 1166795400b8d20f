/-
  No cell of these rows narrows 'for every input' (looked for: loops, veiled, ifaces, maps, wideKeys, modest, calm, conditions, laid).
  DERIVED. THE GIVEN ROWS OF THIS SEAT. 9 by the template 'for every input the law returns true; each argument reads behind the call as it read before'; 0 by the template 'total and deterministic' (their statements: YtjomgbjiognmmaaTotals.lean).
  GIVEN WITH THE SEED: the statements are not yours to turn. If you find one false, say at which input.
  Laid BY PROGRAM, IN A SANDBOX (cutbox-rows.mjs): the forced cells as the released guide's own fill.sh prints them over the translation 2f56e7acc894eec3… (all of the seat's roots in one cut). By AI agents, Wed Nov 11 2026. No macro, syntax, notation, axiom, sorry.
-/
import Derived.Test.YtjomgbjiognmmaaChecked
import GoSem.Claim
import GoSem.ClaimJoined
import GoSem.ClaimMapViews
import Derived.JoinedTies
import Derived.KernelRfl
namespace Go.Proofs.Ytjomgbjiognmmaa
/- THE CELL 'sum', in the pinned program and in every row, IS THE sha256 OF THE DUMP (.gsa) THAT YtjomgbjiognmmaaProg.lean LOADS. Nothing in Lean hashes anything: it is a label: what it is worth is what the hold of that sum in a sandbox is worth. -/
noncomputable def Try.pinned : Pinned := { name := "ytjomgbjiognmmaa", sum := "2f56e7acc894eec3e567a6f12a047d7f85a7057bf2bfc0645d0f7e8c6edbdc4c", checked := Try.checked }
namespace Rows
def none {H : Type} : Left H := { results := [], args := [] }

/-- 'laws.FnExactPairsOfOrbit': WHATEVER THE INPUT: true; the input reads as it did. -/
def fnExactPairsOfOrbitSpec : ChangeSpec := { name := "fnExactPairsOfOrbit", fn := fun _ => fun
  | [d] => { results := [.lit (.bool true)], args := [d] }
  | _ => none }
def fnExactPairsOfOrbitRow : OpenClaim := { program := "ytjomgbjiognmmaa", sum := "2f56e7acc894eec3e567a6f12a047d7f85a7057bf2bfc0645d0f7e8c6edbdc4c", func := "loop.example/g01234/laws.FnExactPairsOfOrbit", spec := "fnExactPairsOfOrbit", unfollowed := true, recurses := true, plainKeys := false, apart := false }
def FnExactPairsOfOrbitSaid : Prop := fnExactPairsOfOrbitRow.holds Try.pinned (OpenSpec.ofChange fnExactPairsOfOrbitSpec)

/-- ITS FALSE NEIGHBOUR: 'it returns false'. Refute it at one input. -/
def fnExactPairsOfOrbitWrong : ChangeSpec := { name := "fnExactPairsOfOrbit", fn := fun _ => fun
  | [d] => { results := [.lit (.bool false)], args := [d] }
  | _ => none }
def FnExactPairsOfOrbitWrongFalsely : Prop := fnExactPairsOfOrbitRow.holds Try.pinned (OpenSpec.ofChange fnExactPairsOfOrbitWrong)

/-- 'laws.FnExactSeparatedPairs': WHATEVER THE INPUT: true; the input reads as it did. -/
def fnExactSeparatedPairsSpec : ChangeSpec := { name := "fnExactSeparatedPairs", fn := fun _ => fun
  | [d] => { results := [.lit (.bool true)], args := [d] }
  | _ => none }
def fnExactSeparatedPairsRow : OpenClaim := { program := "ytjomgbjiognmmaa", sum := "2f56e7acc894eec3e567a6f12a047d7f85a7057bf2bfc0645d0f7e8c6edbdc4c", func := "loop.example/g01234/laws.FnExactSeparatedPairs", spec := "fnExactSeparatedPairs", unfollowed := true, recurses := true, plainKeys := false, apart := false }
def FnExactSeparatedPairsSaid : Prop := fnExactSeparatedPairsRow.holds Try.pinned (OpenSpec.ofChange fnExactSeparatedPairsSpec)

/-- ITS FALSE NEIGHBOUR: 'it returns false'. Refute it at one input. -/
def fnExactSeparatedPairsWrong : ChangeSpec := { name := "fnExactSeparatedPairs", fn := fun _ => fun
  | [d] => { results := [.lit (.bool false)], args := [d] }
  | _ => none }
def FnExactSeparatedPairsWrongFalsely : Prop := fnExactSeparatedPairsRow.holds Try.pinned (OpenSpec.ofChange fnExactSeparatedPairsWrong)

/-- 'laws.FnExactPairMatrix': WHATEVER THE INPUT: true; the input reads as it did. -/
def fnExactPairMatrixSpec : ChangeSpec := { name := "fnExactPairMatrix", fn := fun _ => fun
  | [d] => { results := [.lit (.bool true)], args := [d] }
  | _ => none }
def fnExactPairMatrixRow : OpenClaim := { program := "ytjomgbjiognmmaa", sum := "2f56e7acc894eec3e567a6f12a047d7f85a7057bf2bfc0645d0f7e8c6edbdc4c", func := "loop.example/g01234/laws.FnExactPairMatrix", spec := "fnExactPairMatrix", unfollowed := true, recurses := true, plainKeys := false, apart := false }
def FnExactPairMatrixSaid : Prop := fnExactPairMatrixRow.holds Try.pinned (OpenSpec.ofChange fnExactPairMatrixSpec)

/-- ITS FALSE NEIGHBOUR: 'it returns false'. Refute it at one input. -/
def fnExactPairMatrixWrong : ChangeSpec := { name := "fnExactPairMatrix", fn := fun _ => fun
  | [d] => { results := [.lit (.bool false)], args := [d] }
  | _ => none }
def FnExactPairMatrixWrongFalsely : Prop := fnExactPairMatrixRow.holds Try.pinned (OpenSpec.ofChange fnExactPairMatrixWrong)

/-- 'laws.FnExactCharacteristicOf': WHATEVER THE INPUT: true; the input reads as it did. -/
def fnExactCharacteristicOfSpec : ChangeSpec := { name := "fnExactCharacteristicOf", fn := fun _ => fun
  | [d] => { results := [.lit (.bool true)], args := [d] }
  | _ => none }
def fnExactCharacteristicOfRow : OpenClaim := { program := "ytjomgbjiognmmaa", sum := "2f56e7acc894eec3e567a6f12a047d7f85a7057bf2bfc0645d0f7e8c6edbdc4c", func := "loop.example/g01234/laws.FnExactCharacteristicOf", spec := "fnExactCharacteristicOf", unfollowed := true, recurses := true, plainKeys := false, apart := false }
def FnExactCharacteristicOfSaid : Prop := fnExactCharacteristicOfRow.holds Try.pinned (OpenSpec.ofChange fnExactCharacteristicOfSpec)

/-- ITS FALSE NEIGHBOUR: 'it returns false'. Refute it at one input. -/
def fnExactCharacteristicOfWrong : ChangeSpec := { name := "fnExactCharacteristicOf", fn := fun _ => fun
  | [d] => { results := [.lit (.bool false)], args := [d] }
  | _ => none }
def FnExactCharacteristicOfWrongFalsely : Prop := fnExactCharacteristicOfRow.holds Try.pinned (OpenSpec.ofChange fnExactCharacteristicOfWrong)

/-- 'laws.FnExactPairPolynomial': WHATEVER THE INPUT: true; the input reads as it did. -/
def fnExactPairPolynomialSpec : ChangeSpec := { name := "fnExactPairPolynomial", fn := fun _ => fun
  | [d] => { results := [.lit (.bool true)], args := [d] }
  | _ => none }
def fnExactPairPolynomialRow : OpenClaim := { program := "ytjomgbjiognmmaa", sum := "2f56e7acc894eec3e567a6f12a047d7f85a7057bf2bfc0645d0f7e8c6edbdc4c", func := "loop.example/g01234/laws.FnExactPairPolynomial", spec := "fnExactPairPolynomial", unfollowed := true, recurses := true, plainKeys := false, apart := false }
def FnExactPairPolynomialSaid : Prop := fnExactPairPolynomialRow.holds Try.pinned (OpenSpec.ofChange fnExactPairPolynomialSpec)

/-- ITS FALSE NEIGHBOUR: 'it returns false'. Refute it at one input. -/
def fnExactPairPolynomialWrong : ChangeSpec := { name := "fnExactPairPolynomial", fn := fun _ => fun
  | [d] => { results := [.lit (.bool false)], args := [d] }
  | _ => none }
def FnExactPairPolynomialWrongFalsely : Prop := fnExactPairPolynomialRow.holds Try.pinned (OpenSpec.ofChange fnExactPairPolynomialWrong)

/-- 'laws.FnExactPathCount': WHATEVER THE INPUT: true; the input reads as it did. -/
def fnExactPathCountSpec : ChangeSpec := { name := "fnExactPathCount", fn := fun _ => fun
  | [d1, d2] => { results := [.lit (.bool true)], args := [d1, d2] }
  | _ => none }
def fnExactPathCountRow : OpenClaim := { program := "ytjomgbjiognmmaa", sum := "2f56e7acc894eec3e567a6f12a047d7f85a7057bf2bfc0645d0f7e8c6edbdc4c", func := "loop.example/g01234/laws.FnExactPathCount", spec := "fnExactPathCount", unfollowed := true, recurses := true, plainKeys := false, apart := false }
def FnExactPathCountSaid : Prop := fnExactPathCountRow.holds Try.pinned (OpenSpec.ofChange fnExactPathCountSpec)

/-- ITS FALSE NEIGHBOUR: 'it returns false'. Refute it at one input. -/
def fnExactPathCountWrong : ChangeSpec := { name := "fnExactPathCount", fn := fun _ => fun
  | [d1, d2] => { results := [.lit (.bool false)], args := [d1, d2] }
  | _ => none }
def FnExactPathCountWrongFalsely : Prop := fnExactPathCountRow.holds Try.pinned (OpenSpec.ofChange fnExactPathCountWrong)

/-- 'laws.FnExactPathTrace': WHATEVER THE INPUT: true; the input reads as it did. -/
def fnExactPathTraceSpec : ChangeSpec := { name := "fnExactPathTrace", fn := fun _ => fun
  | [d1, d2] => { results := [.lit (.bool true)], args := [d1, d2] }
  | _ => none }
def fnExactPathTraceRow : OpenClaim := { program := "ytjomgbjiognmmaa", sum := "2f56e7acc894eec3e567a6f12a047d7f85a7057bf2bfc0645d0f7e8c6edbdc4c", func := "loop.example/g01234/laws.FnExactPathTrace", spec := "fnExactPathTrace", unfollowed := true, recurses := true, plainKeys := false, apart := false }
def FnExactPathTraceSaid : Prop := fnExactPathTraceRow.holds Try.pinned (OpenSpec.ofChange fnExactPathTraceSpec)

/-- ITS FALSE NEIGHBOUR: 'it returns false'. Refute it at one input. -/
def fnExactPathTraceWrong : ChangeSpec := { name := "fnExactPathTrace", fn := fun _ => fun
  | [d1, d2] => { results := [.lit (.bool false)], args := [d1, d2] }
  | _ => none }
def FnExactPathTraceWrongFalsely : Prop := fnExactPathTraceRow.holds Try.pinned (OpenSpec.ofChange fnExactPathTraceWrong)

/-- 'laws.FnExactGrowsFaster': WHATEVER THE INPUT: true; the input reads as it did. -/
def fnExactGrowsFasterSpec : ChangeSpec := { name := "fnExactGrowsFaster", fn := fun _ => fun
  | [d1, d2, d3] => { results := [.lit (.bool true)], args := [d1, d2, d3] }
  | _ => none }
def fnExactGrowsFasterRow : OpenClaim := { program := "ytjomgbjiognmmaa", sum := "2f56e7acc894eec3e567a6f12a047d7f85a7057bf2bfc0645d0f7e8c6edbdc4c", func := "loop.example/g01234/laws.FnExactGrowsFaster", spec := "fnExactGrowsFaster", unfollowed := true, recurses := true, plainKeys := false, apart := false }
def FnExactGrowsFasterSaid : Prop := fnExactGrowsFasterRow.holds Try.pinned (OpenSpec.ofChange fnExactGrowsFasterSpec)

/-- ITS FALSE NEIGHBOUR: 'it returns false'. Refute it at one input. -/
def fnExactGrowsFasterWrong : ChangeSpec := { name := "fnExactGrowsFaster", fn := fun _ => fun
  | [d1, d2, d3] => { results := [.lit (.bool false)], args := [d1, d2, d3] }
  | _ => none }
def FnExactGrowsFasterWrongFalsely : Prop := fnExactGrowsFasterRow.holds Try.pinned (OpenSpec.ofChange fnExactGrowsFasterWrong)

/-- 'laws.FnExactPairOrbit': WHATEVER THE INPUT: true; the input reads as it did. -/
def fnExactPairOrbitSpec : ChangeSpec := { name := "fnExactPairOrbit", fn := fun _ => fun
  | [d1, d2, d3, d4] => { results := [.lit (.bool true)], args := [d1, d2, d3, d4] }
  | _ => none }
def fnExactPairOrbitRow : OpenClaim := { program := "ytjomgbjiognmmaa", sum := "2f56e7acc894eec3e567a6f12a047d7f85a7057bf2bfc0645d0f7e8c6edbdc4c", func := "loop.example/g01234/laws.FnExactPairOrbit", spec := "fnExactPairOrbit", unfollowed := true, recurses := true, plainKeys := false, apart := false }
def FnExactPairOrbitSaid : Prop := fnExactPairOrbitRow.holds Try.pinned (OpenSpec.ofChange fnExactPairOrbitSpec)

/-- ITS FALSE NEIGHBOUR: 'it returns false'. Refute it at one input. -/
def fnExactPairOrbitWrong : ChangeSpec := { name := "fnExactPairOrbit", fn := fun _ => fun
  | [d1, d2, d3, d4] => { results := [.lit (.bool false)], args := [d1, d2, d3, d4] }
  | _ => none }
def FnExactPairOrbitWrongFalsely : Prop := fnExactPairOrbitRow.holds Try.pinned (OpenSpec.ofChange fnExactPairOrbitWrong)

/- THE SECOND FORM. 'bulk': how many values and letters a reading holds, each counted each time it is reached (what is shared counts as often as it is met; a slice's spare places count too). A statement '..UptoSaid' is the law's where the arguments, and the package variables that the reading takes, are together of bulk at most 1048576: NARROWER than '..Said'. Prove '..Said' where nothing that the law and all that it calls make is longer than what came in: it says more and counts as full. Else prove '..UptoSaid'. A law counts once. -/
mutual
def uptoBulk {H : Type} : DataW H → Nat
  | .lit (.string bytes) => bytes.length + 1
  | .lit _ => 1
  | .nil => 1
  | .ptr d => uptoBulk d + 1
  | .slice elems spare => uptoBulkAll elems + uptoBulkAll spare + 1
  | .agg parts => uptoBulkAll parts + 1
  | .iface _ d => uptoBulk d + 1
  | .map entries => uptoBulkEntries entries + 1
  | .held _ => 1
def uptoBulkAll {H : Type} : List (DataW H) → Nat
  | [] => 0
  | d :: r => uptoBulk d + uptoBulkAll r
def uptoBulkEntries {H : Type} : List (Lit × DataW H) → Nat
  | [] => 0
  | x :: r => uptoBulkEntry x + uptoBulkEntries r
def uptoBulkEntry {H : Type} : Lit × DataW H → Nat
  | (.string bytes, d) => bytes.length + uptoBulk d + 1
  | (_, d) => uptoBulk d + 1
 end
def uptoSmall : (H : Type) → List (DataW H) → Bool := fun _ ds => decide (uptoBulkAll ds ≤ 1048576)
def OpenSpec.upto (s : _root_.Go.ChangeSpec) : _root_.Go.OpenSpec := { _root_.Go.OpenSpec.ofChange s with cond := some uptoSmall }

/-- 'laws.FnExactPairsOfOrbit', WHERE WHAT IT READS IS OF BULK AT MOST 1048576: true; the input reads as it did. -/
def fnExactPairsOfOrbitUptoRow : OpenClaim := { program := "ytjomgbjiognmmaa", sum := "2f56e7acc894eec3e567a6f12a047d7f85a7057bf2bfc0645d0f7e8c6edbdc4c", func := "loop.example/g01234/laws.FnExactPairsOfOrbit", spec := "fnExactPairsOfOrbit", unfollowed := true, recurses := true, plainKeys := false, apart := false, narrowed := true }
def FnExactPairsOfOrbitUptoSaid : Prop := fnExactPairsOfOrbitUptoRow.holds Try.pinned (OpenSpec.upto fnExactPairsOfOrbitSpec)

/-- 'laws.FnExactSeparatedPairs', WHERE WHAT IT READS IS OF BULK AT MOST 1048576: true; the input reads as it did. -/
def fnExactSeparatedPairsUptoRow : OpenClaim := { program := "ytjomgbjiognmmaa", sum := "2f56e7acc894eec3e567a6f12a047d7f85a7057bf2bfc0645d0f7e8c6edbdc4c", func := "loop.example/g01234/laws.FnExactSeparatedPairs", spec := "fnExactSeparatedPairs", unfollowed := true, recurses := true, plainKeys := false, apart := false, narrowed := true }
def FnExactSeparatedPairsUptoSaid : Prop := fnExactSeparatedPairsUptoRow.holds Try.pinned (OpenSpec.upto fnExactSeparatedPairsSpec)

/-- 'laws.FnExactPairMatrix', WHERE WHAT IT READS IS OF BULK AT MOST 1048576: true; the input reads as it did. -/
def fnExactPairMatrixUptoRow : OpenClaim := { program := "ytjomgbjiognmmaa", sum := "2f56e7acc894eec3e567a6f12a047d7f85a7057bf2bfc0645d0f7e8c6edbdc4c", func := "loop.example/g01234/laws.FnExactPairMatrix", spec := "fnExactPairMatrix", unfollowed := true, recurses := true, plainKeys := false, apart := false, narrowed := true }
def FnExactPairMatrixUptoSaid : Prop := fnExactPairMatrixUptoRow.holds Try.pinned (OpenSpec.upto fnExactPairMatrixSpec)

/-- 'laws.FnExactCharacteristicOf', WHERE WHAT IT READS IS OF BULK AT MOST 1048576: true; the input reads as it did. -/
def fnExactCharacteristicOfUptoRow : OpenClaim := { program := "ytjomgbjiognmmaa", sum := "2f56e7acc894eec3e567a6f12a047d7f85a7057bf2bfc0645d0f7e8c6edbdc4c", func := "loop.example/g01234/laws.FnExactCharacteristicOf", spec := "fnExactCharacteristicOf", unfollowed := true, recurses := true, plainKeys := false, apart := false, narrowed := true }
def FnExactCharacteristicOfUptoSaid : Prop := fnExactCharacteristicOfUptoRow.holds Try.pinned (OpenSpec.upto fnExactCharacteristicOfSpec)

/-- 'laws.FnExactPairPolynomial', WHERE WHAT IT READS IS OF BULK AT MOST 1048576: true; the input reads as it did. -/
def fnExactPairPolynomialUptoRow : OpenClaim := { program := "ytjomgbjiognmmaa", sum := "2f56e7acc894eec3e567a6f12a047d7f85a7057bf2bfc0645d0f7e8c6edbdc4c", func := "loop.example/g01234/laws.FnExactPairPolynomial", spec := "fnExactPairPolynomial", unfollowed := true, recurses := true, plainKeys := false, apart := false, narrowed := true }
def FnExactPairPolynomialUptoSaid : Prop := fnExactPairPolynomialUptoRow.holds Try.pinned (OpenSpec.upto fnExactPairPolynomialSpec)

/-- 'laws.FnExactPathCount', WHERE WHAT IT READS IS OF BULK AT MOST 1048576: true; the input reads as it did. -/
def fnExactPathCountUptoRow : OpenClaim := { program := "ytjomgbjiognmmaa", sum := "2f56e7acc894eec3e567a6f12a047d7f85a7057bf2bfc0645d0f7e8c6edbdc4c", func := "loop.example/g01234/laws.FnExactPathCount", spec := "fnExactPathCount", unfollowed := true, recurses := true, plainKeys := false, apart := false, narrowed := true }
def FnExactPathCountUptoSaid : Prop := fnExactPathCountUptoRow.holds Try.pinned (OpenSpec.upto fnExactPathCountSpec)

/-- 'laws.FnExactPathTrace', WHERE WHAT IT READS IS OF BULK AT MOST 1048576: true; the input reads as it did. -/
def fnExactPathTraceUptoRow : OpenClaim := { program := "ytjomgbjiognmmaa", sum := "2f56e7acc894eec3e567a6f12a047d7f85a7057bf2bfc0645d0f7e8c6edbdc4c", func := "loop.example/g01234/laws.FnExactPathTrace", spec := "fnExactPathTrace", unfollowed := true, recurses := true, plainKeys := false, apart := false, narrowed := true }
def FnExactPathTraceUptoSaid : Prop := fnExactPathTraceUptoRow.holds Try.pinned (OpenSpec.upto fnExactPathTraceSpec)

/-- 'laws.FnExactGrowsFaster', WHERE WHAT IT READS IS OF BULK AT MOST 1048576: true; the input reads as it did. -/
def fnExactGrowsFasterUptoRow : OpenClaim := { program := "ytjomgbjiognmmaa", sum := "2f56e7acc894eec3e567a6f12a047d7f85a7057bf2bfc0645d0f7e8c6edbdc4c", func := "loop.example/g01234/laws.FnExactGrowsFaster", spec := "fnExactGrowsFaster", unfollowed := true, recurses := true, plainKeys := false, apart := false, narrowed := true }
def FnExactGrowsFasterUptoSaid : Prop := fnExactGrowsFasterUptoRow.holds Try.pinned (OpenSpec.upto fnExactGrowsFasterSpec)

/-- 'laws.FnExactPairOrbit', WHERE WHAT IT READS IS OF BULK AT MOST 1048576: true; the input reads as it did. -/
def fnExactPairOrbitUptoRow : OpenClaim := { program := "ytjomgbjiognmmaa", sum := "2f56e7acc894eec3e567a6f12a047d7f85a7057bf2bfc0645d0f7e8c6edbdc4c", func := "loop.example/g01234/laws.FnExactPairOrbit", spec := "fnExactPairOrbit", unfollowed := true, recurses := true, plainKeys := false, apart := false, narrowed := true }
def FnExactPairOrbitUptoSaid : Prop := fnExactPairOrbitUptoRow.holds Try.pinned (OpenSpec.upto fnExactPairOrbitSpec)

end Rows
end Go.Proofs.Ytjomgbjiognmmaa
