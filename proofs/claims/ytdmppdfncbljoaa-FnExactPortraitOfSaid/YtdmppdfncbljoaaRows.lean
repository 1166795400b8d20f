/-
  No cell of these rows narrows 'for every input' (looked for: loops, veiled, ifaces, maps, wideKeys, modest, calm, conditions, laid).
  DERIVED. THE GIVEN ROWS OF THIS SEAT. 5 by the template 'for every input the law returns true; each argument reads behind the call as it read before'; 0 by the template 'total and deterministic' (their statements: YtdmppdfncbljoaaTotals.lean).
  GIVEN WITH THE SEED: the statements are not yours to turn. If you find one false, say at which input.
  Laid BY PROGRAM, IN A SANDBOX (cutbox-rows.mjs): the forced cells as the released guide's own fill.sh prints them over the translation d9782f779de35cf1… (all of the seat's roots in one cut). By AI agents, Wed Nov 11 2026. No macro, syntax, notation, axiom, sorry.
-/
import Derived.Test.YtdmppdfncbljoaaChecked
import GoSem.Claim
import GoSem.ClaimJoined
import GoSem.ClaimMapViews
import Derived.JoinedTies
import Derived.KernelRfl
namespace Go.Proofs.Ytdmppdfncbljoaa
/- THE CELL 'sum', in the pinned program and in every row, IS THE sha256 OF THE DUMP (.gsa) THAT YtdmppdfncbljoaaProg.lean LOADS. Nothing in Lean hashes anything: it is a label: what it is worth is what the hold of that sum in a sandbox is worth. -/
noncomputable def Try.pinned : Pinned := { name := "ytdmppdfncbljoaa", sum := "d9782f779de35cf1711fccf2ee039eb67cecff6af5288c97714b26cd1d2ccf1d", checked := Try.checked }
namespace Rows
def none {H : Type} : Left H := { results := [], args := [] }

/-- 'laws.FnExactLaminationOf': WHATEVER THE INPUT: true; the input reads as it did. -/
def fnExactLaminationOfSpec : ChangeSpec := { name := "fnExactLaminationOf", fn := fun _ => fun
  | [d1, d2] => { results := [.lit (.bool true)], args := [d1, d2] }
  | _ => none }
def fnExactLaminationOfRow : OpenClaim := { program := "ytdmppdfncbljoaa", sum := "d9782f779de35cf1711fccf2ee039eb67cecff6af5288c97714b26cd1d2ccf1d", func := "loop.example/g01234/laws.FnExactLaminationOf", spec := "fnExactLaminationOf", inPlace := ["slices.overlaps[loop.example/g01234/impl.Leaf]"], unfollowed := true, recurses := true, plainKeys := false, apart := false }
def FnExactLaminationOfSaid : Prop := fnExactLaminationOfRow.holds Try.pinned (OpenSpec.ofChange fnExactLaminationOfSpec)

/-- ITS FALSE NEIGHBOUR: 'it returns false'. Refute it at one input. -/
def fnExactLaminationOfWrong : ChangeSpec := { name := "fnExactLaminationOf", fn := fun _ => fun
  | [d1, d2] => { results := [.lit (.bool false)], args := [d1, d2] }
  | _ => none }
def FnExactLaminationOfWrongFalsely : Prop := fnExactLaminationOfRow.holds Try.pinned (OpenSpec.ofChange fnExactLaminationOfWrong)

/-- 'laws.FnExactCountByDepth': WHATEVER THE INPUT: true; the input reads as it did. -/
def fnExactCountByDepthSpec : ChangeSpec := { name := "fnExactCountByDepth", fn := fun _ => fun
  | [d1, d2] => { results := [.lit (.bool true)], args := [d1, d2] }
  | _ => none }
def fnExactCountByDepthRow : OpenClaim := { program := "ytdmppdfncbljoaa", sum := "d9782f779de35cf1711fccf2ee039eb67cecff6af5288c97714b26cd1d2ccf1d", func := "loop.example/g01234/laws.FnExactCountByDepth", spec := "fnExactCountByDepth", inPlace := ["slices.overlaps[loop.example/g01234/impl.Leaf]"], unfollowed := true, recurses := true, plainKeys := false, apart := false }
def FnExactCountByDepthSaid : Prop := fnExactCountByDepthRow.holds Try.pinned (OpenSpec.ofChange fnExactCountByDepthSpec)

/-- ITS FALSE NEIGHBOUR: 'it returns false'. Refute it at one input. -/
def fnExactCountByDepthWrong : ChangeSpec := { name := "fnExactCountByDepth", fn := fun _ => fun
  | [d1, d2] => { results := [.lit (.bool false)], args := [d1, d2] }
  | _ => none }
def FnExactCountByDepthWrongFalsely : Prop := fnExactCountByDepthRow.holds Try.pinned (OpenSpec.ofChange fnExactCountByDepthWrong)

/-- 'laws.FnExactEndClasses': WHATEVER THE INPUT: true; the input reads as it did. -/
def fnExactEndClassesSpec : ChangeSpec := { name := "fnExactEndClasses", fn := fun _ => fun
  | [d] => { results := [.lit (.bool true)], args := [d] }
  | _ => none }
def fnExactEndClassesRow : OpenClaim := { program := "ytdmppdfncbljoaa", sum := "d9782f779de35cf1711fccf2ee039eb67cecff6af5288c97714b26cd1d2ccf1d", func := "loop.example/g01234/laws.FnExactEndClasses", spec := "fnExactEndClasses", unfollowed := true, recurses := true, plainKeys := false, apart := false }
def FnExactEndClassesSaid : Prop := fnExactEndClassesRow.holds Try.pinned (OpenSpec.ofChange fnExactEndClassesSpec)

/-- ITS FALSE NEIGHBOUR: 'it returns false'. Refute it at one input. -/
def fnExactEndClassesWrong : ChangeSpec := { name := "fnExactEndClasses", fn := fun _ => fun
  | [d] => { results := [.lit (.bool false)], args := [d] }
  | _ => none }
def FnExactEndClassesWrongFalsely : Prop := fnExactEndClassesRow.holds Try.pinned (OpenSpec.ofChange fnExactEndClassesWrong)

/-- 'laws.FnExactPortraitOf': WHATEVER THE INPUT: true; the input reads as it did. -/
def fnExactPortraitOfSpec : ChangeSpec := { name := "fnExactPortraitOf", fn := fun _ => fun
  | [d1, d2] => { results := [.lit (.bool true)], args := [d1, d2] }
  | _ => none }
def fnExactPortraitOfRow : OpenClaim := { program := "ytdmppdfncbljoaa", sum := "d9782f779de35cf1711fccf2ee039eb67cecff6af5288c97714b26cd1d2ccf1d", func := "loop.example/g01234/laws.FnExactPortraitOf", spec := "fnExactPortraitOf", unfollowed := true, recurses := true, plainKeys := false, apart := false }
def FnExactPortraitOfSaid : Prop := fnExactPortraitOfRow.holds Try.pinned (OpenSpec.ofChange fnExactPortraitOfSpec)

/-- ITS FALSE NEIGHBOUR: 'it returns false'. Refute it at one input. -/
def fnExactPortraitOfWrong : ChangeSpec := { name := "fnExactPortraitOf", fn := fun _ => fun
  | [d1, d2] => { results := [.lit (.bool false)], args := [d1, d2] }
  | _ => none }
def FnExactPortraitOfWrongFalsely : Prop := fnExactPortraitOfRow.holds Try.pinned (OpenSpec.ofChange fnExactPortraitOfWrong)

/-- 'laws.FnExactWordsOf': WHATEVER THE INPUT: true; the input reads as it did. -/
def fnExactWordsOfSpec : ChangeSpec := { name := "fnExactWordsOf", fn := fun _ => fun
  | [d] => { results := [.lit (.bool true)], args := [d] }
  | _ => none }
def fnExactWordsOfRow : OpenClaim := { program := "ytdmppdfncbljoaa", sum := "d9782f779de35cf1711fccf2ee039eb67cecff6af5288c97714b26cd1d2ccf1d", func := "loop.example/g01234/laws.FnExactWordsOf", spec := "fnExactWordsOf", inPlace := ["internal/abi.NoEscape", "internal/bytealg.MakeNoZero"], unfollowed := true, recurses := true, plainKeys := false, apart := false }
def FnExactWordsOfSaid : Prop := fnExactWordsOfRow.holds Try.pinned (OpenSpec.ofChange fnExactWordsOfSpec)

/-- ITS FALSE NEIGHBOUR: 'it returns false'. Refute it at one input. -/
def fnExactWordsOfWrong : ChangeSpec := { name := "fnExactWordsOf", fn := fun _ => fun
  | [d] => { results := [.lit (.bool false)], args := [d] }
  | _ => none }
def FnExactWordsOfWrongFalsely : Prop := fnExactWordsOfRow.holds Try.pinned (OpenSpec.ofChange fnExactWordsOfWrong)

/- THE SECOND FORM. 'bulk': how many values and letters a reading holds, each counted each time it is reached (what is shared counts as often as it is met; a slice's spare places count too). A statement '..UptoSaid' is the law's where the arguments, and the package variables that the reading takes, are together of bulk at most 1048576: NARROWER than '..Said'. Prove '..Said' where nothing that the law and all that it calls make is longer than what came in: it says more and counts as full. Else prove '..UptoSaid'. A law counts once. -/
mutual
def uptoBulk {H : Type} : DataW H → Nat
  | .lit (.string bytes) => bytes.length + 1
  | .lit _ => 1
  | .nil => 1
  | .ptr d => uptoBulk d + 1
  | .slice elems spare => uptoBulkAll elems + uptoBulkAll spare + 1
  | .agg parts => uptoBulkAll parts + 1
  | .iface _ d => uptoBulk d + 1
  | .map entries => uptoBulkEntries entries + 1
  | .held _ => 1
def uptoBulkAll {H : Type} : List (DataW H) → Nat
  | [] => 0
  | d :: r => uptoBulk d + uptoBulkAll r
def uptoBulkEntries {H : Type} : List (Lit × DataW H) → Nat
  | [] => 0
  | x :: r => uptoBulkEntry x + uptoBulkEntries r
def uptoBulkEntry {H : Type} : Lit × DataW H → Nat
  | (.string bytes, d) => bytes.length + uptoBulk d + 1
  | (_, d) => uptoBulk d + 1
 end
def uptoSmall : (H : Type) → List (DataW H) → Bool := fun _ ds => decide (uptoBulkAll ds ≤ 1048576)
def OpenSpec.upto (s : _root_.Go.ChangeSpec) : _root_.Go.OpenSpec := { _root_.Go.OpenSpec.ofChange s with cond := some uptoSmall }

/-- 'laws.FnExactLaminationOf', WHERE WHAT IT READS IS OF BULK AT MOST 1048576: true; the input reads as it did. -/
def fnExactLaminationOfUptoRow : OpenClaim := { program := "ytdmppdfncbljoaa", sum := "d9782f779de35cf1711fccf2ee039eb67cecff6af5288c97714b26cd1d2ccf1d", func := "loop.example/g01234/laws.FnExactLaminationOf", spec := "fnExactLaminationOf", inPlace := ["slices.overlaps[loop.example/g01234/impl.Leaf]"], unfollowed := true, recurses := true, plainKeys := false, apart := false, narrowed := true }
def FnExactLaminationOfUptoSaid : Prop := fnExactLaminationOfUptoRow.holds Try.pinned (OpenSpec.upto fnExactLaminationOfSpec)

/-- 'laws.FnExactCountByDepth', WHERE WHAT IT READS IS OF BULK AT MOST 1048576: true; the input reads as it did. -/
def fnExactCountByDepthUptoRow : OpenClaim := { program := "ytdmppdfncbljoaa", sum := "d9782f779de35cf1711fccf2ee039eb67cecff6af5288c97714b26cd1d2ccf1d", func := "loop.example/g01234/laws.FnExactCountByDepth", spec := "fnExactCountByDepth", inPlace := ["slices.overlaps[loop.example/g01234/impl.Leaf]"], unfollowed := true, recurses := true, plainKeys := false, apart := false, narrowed := true }
def FnExactCountByDepthUptoSaid : Prop := fnExactCountByDepthUptoRow.holds Try.pinned (OpenSpec.upto fnExactCountByDepthSpec)

/-- 'laws.FnExactEndClasses', WHERE WHAT IT READS IS OF BULK AT MOST 1048576: true; the input reads as it did. -/
def fnExactEndClassesUptoRow : OpenClaim := { program := "ytdmppdfncbljoaa", sum := "d9782f779de35cf1711fccf2ee039eb67cecff6af5288c97714b26cd1d2ccf1d", func := "loop.example/g01234/laws.FnExactEndClasses", spec := "fnExactEndClasses", unfollowed := true, recurses := true, plainKeys := false, apart := false, narrowed := true }
def FnExactEndClassesUptoSaid : Prop := fnExactEndClassesUptoRow.holds Try.pinned (OpenSpec.upto fnExactEndClassesSpec)

/-- 'laws.FnExactPortraitOf', WHERE WHAT IT READS IS OF BULK AT MOST 1048576: true; the input reads as it did. -/
def fnExactPortraitOfUptoRow : OpenClaim := { program := "ytdmppdfncbljoaa", sum := "d9782f779de35cf1711fccf2ee039eb67cecff6af5288c97714b26cd1d2ccf1d", func := "loop.example/g01234/laws.FnExactPortraitOf", spec := "fnExactPortraitOf", unfollowed := true, recurses := true, plainKeys := false, apart := false, narrowed := true }
def FnExactPortraitOfUptoSaid : Prop := fnExactPortraitOfUptoRow.holds Try.pinned (OpenSpec.upto fnExactPortraitOfSpec)

/-- 'laws.FnExactWordsOf', WHERE WHAT IT READS IS OF BULK AT MOST 1048576: true; the input reads as it did. -/
def fnExactWordsOfUptoRow : OpenClaim := { program := "ytdmppdfncbljoaa", sum := "d9782f779de35cf1711fccf2ee039eb67cecff6af5288c97714b26cd1d2ccf1d", func := "loop.example/g01234/laws.FnExactWordsOf", spec := "fnExactWordsOf", inPlace := ["internal/abi.NoEscape", "internal/bytealg.MakeNoZero"], unfollowed := true, recurses := true, plainKeys := false, apart := false, narrowed := true }
def FnExactWordsOfUptoSaid : Prop := fnExactWordsOfUptoRow.holds Try.pinned (OpenSpec.upto fnExactWordsOfSpec)

end Rows
end Go.Proofs.Ytdmppdfncbljoaa
