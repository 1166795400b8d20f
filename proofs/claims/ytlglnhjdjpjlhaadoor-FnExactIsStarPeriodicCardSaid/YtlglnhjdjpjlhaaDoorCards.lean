/-
  DERIVED. GIVEN WITH THE SEED: THE CARDS: each row of YtlglnhjdjpjlhaaDoorRows.lean that lists a variable, with what it lists TIED to the program's text (the seventh form; the later family's looks); each row that meets fmt, with fmt's text TOLD by the authors' own Lean function (tested against real Go, not proved from fmt's source: count such statements apart). THE CARD IS WHAT COUNTS. Prove the row's statement (the work); the ties are given (YtlglnhjdjpjlhaaDoorTie.lean); close each card by the builder's one call (the guide's Derived/Test/ToyasCard.lean, 'card_holds'). Laid BY PROGRAM, IN A SANDBOX (cutbox-door.mjs). By AI agents, Wed Nov 11 2026. No macro, syntax, notation, axiom, sorry.
-/
import Derived.Test.YtlglnhjdjpjlhaaDoorRows
import GoSem.ClaimSeven
namespace Go.Proofs.YtlglnhjdjpjlhaaDoor
namespace Rows

/-- THE TIED CARD OF 'laws.FnExactIsSequence'. -/
def fnExactIsSequenceCard : Claim7 := { stood := { row := fnExactIsSequenceRow, standIns := [], harness := (true, "a45c8c0faf637745b1636646db3ccf1c43ed96fa390355d24f72123934c1fe87"), looks := false }, kinds := [], alts := [], laidByText := true, laidKinds := [.data, .pinned], laidTests := true, laidLooks := .later }
def FnExactIsSequenceCardSaid : Prop := Claim7.holds Tryd.pinned (.plain (OpenSpec.ofChange fnExactIsSequenceSpec)) fnExactIsSequenceCard

/-- THE TIED CARD OF 'laws.FnExactSequenceOf'. -/
def fnExactSequenceOfCard : Claim7 := { stood := { row := fnExactSequenceOfRow, standIns := [], harness := (true, "a45c8c0faf637745b1636646db3ccf1c43ed96fa390355d24f72123934c1fe87"), looks := false }, kinds := [], alts := [], laidByText := true, laidKinds := [.data, .pinned], laidTests := true, laidLooks := .later }
def FnExactSequenceOfCardSaid : Prop := Claim7.holds Tryd.pinned (.plain (OpenSpec.ofChange fnExactSequenceOfSpec)) fnExactSequenceOfCard

/-- THE TIED CARD OF 'laws.FnExactLetterAt'. -/
def fnExactLetterAtCard : Claim7 := { stood := { row := fnExactLetterAtRow, standIns := [], harness := (true, "a45c8c0faf637745b1636646db3ccf1c43ed96fa390355d24f72123934c1fe87"), looks := false }, kinds := [], alts := [], laidByText := true, laidKinds := [.data, .pinned], laidTests := true, laidLooks := .later }
def FnExactLetterAtCardSaid : Prop := Claim7.holds Tryd.pinned (.plain (OpenSpec.ofChange fnExactLetterAtSpec)) fnExactLetterAtCard

/-- THE TIED CARD OF 'laws.FnExactShiftSequence'. -/
def fnExactShiftSequenceCard : Claim7 := { stood := { row := fnExactShiftSequenceRow, standIns := [], harness := (true, "a45c8c0faf637745b1636646db3ccf1c43ed96fa390355d24f72123934c1fe87"), looks := false }, kinds := [], alts := [], laidByText := true, laidKinds := [.data, .pinned], laidTests := true, laidLooks := .later }
def FnExactShiftSequenceCardSaid : Prop := Claim7.holds Tryd.pinned (.plain (OpenSpec.ofChange fnExactShiftSequenceSpec)) fnExactShiftSequenceCard

/-- THE TIED CARD OF 'laws.FnExactSequenceText'. -/
def fnExactSequenceTextCard : Claim7 := { stood := { row := fnExactSequenceTextRow, standIns := [], harness := (true, "a45c8c0faf637745b1636646db3ccf1c43ed96fa390355d24f72123934c1fe87"), looks := false }, kinds := [], alts := [], laidByText := true, laidKinds := [.data, .pinned], laidTests := true, laidLooks := .later }
def FnExactSequenceTextCardSaid : Prop := Claim7.holds Tryd.pinned (.plain (OpenSpec.ofChange fnExactSequenceTextSpec)) fnExactSequenceTextCard

/-- THE TIED CARD OF 'laws.FnExactIsStarPeriodic'. -/
def fnExactIsStarPeriodicCard : Claim7 := { stood := { row := fnExactIsStarPeriodicRow, standIns := [], harness := (true, "a45c8c0faf637745b1636646db3ccf1c43ed96fa390355d24f72123934c1fe87"), looks := false }, kinds := [], alts := [], laidByText := true, laidKinds := [.data, .pinned], laidTests := true, laidLooks := .later }
def FnExactIsStarPeriodicCardSaid : Prop := Claim7.holds Tryd.pinned (.plain (OpenSpec.ofChange fnExactIsStarPeriodicSpec)) fnExactIsStarPeriodicCard

/-- THE SECOND FORM's CARD OF 'laws.FnExactIsSequence'. -/
def fnExactIsSequenceUptoCard : Claim7 := { stood := { row := fnExactIsSequenceUptoRow, standIns := [], harness := (true, "a45c8c0faf637745b1636646db3ccf1c43ed96fa390355d24f72123934c1fe87"), looks := false }, kinds := [], alts := [], laidByText := true, laidKinds := [.data, .pinned], laidTests := true, laidLooks := .later }
def FnExactIsSequenceUptoCardSaid : Prop := Claim7.holds Tryd.pinned (.plain (OpenSpec.upto fnExactIsSequenceSpec)) fnExactIsSequenceUptoCard

/-- THE SECOND FORM's CARD OF 'laws.FnExactSequenceOf'. -/
def fnExactSequenceOfUptoCard : Claim7 := { stood := { row := fnExactSequenceOfUptoRow, standIns := [], harness := (true, "a45c8c0faf637745b1636646db3ccf1c43ed96fa390355d24f72123934c1fe87"), looks := false }, kinds := [], alts := [], laidByText := true, laidKinds := [.data, .pinned], laidTests := true, laidLooks := .later }
def FnExactSequenceOfUptoCardSaid : Prop := Claim7.holds Tryd.pinned (.plain (OpenSpec.upto fnExactSequenceOfSpec)) fnExactSequenceOfUptoCard

/-- THE SECOND FORM's CARD OF 'laws.FnExactLetterAt'. -/
def fnExactLetterAtUptoCard : Claim7 := { stood := { row := fnExactLetterAtUptoRow, standIns := [], harness := (true, "a45c8c0faf637745b1636646db3ccf1c43ed96fa390355d24f72123934c1fe87"), looks := false }, kinds := [], alts := [], laidByText := true, laidKinds := [.data, .pinned], laidTests := true, laidLooks := .later }
def FnExactLetterAtUptoCardSaid : Prop := Claim7.holds Tryd.pinned (.plain (OpenSpec.upto fnExactLetterAtSpec)) fnExactLetterAtUptoCard

/-- THE SECOND FORM's CARD OF 'laws.FnExactShiftSequence'. -/
def fnExactShiftSequenceUptoCard : Claim7 := { stood := { row := fnExactShiftSequenceUptoRow, standIns := [], harness := (true, "a45c8c0faf637745b1636646db3ccf1c43ed96fa390355d24f72123934c1fe87"), looks := false }, kinds := [], alts := [], laidByText := true, laidKinds := [.data, .pinned], laidTests := true, laidLooks := .later }
def FnExactShiftSequenceUptoCardSaid : Prop := Claim7.holds Tryd.pinned (.plain (OpenSpec.upto fnExactShiftSequenceSpec)) fnExactShiftSequenceUptoCard

/-- THE SECOND FORM's CARD OF 'laws.FnExactSequenceText'. -/
def fnExactSequenceTextUptoCard : Claim7 := { stood := { row := fnExactSequenceTextUptoRow, standIns := [], harness := (true, "a45c8c0faf637745b1636646db3ccf1c43ed96fa390355d24f72123934c1fe87"), looks := false }, kinds := [], alts := [], laidByText := true, laidKinds := [.data, .pinned], laidTests := true, laidLooks := .later }
def FnExactSequenceTextUptoCardSaid : Prop := Claim7.holds Tryd.pinned (.plain (OpenSpec.upto fnExactSequenceTextSpec)) fnExactSequenceTextUptoCard

/-- THE SECOND FORM's CARD OF 'laws.FnExactIsStarPeriodic'. -/
def fnExactIsStarPeriodicUptoCard : Claim7 := { stood := { row := fnExactIsStarPeriodicUptoRow, standIns := [], harness := (true, "a45c8c0faf637745b1636646db3ccf1c43ed96fa390355d24f72123934c1fe87"), looks := false }, kinds := [], alts := [], laidByText := true, laidKinds := [.data, .pinned], laidTests := true, laidLooks := .later }
def FnExactIsStarPeriodicUptoCardSaid : Prop := Claim7.holds Tryd.pinned (.plain (OpenSpec.upto fnExactIsStarPeriodicSpec)) fnExactIsStarPeriodicUptoCard
end Rows
end Go.Proofs.YtlglnhjdjpjlhaaDoor
