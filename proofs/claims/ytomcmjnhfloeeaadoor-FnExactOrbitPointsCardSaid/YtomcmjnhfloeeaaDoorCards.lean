/-
  DERIVED. GIVEN WITH THE SEED: THE CARDS: each row of YtomcmjnhfloeeaaDoorRows.lean that lists a variable, with what it lists TIED to the program's text (the seventh form; the later family's looks); each row that meets fmt, with fmt's text TOLD by the authors' own Lean function (tested against real Go, not proved from fmt's source: count such statements apart). THE CARD IS WHAT COUNTS. Prove the row's statement (the work); the ties are given (YtomcmjnhfloeeaaDoorTie.lean); close each card by the builder's one call (the guide's Derived/Test/ToyasCard.lean, 'card_holds'). Laid BY PROGRAM, IN A SANDBOX (cutbox-door.mjs). By AI agents, Wed Nov 11 2026. No macro, syntax, notation, axiom, sorry.
-/
import Derived.Test.YtomcmjnhfloeeaaDoorRows
import GoSem.ClaimSeven
namespace Go.Proofs.YtomcmjnhfloeeaaDoor
namespace Rows

/-- THE TIED CARD OF 'laws.FnExactReplaceStar'. -/
def fnExactReplaceStarCard : Claim7 := { stood := { row := fnExactReplaceStarRow, standIns := [], harness := (true, "e7754ed2269bf1d1517cf531016def454f0bfd0a75e03572292742bf846a0d56"), looks := false }, kinds := [], alts := [], laidByText := true, laidKinds := [.data, .pinned], laidTests := true, laidLooks := .later }
def FnExactReplaceStarCardSaid : Prop := Claim7.holds Tryd.pinned (.plain (OpenSpec.ofChange fnExactReplaceStarSpec)) fnExactReplaceStarCard

/-- THE TIED CARD OF 'laws.FnExactDifferenceOf'. -/
def fnExactDifferenceOfCard : Claim7 := { stood := { row := fnExactDifferenceOfRow, standIns := [], harness := (true, "e7754ed2269bf1d1517cf531016def454f0bfd0a75e03572292742bf846a0d56"), looks := false }, kinds := [], alts := [], laidByText := true, laidKinds := [.data, .pinned], laidTests := true, laidLooks := .later }
def FnExactDifferenceOfCardSaid : Prop := Claim7.holds Tryd.pinned (.plain (OpenSpec.ofChange fnExactDifferenceOfSpec)) fnExactDifferenceOfCard

/-- THE TIED CARD OF 'laws.FnExactRhoOf'. -/
def fnExactRhoOfCard : Claim7 := { stood := { row := fnExactRhoOfRow, standIns := [], harness := (true, "e7754ed2269bf1d1517cf531016def454f0bfd0a75e03572292742bf846a0d56"), looks := false }, kinds := [], alts := [], laidByText := true, laidKinds := [.data, .pinned], laidTests := true, laidLooks := .later }
def FnExactRhoOfCardSaid : Prop := Claim7.holds Tryd.pinned (.plain (OpenSpec.ofChange fnExactRhoOfSpec)) fnExactRhoOfCard

/-- THE TIED CARD OF 'laws.FnExactFailsFor'. -/
def fnExactFailsForCard : Claim7 := { stood := { row := fnExactFailsForRow, standIns := [], harness := (true, "e7754ed2269bf1d1517cf531016def454f0bfd0a75e03572292742bf846a0d56"), looks := false }, kinds := [], alts := [], laidByText := true, laidKinds := [.data, .pinned], laidTests := true, laidLooks := .later }
def FnExactFailsForCardSaid : Prop := Claim7.holds Tryd.pinned (.plain (OpenSpec.ofChange fnExactFailsForSpec)) fnExactFailsForCard

/-- THE TIED CARD OF 'laws.FnExactIsAdmissible'. -/
def fnExactIsAdmissibleCard : Claim7 := { stood := { row := fnExactIsAdmissibleRow, standIns := [], harness := (true, "e7754ed2269bf1d1517cf531016def454f0bfd0a75e03572292742bf846a0d56"), looks := false }, kinds := [], alts := [], laidByText := true, laidKinds := [.data, .pinned], laidTests := true, laidLooks := .later }
def FnExactIsAdmissibleCardSaid : Prop := Claim7.holds Tryd.pinned (.plain (OpenSpec.ofChange fnExactIsAdmissibleSpec)) fnExactIsAdmissibleCard

/-- THE TIED CARD OF 'laws.FnExactInternalAddress'. -/
def fnExactInternalAddressCard : Claim7 := { stood := { row := fnExactInternalAddressRow, standIns := [], harness := (true, "e7754ed2269bf1d1517cf531016def454f0bfd0a75e03572292742bf846a0d56"), looks := false }, kinds := [], alts := [], laidByText := true, laidKinds := [.data, .pinned], laidTests := true, laidLooks := .later }
def FnExactInternalAddressCardSaid : Prop := Claim7.holds Tryd.pinned (.plain (OpenSpec.ofChange fnExactInternalAddressSpec)) fnExactInternalAddressCard

/-- THE TIED CARD OF 'laws.FnExactIsPointOf'. -/
def fnExactIsPointOfCard : Claim7 := { stood := { row := fnExactIsPointOfRow, standIns := [], harness := (true, "e7754ed2269bf1d1517cf531016def454f0bfd0a75e03572292742bf846a0d56"), looks := false }, kinds := [], alts := [], laidByText := true, laidKinds := [.data, .pinned], laidTests := true, laidLooks := .later }
def FnExactIsPointOfCardSaid : Prop := Claim7.holds Tryd.pinned (.plain (OpenSpec.ofChange fnExactIsPointOfSpec)) fnExactIsPointOfCard

/-- THE TIED CARD OF 'laws.FnExactOrbitPoints'. -/
def fnExactOrbitPointsCard : Claim7 := { stood := { row := fnExactOrbitPointsRow, standIns := [], harness := (true, "e7754ed2269bf1d1517cf531016def454f0bfd0a75e03572292742bf846a0d56"), looks := false }, kinds := [], alts := [], laidByText := true, laidKinds := [.data, .pinned], laidTests := true, laidLooks := .later }
def FnExactOrbitPointsCardSaid : Prop := Claim7.holds Tryd.pinned (.plain (OpenSpec.ofChange fnExactOrbitPointsSpec)) fnExactOrbitPointsCard

/-- THE SECOND FORM's CARD OF 'laws.FnExactReplaceStar'. -/
def fnExactReplaceStarUptoCard : Claim7 := { stood := { row := fnExactReplaceStarUptoRow, standIns := [], harness := (true, "e7754ed2269bf1d1517cf531016def454f0bfd0a75e03572292742bf846a0d56"), looks := false }, kinds := [], alts := [], laidByText := true, laidKinds := [.data, .pinned], laidTests := true, laidLooks := .later }
def FnExactReplaceStarUptoCardSaid : Prop := Claim7.holds Tryd.pinned (.plain (OpenSpec.upto fnExactReplaceStarSpec)) fnExactReplaceStarUptoCard

/-- THE SECOND FORM's CARD OF 'laws.FnExactDifferenceOf'. -/
def fnExactDifferenceOfUptoCard : Claim7 := { stood := { row := fnExactDifferenceOfUptoRow, standIns := [], harness := (true, "e7754ed2269bf1d1517cf531016def454f0bfd0a75e03572292742bf846a0d56"), looks := false }, kinds := [], alts := [], laidByText := true, laidKinds := [.data, .pinned], laidTests := true, laidLooks := .later }
def FnExactDifferenceOfUptoCardSaid : Prop := Claim7.holds Tryd.pinned (.plain (OpenSpec.upto fnExactDifferenceOfSpec)) fnExactDifferenceOfUptoCard

/-- THE SECOND FORM's CARD OF 'laws.FnExactRhoOf'. -/
def fnExactRhoOfUptoCard : Claim7 := { stood := { row := fnExactRhoOfUptoRow, standIns := [], harness := (true, "e7754ed2269bf1d1517cf531016def454f0bfd0a75e03572292742bf846a0d56"), looks := false }, kinds := [], alts := [], laidByText := true, laidKinds := [.data, .pinned], laidTests := true, laidLooks := .later }
def FnExactRhoOfUptoCardSaid : Prop := Claim7.holds Tryd.pinned (.plain (OpenSpec.upto fnExactRhoOfSpec)) fnExactRhoOfUptoCard

/-- THE SECOND FORM's CARD OF 'laws.FnExactFailsFor'. -/
def fnExactFailsForUptoCard : Claim7 := { stood := { row := fnExactFailsForUptoRow, standIns := [], harness := (true, "e7754ed2269bf1d1517cf531016def454f0bfd0a75e03572292742bf846a0d56"), looks := false }, kinds := [], alts := [], laidByText := true, laidKinds := [.data, .pinned], laidTests := true, laidLooks := .later }
def FnExactFailsForUptoCardSaid : Prop := Claim7.holds Tryd.pinned (.plain (OpenSpec.upto fnExactFailsForSpec)) fnExactFailsForUptoCard

/-- THE SECOND FORM's CARD OF 'laws.FnExactIsAdmissible'. -/
def fnExactIsAdmissibleUptoCard : Claim7 := { stood := { row := fnExactIsAdmissibleUptoRow, standIns := [], harness := (true, "e7754ed2269bf1d1517cf531016def454f0bfd0a75e03572292742bf846a0d56"), looks := false }, kinds := [], alts := [], laidByText := true, laidKinds := [.data, .pinned], laidTests := true, laidLooks := .later }
def FnExactIsAdmissibleUptoCardSaid : Prop := Claim7.holds Tryd.pinned (.plain (OpenSpec.upto fnExactIsAdmissibleSpec)) fnExactIsAdmissibleUptoCard

/-- THE SECOND FORM's CARD OF 'laws.FnExactInternalAddress'. -/
def fnExactInternalAddressUptoCard : Claim7 := { stood := { row := fnExactInternalAddressUptoRow, standIns := [], harness := (true, "e7754ed2269bf1d1517cf531016def454f0bfd0a75e03572292742bf846a0d56"), looks := false }, kinds := [], alts := [], laidByText := true, laidKinds := [.data, .pinned], laidTests := true, laidLooks := .later }
def FnExactInternalAddressUptoCardSaid : Prop := Claim7.holds Tryd.pinned (.plain (OpenSpec.upto fnExactInternalAddressSpec)) fnExactInternalAddressUptoCard

/-- THE SECOND FORM's CARD OF 'laws.FnExactIsPointOf'. -/
def fnExactIsPointOfUptoCard : Claim7 := { stood := { row := fnExactIsPointOfUptoRow, standIns := [], harness := (true, "e7754ed2269bf1d1517cf531016def454f0bfd0a75e03572292742bf846a0d56"), looks := false }, kinds := [], alts := [], laidByText := true, laidKinds := [.data, .pinned], laidTests := true, laidLooks := .later }
def FnExactIsPointOfUptoCardSaid : Prop := Claim7.holds Tryd.pinned (.plain (OpenSpec.upto fnExactIsPointOfSpec)) fnExactIsPointOfUptoCard

/-- THE SECOND FORM's CARD OF 'laws.FnExactOrbitPoints'. -/
def fnExactOrbitPointsUptoCard : Claim7 := { stood := { row := fnExactOrbitPointsUptoRow, standIns := [], harness := (true, "e7754ed2269bf1d1517cf531016def454f0bfd0a75e03572292742bf846a0d56"), looks := false }, kinds := [], alts := [], laidByText := true, laidKinds := [.data, .pinned], laidTests := true, laidLooks := .later }
def FnExactOrbitPointsUptoCardSaid : Prop := Claim7.holds Tryd.pinned (.plain (OpenSpec.upto fnExactOrbitPointsSpec)) fnExactOrbitPointsUptoCard
end Rows
end Go.Proofs.YtomcmjnhfloeeaaDoor
