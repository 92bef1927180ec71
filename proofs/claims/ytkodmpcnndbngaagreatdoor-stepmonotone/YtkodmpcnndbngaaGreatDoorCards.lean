/-
  DERIVED. GIVEN WITH THE SEED: THE CARDS: each row of YtkodmpcnndbngaaGreatDoorRows.lean that lists a variable, with what it lists TIED to the program's text (the seventh form; the later family's looks); each row that meets fmt, with fmt's text TOLD by the authors' own Lean function (tested against real Go, not proved from fmt's source: count such statements apart). THE CARD IS WHAT COUNTS. Prove the row's statement (the work); the ties are given (YtkodmpcnndbngaaGreatDoorTie.lean); close each card by the builder's one call (the guide's Derived/Test/ToyasCard.lean, 'card_holds'). Laid BY PROGRAM, IN A SANDBOX (cutbox-door.mjs). By AI agents, Wed Nov 11 2026. No macro, syntax, notation, axiom, sorry.
-/
import Derived.Test.YtkodmpcnndbngaaGreatDoorRows
import GoSem.ClaimSeven
namespace Go.Proofs.YtkodmpcnndbngaaGreatDoor
namespace Rows

/-- THE TIED CARD OF 'provisolaw07.StepApplies'. -/
def stepAppliesCard : Claim7 := { stood := { row := stepAppliesRow, standIns := [], harness := (true, "47ddf1dad8b5cbae8b08a107cec19103a9b72915b7c3ca20dcf6434b8ce82058"), looks := false }, kinds := [], alts := [], laidByText := true, laidKinds := [.data, .data], laidTests := true, laidLooks := .later }
def StepAppliesCardSaid : Prop := Claim7.holds Tryz.pinned (.plain (OpenSpec.ofChange stepAppliesSpec)) stepAppliesCard

/-- THE TIED CARD OF 'provisolaw07.StepMonotone'. -/
def stepMonotoneCard : Claim7 := { stood := { row := stepMonotoneRow, standIns := [], harness := (true, "47ddf1dad8b5cbae8b08a107cec19103a9b72915b7c3ca20dcf6434b8ce82058"), looks := false }, kinds := [], alts := [], laidByText := true, laidKinds := [.data, .data], laidTests := true, laidLooks := .later }
def StepMonotoneCardSaid : Prop := Claim7.holds Tryz.pinned (.plain (OpenSpec.ofChange stepMonotoneSpec)) stepMonotoneCard

/-- THE TIED CARD OF 'provisolaw07.StepHeights'. -/
def stepHeightsCard : Claim7 := { stood := { row := stepHeightsRow, standIns := [], harness := (true, "47ddf1dad8b5cbae8b08a107cec19103a9b72915b7c3ca20dcf6434b8ce82058"), looks := false }, kinds := [], alts := [], laidByText := true, laidKinds := [.data, .data], laidTests := true, laidLooks := .later }
def StepHeightsCardSaid : Prop := Claim7.holds Tryz.pinned (.plain (OpenSpec.ofChange stepHeightsSpec)) stepHeightsCard

/-- THE SECOND FORM's CARD OF 'provisolaw07.StepApplies'. -/
def stepAppliesUptoCard : Claim7 := { stood := { row := stepAppliesUptoRow, standIns := [], harness := (true, "47ddf1dad8b5cbae8b08a107cec19103a9b72915b7c3ca20dcf6434b8ce82058"), looks := false }, kinds := [], alts := [], laidByText := true, laidKinds := [.data, .data], laidTests := true, laidLooks := .later }
def StepAppliesUptoCardSaid : Prop := Claim7.holds Tryz.pinned (.plain (OpenSpec.upto stepAppliesSpec)) stepAppliesUptoCard

/-- THE SECOND FORM's CARD OF 'provisolaw07.StepMonotone'. -/
def stepMonotoneUptoCard : Claim7 := { stood := { row := stepMonotoneUptoRow, standIns := [], harness := (true, "47ddf1dad8b5cbae8b08a107cec19103a9b72915b7c3ca20dcf6434b8ce82058"), looks := false }, kinds := [], alts := [], laidByText := true, laidKinds := [.data, .data], laidTests := true, laidLooks := .later }
def StepMonotoneUptoCardSaid : Prop := Claim7.holds Tryz.pinned (.plain (OpenSpec.upto stepMonotoneSpec)) stepMonotoneUptoCard

/-- THE SECOND FORM's CARD OF 'provisolaw07.StepHeights'. -/
def stepHeightsUptoCard : Claim7 := { stood := { row := stepHeightsUptoRow, standIns := [], harness := (true, "47ddf1dad8b5cbae8b08a107cec19103a9b72915b7c3ca20dcf6434b8ce82058"), looks := false }, kinds := [], alts := [], laidByText := true, laidKinds := [.data, .data], laidTests := true, laidLooks := .later }
def StepHeightsUptoCardSaid : Prop := Claim7.holds Tryz.pinned (.plain (OpenSpec.upto stepHeightsSpec)) stepHeightsUptoCard
end Rows
end Go.Proofs.YtkodmpcnndbngaaGreatDoor
