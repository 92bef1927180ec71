/-
  DERIVED. GIVEN WITH THE SEED: THE CARDS: each row of YtlanmcmhgohooaaDoorRows.lean that lists a variable, with what it lists TIED to the program's text (the seventh form; the later family's looks); each row that meets fmt, with fmt's text TOLD by the authors' own Lean function (tested against real Go, not proved from fmt's source: count such statements apart). THE CARD IS WHAT COUNTS. Prove the row's statement (the work); the ties are given (YtlanmcmhgohooaaDoorTie.lean); close each card by the builder's one call (the guide's Derived/Test/ToyasCard.lean, 'card_holds'). Laid BY PROGRAM, IN A SANDBOX (cutbox-door.mjs). By AI agents, Wed Nov 11 2026. No macro, syntax, notation, axiom, sorry.
-/
import Derived.Test.YtlanmcmhgohooaaDoorRows
import GoSem.ClaimSeven
namespace Go.Proofs.YtlanmcmhgohooaaDoor
namespace Rows

/-- THE TIED CARD OF 'provisolaw05.FlowScans'. -/
def flowScansCard : Claim7 := { stood := { row := flowScansRow, standIns := [], harness := (true, "1179168f4b251c196c75db18bcf28fae4f50a432426e2de0c97b06fefe450acd"), looks := false }, kinds := [], alts := [], laidByText := true, laidKinds := [.data], laidTests := true, laidLooks := .later }
def FlowScansCardSaid : Prop := Claim7.holds Tryd.pinned (.plain (OpenSpec.ofChange flowScansSpec)) flowScansCard

/-- THE TIED CARD OF 'provisolaw05.FlowLists'. -/
def flowListsCard : Claim7 := { stood := { row := flowListsRow, standIns := [], harness := (true, "1179168f4b251c196c75db18bcf28fae4f50a432426e2de0c97b06fefe450acd"), looks := false }, kinds := [], alts := [], laidByText := true, laidKinds := [.data], laidTests := true, laidLooks := .later }
def FlowListsCardSaid : Prop := Claim7.holds Tryd.pinned (.plain (OpenSpec.ofChange flowListsSpec)) flowListsCard

/-- THE TIED CARD OF 'provisolaw05.FlowReaches'. -/
def flowReachesCard : Claim7 := { stood := { row := flowReachesRow, standIns := [], harness := (true, "1179168f4b251c196c75db18bcf28fae4f50a432426e2de0c97b06fefe450acd"), looks := false }, kinds := [], alts := [], laidByText := true, laidKinds := [.data], laidTests := true, laidLooks := .later }
def FlowReachesCardSaid : Prop := Claim7.holds Tryd.pinned (.plain (OpenSpec.ofChange flowReachesSpec)) flowReachesCard

/-- THE TIED CARD OF 'provisolaw05.FlowBlocks'. -/
def flowBlocksCard : Claim7 := { stood := { row := flowBlocksRow, standIns := [], harness := (true, "1179168f4b251c196c75db18bcf28fae4f50a432426e2de0c97b06fefe450acd"), looks := false }, kinds := [], alts := [], laidByText := true, laidKinds := [.data], laidTests := true, laidLooks := .later }
def FlowBlocksCardSaid : Prop := Claim7.holds Tryd.pinned (.plain (OpenSpec.ofChange flowBlocksSpec)) flowBlocksCard

/-- THE TIED CARD OF 'provisolaw05.FlowInside'. -/
def flowInsideCard : Claim7 := { stood := { row := flowInsideRow, standIns := [], harness := (true, "1179168f4b251c196c75db18bcf28fae4f50a432426e2de0c97b06fefe450acd"), looks := false }, kinds := [], alts := [], laidByText := true, laidKinds := [.data], laidTests := true, laidLooks := .later }
def FlowInsideCardSaid : Prop := Claim7.holds Tryd.pinned (.plain (OpenSpec.ofChange flowInsideSpec)) flowInsideCard

/-- THE SECOND FORM's CARD OF 'provisolaw05.FlowScans'. -/
def flowScansUptoCard : Claim7 := { stood := { row := flowScansUptoRow, standIns := [], harness := (true, "1179168f4b251c196c75db18bcf28fae4f50a432426e2de0c97b06fefe450acd"), looks := false }, kinds := [], alts := [], laidByText := true, laidKinds := [.data], laidTests := true, laidLooks := .later }
def FlowScansUptoCardSaid : Prop := Claim7.holds Tryd.pinned (.plain (OpenSpec.upto flowScansSpec)) flowScansUptoCard

/-- THE SECOND FORM's CARD OF 'provisolaw05.FlowLists'. -/
def flowListsUptoCard : Claim7 := { stood := { row := flowListsUptoRow, standIns := [], harness := (true, "1179168f4b251c196c75db18bcf28fae4f50a432426e2de0c97b06fefe450acd"), looks := false }, kinds := [], alts := [], laidByText := true, laidKinds := [.data], laidTests := true, laidLooks := .later }
def FlowListsUptoCardSaid : Prop := Claim7.holds Tryd.pinned (.plain (OpenSpec.upto flowListsSpec)) flowListsUptoCard

/-- THE SECOND FORM's CARD OF 'provisolaw05.FlowReaches'. -/
def flowReachesUptoCard : Claim7 := { stood := { row := flowReachesUptoRow, standIns := [], harness := (true, "1179168f4b251c196c75db18bcf28fae4f50a432426e2de0c97b06fefe450acd"), looks := false }, kinds := [], alts := [], laidByText := true, laidKinds := [.data], laidTests := true, laidLooks := .later }
def FlowReachesUptoCardSaid : Prop := Claim7.holds Tryd.pinned (.plain (OpenSpec.upto flowReachesSpec)) flowReachesUptoCard

/-- THE SECOND FORM's CARD OF 'provisolaw05.FlowBlocks'. -/
def flowBlocksUptoCard : Claim7 := { stood := { row := flowBlocksUptoRow, standIns := [], harness := (true, "1179168f4b251c196c75db18bcf28fae4f50a432426e2de0c97b06fefe450acd"), looks := false }, kinds := [], alts := [], laidByText := true, laidKinds := [.data], laidTests := true, laidLooks := .later }
def FlowBlocksUptoCardSaid : Prop := Claim7.holds Tryd.pinned (.plain (OpenSpec.upto flowBlocksSpec)) flowBlocksUptoCard

/-- THE SECOND FORM's CARD OF 'provisolaw05.FlowInside'. -/
def flowInsideUptoCard : Claim7 := { stood := { row := flowInsideUptoRow, standIns := [], harness := (true, "1179168f4b251c196c75db18bcf28fae4f50a432426e2de0c97b06fefe450acd"), looks := false }, kinds := [], alts := [], laidByText := true, laidKinds := [.data], laidTests := true, laidLooks := .later }
def FlowInsideUptoCardSaid : Prop := Claim7.holds Tryd.pinned (.plain (OpenSpec.upto flowInsideSpec)) flowInsideUptoCard
end Rows
end Go.Proofs.YtlanmcmhgohooaaDoor
