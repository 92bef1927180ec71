/-
  DERIVED. GIVEN WITH THE SEED: THE CARDS: each row of YtelbajcfdecaoaaDoorRows.lean that lists a variable, with what it lists TIED to the program's text (the seventh form; the later family's looks); each row that meets fmt, with fmt's text TOLD by the authors' own Lean function (tested against real Go, not proved from fmt's source: count such statements apart). THE CARD IS WHAT COUNTS. Prove the row's statement (the work); the ties are given (YtelbajcfdecaoaaDoorTie.lean); close each card by the builder's one call (the guide's Derived/Test/ToyasCard.lean, 'card_holds'). Laid BY PROGRAM, IN A SANDBOX (cutbox-door.mjs). By AI agents, Wed Nov 11 2026. No macro, syntax, notation, axiom, sorry.
-/
import Derived.Test.YtelbajcfdecaoaaDoorRows
import GoSem.ClaimSeven
namespace Go.Proofs.YtelbajcfdecaoaaDoor
namespace Rows

/-- THE TIED CARD OF 'provisolaw03.FramesChecks'. -/
def framesChecksCard : Claim7 := { stood := { row := framesChecksRow, standIns := [], harness := (true, "d8c4a1b7b0b991ff1de2dd5525cbf606b651003755084990c37fac3fa062bf64"), looks := false }, kinds := [], alts := [], laidByText := true, laidKinds := [.data], laidTests := true, laidLooks := .later }
def FramesChecksCardSaid : Prop := Claim7.holds Tryd.pinned (.plain (OpenSpec.ofChange framesChecksSpec)) framesChecksCard

/-- THE TIED CARD OF 'provisolaw05.FlowScans'. -/
def flowScansCard : Claim7 := { stood := { row := flowScansRow, standIns := [], harness := (true, "d8c4a1b7b0b991ff1de2dd5525cbf606b651003755084990c37fac3fa062bf64"), looks := false }, kinds := [], alts := [], laidByText := true, laidKinds := [.data], laidTests := true, laidLooks := .later }
def FlowScansCardSaid : Prop := Claim7.holds Tryd.pinned (.plain (OpenSpec.ofChange flowScansSpec)) flowScansCard

/-- THE TIED CARD OF 'provisolaw05.FlowNexts'. -/
def flowNextsCard : Claim7 := { stood := { row := flowNextsRow, standIns := [], harness := (true, "d8c4a1b7b0b991ff1de2dd5525cbf606b651003755084990c37fac3fa062bf64"), looks := false }, kinds := [], alts := [], laidByText := true, laidKinds := [.data], laidTests := true, laidLooks := .later }
def FlowNextsCardSaid : Prop := Claim7.holds Tryd.pinned (.plain (OpenSpec.ofChange flowNextsSpec)) flowNextsCard

/-- THE TIED CARD OF 'provisolaw05.FlowLists'. -/
def flowListsCard : Claim7 := { stood := { row := flowListsRow, standIns := [], harness := (true, "d8c4a1b7b0b991ff1de2dd5525cbf606b651003755084990c37fac3fa062bf64"), looks := false }, kinds := [], alts := [], laidByText := true, laidKinds := [.data], laidTests := true, laidLooks := .later }
def FlowListsCardSaid : Prop := Claim7.holds Tryd.pinned (.plain (OpenSpec.ofChange flowListsSpec)) flowListsCard

/-- THE TIED CARD OF 'provisolaw05.FlowReaches'. -/
def flowReachesCard : Claim7 := { stood := { row := flowReachesRow, standIns := [], harness := (true, "d8c4a1b7b0b991ff1de2dd5525cbf606b651003755084990c37fac3fa062bf64"), looks := false }, kinds := [], alts := [], laidByText := true, laidKinds := [.data], laidTests := true, laidLooks := .later }
def FlowReachesCardSaid : Prop := Claim7.holds Tryd.pinned (.plain (OpenSpec.ofChange flowReachesSpec)) flowReachesCard

/-- THE TIED CARD OF 'provisolaw05.FlowBlocks'. -/
def flowBlocksCard : Claim7 := { stood := { row := flowBlocksRow, standIns := [], harness := (true, "d8c4a1b7b0b991ff1de2dd5525cbf606b651003755084990c37fac3fa062bf64"), looks := false }, kinds := [], alts := [], laidByText := true, laidKinds := [.data], laidTests := true, laidLooks := .later }
def FlowBlocksCardSaid : Prop := Claim7.holds Tryd.pinned (.plain (OpenSpec.ofChange flowBlocksSpec)) flowBlocksCard

/-- THE SECOND FORM's CARD OF 'provisolaw03.FramesChecks'. -/
def framesChecksUptoCard : Claim7 := { stood := { row := framesChecksUptoRow, standIns := [], harness := (true, "d8c4a1b7b0b991ff1de2dd5525cbf606b651003755084990c37fac3fa062bf64"), looks := false }, kinds := [], alts := [], laidByText := true, laidKinds := [.data], laidTests := true, laidLooks := .later }
def FramesChecksUptoCardSaid : Prop := Claim7.holds Tryd.pinned (.plain (OpenSpec.upto framesChecksSpec)) framesChecksUptoCard

/-- THE SECOND FORM's CARD OF 'provisolaw05.FlowScans'. -/
def flowScansUptoCard : Claim7 := { stood := { row := flowScansUptoRow, standIns := [], harness := (true, "d8c4a1b7b0b991ff1de2dd5525cbf606b651003755084990c37fac3fa062bf64"), looks := false }, kinds := [], alts := [], laidByText := true, laidKinds := [.data], laidTests := true, laidLooks := .later }
def FlowScansUptoCardSaid : Prop := Claim7.holds Tryd.pinned (.plain (OpenSpec.upto flowScansSpec)) flowScansUptoCard

/-- THE SECOND FORM's CARD OF 'provisolaw05.FlowNexts'. -/
def flowNextsUptoCard : Claim7 := { stood := { row := flowNextsUptoRow, standIns := [], harness := (true, "d8c4a1b7b0b991ff1de2dd5525cbf606b651003755084990c37fac3fa062bf64"), looks := false }, kinds := [], alts := [], laidByText := true, laidKinds := [.data], laidTests := true, laidLooks := .later }
def FlowNextsUptoCardSaid : Prop := Claim7.holds Tryd.pinned (.plain (OpenSpec.upto flowNextsSpec)) flowNextsUptoCard

/-- THE SECOND FORM's CARD OF 'provisolaw05.FlowLists'. -/
def flowListsUptoCard : Claim7 := { stood := { row := flowListsUptoRow, standIns := [], harness := (true, "d8c4a1b7b0b991ff1de2dd5525cbf606b651003755084990c37fac3fa062bf64"), looks := false }, kinds := [], alts := [], laidByText := true, laidKinds := [.data], laidTests := true, laidLooks := .later }
def FlowListsUptoCardSaid : Prop := Claim7.holds Tryd.pinned (.plain (OpenSpec.upto flowListsSpec)) flowListsUptoCard

/-- THE SECOND FORM's CARD OF 'provisolaw05.FlowReaches'. -/
def flowReachesUptoCard : Claim7 := { stood := { row := flowReachesUptoRow, standIns := [], harness := (true, "d8c4a1b7b0b991ff1de2dd5525cbf606b651003755084990c37fac3fa062bf64"), looks := false }, kinds := [], alts := [], laidByText := true, laidKinds := [.data], laidTests := true, laidLooks := .later }
def FlowReachesUptoCardSaid : Prop := Claim7.holds Tryd.pinned (.plain (OpenSpec.upto flowReachesSpec)) flowReachesUptoCard

/-- THE SECOND FORM's CARD OF 'provisolaw05.FlowBlocks'. -/
def flowBlocksUptoCard : Claim7 := { stood := { row := flowBlocksUptoRow, standIns := [], harness := (true, "d8c4a1b7b0b991ff1de2dd5525cbf606b651003755084990c37fac3fa062bf64"), looks := false }, kinds := [], alts := [], laidByText := true, laidKinds := [.data], laidTests := true, laidLooks := .later }
def FlowBlocksUptoCardSaid : Prop := Claim7.holds Tryd.pinned (.plain (OpenSpec.upto flowBlocksSpec)) flowBlocksUptoCard
end Rows
end Go.Proofs.YtelbajcfdecaoaaDoor
