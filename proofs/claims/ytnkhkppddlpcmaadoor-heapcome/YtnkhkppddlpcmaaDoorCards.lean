/-
  DERIVED. GIVEN WITH THE SEED: THE CARDS: each row of YtnkhkppddlpcmaaDoorRows.lean that lists a variable, with what it lists TIED to the program's text (the seventh form; the later family's looks); each row that meets fmt, with fmt's text TOLD by the authors' own Lean function (tested against real Go, not proved from fmt's source: count such statements apart). THE CARD IS WHAT COUNTS. Prove the row's statement (the work); the ties are given (YtnkhkppddlpcmaaDoorTie.lean); close each card by the builder's one call (the guide's Derived/Test/ToyasCard.lean, 'card_holds'). Laid BY PROGRAM, IN A SANDBOX (cutbox-door.mjs). By AI agents, Wed Nov 11 2026. No macro, syntax, notation, axiom, sorry.
-/
import Derived.Test.YtnkhkppddlpcmaaDoorRows
import GoSem.ClaimSeven
namespace Go.Proofs.YtnkhkppddlpcmaaDoor
namespace Rows

/-- THE TIED CARD OF 'provisolaw14.HeapLives'. -/
def heapLivesCard : Claim7 := { stood := { row := heapLivesRow, standIns := [], harness := (true, "33b8f9997446554f635f6438f2d084a3c7157febb446c8e7a96913501d5a4717"), looks := false }, kinds := [], alts := [], laidByText := true, laidKinds := [.data], laidTests := true, laidLooks := .later }
def HeapLivesCardSaid : Prop := Claim7.holds Tryd.pinned (.plain (OpenSpec.ofChange heapLivesSpec)) heapLivesCard

/-- THE TIED CARD OF 'provisolaw14.HeapNone'. -/
def heapNoneCard : Claim7 := { stood := { row := heapNoneRow, standIns := [], harness := (true, "33b8f9997446554f635f6438f2d084a3c7157febb446c8e7a96913501d5a4717"), looks := false }, kinds := [], alts := [], laidByText := true, laidKinds := [.data], laidTests := true, laidLooks := .later }
def HeapNoneCardSaid : Prop := Claim7.holds Tryd.pinned (.plain (OpenSpec.ofChange heapNoneSpec)) heapNoneCard

/-- THE TIED CARD OF 'provisolaw14.HeapCells'. -/
def heapCellsCard : Claim7 := { stood := { row := heapCellsRow, standIns := [], harness := (true, "33b8f9997446554f635f6438f2d084a3c7157febb446c8e7a96913501d5a4717"), looks := false }, kinds := [], alts := [], laidByText := true, laidKinds := [.data], laidTests := true, laidLooks := .later }
def HeapCellsCardSaid : Prop := Claim7.holds Tryd.pinned (.plain (OpenSpec.ofChange heapCellsSpec)) heapCellsCard

/-- THE TIED CARD OF 'provisolaw14.HeapStays'. -/
def heapStaysCard : Claim7 := { stood := { row := heapStaysRow, standIns := [], harness := (true, "33b8f9997446554f635f6438f2d084a3c7157febb446c8e7a96913501d5a4717"), looks := false }, kinds := [], alts := [], laidByText := true, laidKinds := [.data], laidTests := true, laidLooks := .later }
def HeapStaysCardSaid : Prop := Claim7.holds Tryd.pinned (.plain (OpenSpec.ofChange heapStaysSpec)) heapStaysCard

/-- THE TIED CARD OF 'provisolaw14.HeapCome'. -/
def heapComeCard : Claim7 := { stood := { row := heapComeRow, standIns := [], harness := (true, "33b8f9997446554f635f6438f2d084a3c7157febb446c8e7a96913501d5a4717"), looks := false }, kinds := [], alts := [], laidByText := true, laidKinds := [.data], laidTests := true, laidLooks := .later }
def HeapComeCardSaid : Prop := Claim7.holds Tryd.pinned (.plain (OpenSpec.ofChange heapComeSpec)) heapComeCard

/-- THE TIED CARD OF 'provisolaw14.HeapRings'. -/
def heapRingsCard : Claim7 := { stood := { row := heapRingsRow, standIns := [], harness := (true, "33b8f9997446554f635f6438f2d084a3c7157febb446c8e7a96913501d5a4717"), looks := false }, kinds := [], alts := [], laidByText := true, laidKinds := [.data], laidTests := true, laidLooks := .later }
def HeapRingsCardSaid : Prop := Claim7.holds Tryd.pinned (.plain (OpenSpec.ofChange heapRingsSpec)) heapRingsCard

/-- THE SECOND FORM's CARD OF 'provisolaw14.HeapLives'. -/
def heapLivesUptoCard : Claim7 := { stood := { row := heapLivesUptoRow, standIns := [], harness := (true, "33b8f9997446554f635f6438f2d084a3c7157febb446c8e7a96913501d5a4717"), looks := false }, kinds := [], alts := [], laidByText := true, laidKinds := [.data], laidTests := true, laidLooks := .later }
def HeapLivesUptoCardSaid : Prop := Claim7.holds Tryd.pinned (.plain (OpenSpec.upto heapLivesSpec)) heapLivesUptoCard

/-- THE SECOND FORM's CARD OF 'provisolaw14.HeapNone'. -/
def heapNoneUptoCard : Claim7 := { stood := { row := heapNoneUptoRow, standIns := [], harness := (true, "33b8f9997446554f635f6438f2d084a3c7157febb446c8e7a96913501d5a4717"), looks := false }, kinds := [], alts := [], laidByText := true, laidKinds := [.data], laidTests := true, laidLooks := .later }
def HeapNoneUptoCardSaid : Prop := Claim7.holds Tryd.pinned (.plain (OpenSpec.upto heapNoneSpec)) heapNoneUptoCard

/-- THE SECOND FORM's CARD OF 'provisolaw14.HeapCells'. -/
def heapCellsUptoCard : Claim7 := { stood := { row := heapCellsUptoRow, standIns := [], harness := (true, "33b8f9997446554f635f6438f2d084a3c7157febb446c8e7a96913501d5a4717"), looks := false }, kinds := [], alts := [], laidByText := true, laidKinds := [.data], laidTests := true, laidLooks := .later }
def HeapCellsUptoCardSaid : Prop := Claim7.holds Tryd.pinned (.plain (OpenSpec.upto heapCellsSpec)) heapCellsUptoCard

/-- THE SECOND FORM's CARD OF 'provisolaw14.HeapStays'. -/
def heapStaysUptoCard : Claim7 := { stood := { row := heapStaysUptoRow, standIns := [], harness := (true, "33b8f9997446554f635f6438f2d084a3c7157febb446c8e7a96913501d5a4717"), looks := false }, kinds := [], alts := [], laidByText := true, laidKinds := [.data], laidTests := true, laidLooks := .later }
def HeapStaysUptoCardSaid : Prop := Claim7.holds Tryd.pinned (.plain (OpenSpec.upto heapStaysSpec)) heapStaysUptoCard

/-- THE SECOND FORM's CARD OF 'provisolaw14.HeapCome'. -/
def heapComeUptoCard : Claim7 := { stood := { row := heapComeUptoRow, standIns := [], harness := (true, "33b8f9997446554f635f6438f2d084a3c7157febb446c8e7a96913501d5a4717"), looks := false }, kinds := [], alts := [], laidByText := true, laidKinds := [.data], laidTests := true, laidLooks := .later }
def HeapComeUptoCardSaid : Prop := Claim7.holds Tryd.pinned (.plain (OpenSpec.upto heapComeSpec)) heapComeUptoCard

/-- THE SECOND FORM's CARD OF 'provisolaw14.HeapRings'. -/
def heapRingsUptoCard : Claim7 := { stood := { row := heapRingsUptoRow, standIns := [], harness := (true, "33b8f9997446554f635f6438f2d084a3c7157febb446c8e7a96913501d5a4717"), looks := false }, kinds := [], alts := [], laidByText := true, laidKinds := [.data], laidTests := true, laidLooks := .later }
def HeapRingsUptoCardSaid : Prop := Claim7.holds Tryd.pinned (.plain (OpenSpec.upto heapRingsSpec)) heapRingsUptoCard
end Rows
end Go.Proofs.YtnkhkppddlpcmaaDoor
