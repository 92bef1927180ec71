/-
  DERIVED. GIVEN WITH THE SEED: THE CARDS: each row of YtibgfdjopikafaaGreatDoorRows.lean that lists a variable, with what it lists TIED to the program's text (the seventh form; the later family's looks); each row that meets fmt, with fmt's text TOLD by the authors' own Lean function (tested against real Go, not proved from fmt's source: count such statements apart). THE CARD IS WHAT COUNTS. Prove the row's statement (the work); the ties are given (YtibgfdjopikafaaGreatDoorTie.lean); close each card by the builder's one call (the guide's Derived/Test/ToyasCard.lean, 'card_holds'). Laid BY PROGRAM, IN A SANDBOX (cutbox-door.mjs). By AI agents, Wed Nov 11 2026. No macro, syntax, notation, axiom, sorry.
-/
import Derived.Test.YtibgfdjopikafaaGreatDoorRows
import GoSem.ClaimSeven
namespace Go.Proofs.YtibgfdjopikafaaGreatDoor
namespace Rows

/-- THE TIED CARD OF 'provisolaw16.ModuleEncodes'. -/
def moduleEncodesCard : Claim7 := { stood := { row := moduleEncodesRow, standIns := [], harness := (true, "c2deb5dd1bf7a55c9dc9a2424cd61c8a4deadd42c38a426b30826f55e33eaa42"), looks := true }, kinds := [], alts := [], laidByText := true, laidKinds := [.handle, .data], laidTests := true, laidLooks := .later }
def ModuleEncodesCardSaid : Prop := Claim7.holds Tryz.pinned (.plain (OpenSpec.ofChange moduleEncodesSpec)) moduleEncodesCard

/-- THE TIED CARD OF 'provisolaw16.ModuleDecodes'. -/
def moduleDecodesCard : Claim7 := { stood := { row := moduleDecodesRow, standIns := [], harness := (true, "c2deb5dd1bf7a55c9dc9a2424cd61c8a4deadd42c38a426b30826f55e33eaa42"), looks := true }, kinds := [], alts := [], laidByText := true, laidKinds := [.handle, .data], laidTests := true, laidLooks := .later }
def ModuleDecodesCardSaid : Prop := Claim7.holds Tryz.pinned (.plain (OpenSpec.ofChange moduleDecodesSpec)) moduleDecodesCard

/-- THE TIED CARD OF 'provisolaw16.ModuleBack'. -/
def moduleBackCard : Claim7 := { stood := { row := moduleBackRow, standIns := [], harness := (true, "c2deb5dd1bf7a55c9dc9a2424cd61c8a4deadd42c38a426b30826f55e33eaa42"), looks := true }, kinds := [], alts := [], laidByText := true, laidKinds := [.handle, .data], laidTests := true, laidLooks := .later }
def ModuleBackCardSaid : Prop := Claim7.holds Tryz.pinned (.plain (OpenSpec.ofChange moduleBackSpec)) moduleBackCard

/-- THE TIED CARD OF 'provisolaw16.ModuleForm'. -/
def moduleFormCard : Claim7 := { stood := { row := moduleFormRow, standIns := [], harness := (true, "c2deb5dd1bf7a55c9dc9a2424cd61c8a4deadd42c38a426b30826f55e33eaa42"), looks := true }, kinds := [], alts := [], laidByText := true, laidKinds := [.handle, .data], laidTests := true, laidLooks := .later }
def ModuleFormCardSaid : Prop := Claim7.holds Tryz.pinned (.plain (OpenSpec.ofChange moduleFormSpec)) moduleFormCard

/-- THE TIED CARD OF 'provisolaw16.ModuleTurned'. -/
def moduleTurnedCard : Claim7 := { stood := { row := moduleTurnedRow, standIns := [], harness := (true, "c2deb5dd1bf7a55c9dc9a2424cd61c8a4deadd42c38a426b30826f55e33eaa42"), looks := true }, kinds := [], alts := [], laidByText := true, laidKinds := [.handle, .data], laidTests := true, laidLooks := .later }
def ModuleTurnedCardSaid : Prop := Claim7.holds Tryz.pinned (.plain (OpenSpec.ofChange moduleTurnedSpec)) moduleTurnedCard

/-- THE TIED CARD OF 'provisolaw16.ModuleBegins'. -/
def moduleBeginsCard : Claim7 := { stood := { row := moduleBeginsRow, standIns := [], harness := (true, "c2deb5dd1bf7a55c9dc9a2424cd61c8a4deadd42c38a426b30826f55e33eaa42"), looks := true }, kinds := [], alts := [], laidByText := true, laidKinds := [.handle, .data], laidTests := true, laidLooks := .later }
def ModuleBeginsCardSaid : Prop := Claim7.holds Tryz.pinned (.plain (OpenSpec.ofChange moduleBeginsSpec)) moduleBeginsCard

/-- THE SECOND FORM's CARD OF 'provisolaw16.ModuleEncodes'. -/
def moduleEncodesUptoCard : Claim7 := { stood := { row := moduleEncodesUptoRow, standIns := [], harness := (true, "c2deb5dd1bf7a55c9dc9a2424cd61c8a4deadd42c38a426b30826f55e33eaa42"), looks := true }, kinds := [], alts := [], laidByText := true, laidKinds := [.handle, .data], laidTests := true, laidLooks := .later }
def ModuleEncodesUptoCardSaid : Prop := Claim7.holds Tryz.pinned (.plain (OpenSpec.upto moduleEncodesSpec)) moduleEncodesUptoCard

/-- THE SECOND FORM's CARD OF 'provisolaw16.ModuleDecodes'. -/
def moduleDecodesUptoCard : Claim7 := { stood := { row := moduleDecodesUptoRow, standIns := [], harness := (true, "c2deb5dd1bf7a55c9dc9a2424cd61c8a4deadd42c38a426b30826f55e33eaa42"), looks := true }, kinds := [], alts := [], laidByText := true, laidKinds := [.handle, .data], laidTests := true, laidLooks := .later }
def ModuleDecodesUptoCardSaid : Prop := Claim7.holds Tryz.pinned (.plain (OpenSpec.upto moduleDecodesSpec)) moduleDecodesUptoCard

/-- THE SECOND FORM's CARD OF 'provisolaw16.ModuleBack'. -/
def moduleBackUptoCard : Claim7 := { stood := { row := moduleBackUptoRow, standIns := [], harness := (true, "c2deb5dd1bf7a55c9dc9a2424cd61c8a4deadd42c38a426b30826f55e33eaa42"), looks := true }, kinds := [], alts := [], laidByText := true, laidKinds := [.handle, .data], laidTests := true, laidLooks := .later }
def ModuleBackUptoCardSaid : Prop := Claim7.holds Tryz.pinned (.plain (OpenSpec.upto moduleBackSpec)) moduleBackUptoCard

/-- THE SECOND FORM's CARD OF 'provisolaw16.ModuleForm'. -/
def moduleFormUptoCard : Claim7 := { stood := { row := moduleFormUptoRow, standIns := [], harness := (true, "c2deb5dd1bf7a55c9dc9a2424cd61c8a4deadd42c38a426b30826f55e33eaa42"), looks := true }, kinds := [], alts := [], laidByText := true, laidKinds := [.handle, .data], laidTests := true, laidLooks := .later }
def ModuleFormUptoCardSaid : Prop := Claim7.holds Tryz.pinned (.plain (OpenSpec.upto moduleFormSpec)) moduleFormUptoCard

/-- THE SECOND FORM's CARD OF 'provisolaw16.ModuleTurned'. -/
def moduleTurnedUptoCard : Claim7 := { stood := { row := moduleTurnedUptoRow, standIns := [], harness := (true, "c2deb5dd1bf7a55c9dc9a2424cd61c8a4deadd42c38a426b30826f55e33eaa42"), looks := true }, kinds := [], alts := [], laidByText := true, laidKinds := [.handle, .data], laidTests := true, laidLooks := .later }
def ModuleTurnedUptoCardSaid : Prop := Claim7.holds Tryz.pinned (.plain (OpenSpec.upto moduleTurnedSpec)) moduleTurnedUptoCard

/-- THE SECOND FORM's CARD OF 'provisolaw16.ModuleBegins'. -/
def moduleBeginsUptoCard : Claim7 := { stood := { row := moduleBeginsUptoRow, standIns := [], harness := (true, "c2deb5dd1bf7a55c9dc9a2424cd61c8a4deadd42c38a426b30826f55e33eaa42"), looks := true }, kinds := [], alts := [], laidByText := true, laidKinds := [.handle, .data], laidTests := true, laidLooks := .later }
def ModuleBeginsUptoCardSaid : Prop := Claim7.holds Tryz.pinned (.plain (OpenSpec.upto moduleBeginsSpec)) moduleBeginsUptoCard
end Rows
end Go.Proofs.YtibgfdjopikafaaGreatDoor
