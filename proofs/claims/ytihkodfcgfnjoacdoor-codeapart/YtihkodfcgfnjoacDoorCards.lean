/-
  DERIVED. GIVEN WITH THE SEED: THE CARDS: each row of YtihkodfcgfnjoacDoorRows.lean that lists a variable, with what it lists TIED to the program's text (the seventh form; the later family's looks); each row that meets fmt, with fmt's text TOLD by the authors' own Lean function (tested against real Go, not proved from fmt's source: count such statements apart). THE CARD IS WHAT COUNTS. Prove the row's statement (the work); the ties are given (YtihkodfcgfnjoacDoorTie.lean); close each card by the builder's one call (the guide's Derived/Test/ToyasCard.lean, 'card_holds'). Laid BY PROGRAM, IN A SANDBOX (cutbox-door.mjs). By AI agents, Wed Nov 11 2026. No macro, syntax, notation, axiom, sorry.
-/
import Derived.Test.YtihkodfcgfnjoacDoorRows
import GoSem.ClaimSeven
namespace Go.Proofs.YtihkodfcgfnjoacDoor
namespace Rows

/-- THE TIED CARD OF 'provisolaw04.CodePatches'. -/
def codePatchesCard : Claim7 := { stood := { row := codePatchesRow, standIns := [], harness := (true, "0639f325c0d2723311e33b0b6dfbc1e29d6bc759a6284701fbba8173268f7c7f"), looks := false }, kinds := [], alts := [], laidByText := true, laidKinds := [.data], laidTests := true, laidLooks := .later }
def CodePatchesCardSaid : Prop := Claim7.holds Tryd.pinned (.plain (OpenSpec.ofChange codePatchesSpec)) codePatchesCard

/-- THE TIED CARD OF 'provisolaw04.CodeBack'. -/
def codeBackCard : Claim7 := { stood := { row := codeBackRow, standIns := [], harness := (true, "0639f325c0d2723311e33b0b6dfbc1e29d6bc759a6284701fbba8173268f7c7f"), looks := false }, kinds := [], alts := [], laidByText := true, laidKinds := [.data], laidTests := true, laidLooks := .later }
def CodeBackCardSaid : Prop := Claim7.holds Tryd.pinned (.plain (OpenSpec.ofChange codeBackSpec)) codeBackCard

/-- THE TIED CARD OF 'provisolaw04.CodeForm'. -/
def codeFormCard : Claim7 := { stood := { row := codeFormRow, standIns := [], harness := (true, "0639f325c0d2723311e33b0b6dfbc1e29d6bc759a6284701fbba8173268f7c7f"), looks := false }, kinds := [], alts := [], laidByText := true, laidKinds := [.data], laidTests := true, laidLooks := .later }
def CodeFormCardSaid : Prop := Claim7.holds Tryd.pinned (.plain (OpenSpec.ofChange codeFormSpec)) codeFormCard

/-- THE TIED CARD OF 'provisolaw04.CodeApart'. -/
def codeApartCard : Claim7 := { stood := { row := codeApartRow, standIns := [], harness := (true, "0639f325c0d2723311e33b0b6dfbc1e29d6bc759a6284701fbba8173268f7c7f"), looks := false }, kinds := [], alts := [], laidByText := true, laidKinds := [.data, .data], laidTests := true, laidLooks := .later }
def CodeApartCardSaid : Prop := Claim7.holds Tryd.pinned (.plain (OpenSpec.ofChange codeApartSpec)) codeApartCard

/-- THE SECOND FORM's CARD OF 'provisolaw04.CodePatches'. -/
def codePatchesUptoCard : Claim7 := { stood := { row := codePatchesUptoRow, standIns := [], harness := (true, "0639f325c0d2723311e33b0b6dfbc1e29d6bc759a6284701fbba8173268f7c7f"), looks := false }, kinds := [], alts := [], laidByText := true, laidKinds := [.data], laidTests := true, laidLooks := .later }
def CodePatchesUptoCardSaid : Prop := Claim7.holds Tryd.pinned (.plain (OpenSpec.upto codePatchesSpec)) codePatchesUptoCard

/-- THE SECOND FORM's CARD OF 'provisolaw04.CodeBack'. -/
def codeBackUptoCard : Claim7 := { stood := { row := codeBackUptoRow, standIns := [], harness := (true, "0639f325c0d2723311e33b0b6dfbc1e29d6bc759a6284701fbba8173268f7c7f"), looks := false }, kinds := [], alts := [], laidByText := true, laidKinds := [.data], laidTests := true, laidLooks := .later }
def CodeBackUptoCardSaid : Prop := Claim7.holds Tryd.pinned (.plain (OpenSpec.upto codeBackSpec)) codeBackUptoCard

/-- THE SECOND FORM's CARD OF 'provisolaw04.CodeForm'. -/
def codeFormUptoCard : Claim7 := { stood := { row := codeFormUptoRow, standIns := [], harness := (true, "0639f325c0d2723311e33b0b6dfbc1e29d6bc759a6284701fbba8173268f7c7f"), looks := false }, kinds := [], alts := [], laidByText := true, laidKinds := [.data], laidTests := true, laidLooks := .later }
def CodeFormUptoCardSaid : Prop := Claim7.holds Tryd.pinned (.plain (OpenSpec.upto codeFormSpec)) codeFormUptoCard

/-- THE SECOND FORM's CARD OF 'provisolaw04.CodeApart'. -/
def codeApartUptoCard : Claim7 := { stood := { row := codeApartUptoRow, standIns := [], harness := (true, "0639f325c0d2723311e33b0b6dfbc1e29d6bc759a6284701fbba8173268f7c7f"), looks := false }, kinds := [], alts := [], laidByText := true, laidKinds := [.data, .data], laidTests := true, laidLooks := .later }
def CodeApartUptoCardSaid : Prop := Claim7.holds Tryd.pinned (.plain (OpenSpec.upto codeApartSpec)) codeApartUptoCard
end Rows
end Go.Proofs.YtihkodfcgfnjoacDoor
