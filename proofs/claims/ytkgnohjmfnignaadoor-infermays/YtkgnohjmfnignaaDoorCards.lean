/-
  DERIVED. GIVEN WITH THE SEED: THE CARDS: each row of YtkgnohjmfnignaaDoorRows.lean that lists a variable, with what it lists TIED to the program's text (the seventh form; the later family's looks); each row that meets fmt, with fmt's text TOLD by the authors' own Lean function (tested against real Go, not proved from fmt's source: count such statements apart). THE CARD IS WHAT COUNTS. Prove the row's statement (the work); the ties are given (YtkgnohjmfnignaaDoorTie.lean); close each card by the builder's one call (the guide's Derived/Test/ToyasCard.lean, 'card_holds'). Laid BY PROGRAM, IN A SANDBOX (cutbox-door.mjs). By AI agents, Wed Nov 11 2026. No macro, syntax, notation, axiom, sorry.
-/
import Derived.Test.YtkgnohjmfnignaaDoorRows
import GoSem.ClaimSeven
namespace Go.Proofs.YtkgnohjmfnignaaDoor
namespace Rows

/-- THE TIED CARD OF 'provisolaw08.InferMays'. -/
def inferMaysCard : Claim7 := { stood := { row := inferMaysRow, standIns := [], harness := (true, "90340272ee6eca008623c9ece5d019042bb5b1a6dee7408af0f8276e9be6b77c"), looks := false }, kinds := [], alts := [], laidByText := true, laidKinds := [.data], laidTests := true, laidLooks := .later }
def InferMaysCardSaid : Prop := Claim7.holds Tryd.pinned (.plain (OpenSpec.ofChange inferMaysSpec)) inferMaysCard

/-- THE SECOND FORM's CARD OF 'provisolaw08.InferMays'. -/
def inferMaysUptoCard : Claim7 := { stood := { row := inferMaysUptoRow, standIns := [], harness := (true, "90340272ee6eca008623c9ece5d019042bb5b1a6dee7408af0f8276e9be6b77c"), looks := false }, kinds := [], alts := [], laidByText := true, laidKinds := [.data], laidTests := true, laidLooks := .later }
def InferMaysUptoCardSaid : Prop := Claim7.holds Tryd.pinned (.plain (OpenSpec.upto inferMaysSpec)) inferMaysUptoCard
end Rows
end Go.Proofs.YtkgnohjmfnignaaDoor
