/-
  DERIVED. GIVEN WITH THE SEED: THE CARDS: each row of YtgelbihdcfgjcaaDoorRows.lean that lists a variable, with what it lists TIED to the program's text (the seventh form; the later family's looks); each row that meets fmt, with fmt's text TOLD by the authors' own Lean function (tested against real Go, not proved from fmt's source: count such statements apart). THE CARD IS WHAT COUNTS. Prove the row's statement (the work); the ties are given (YtgelbihdcfgjcaaDoorTie.lean); close each card by the builder's one call (the guide's Derived/Test/ToyasCard.lean, 'card_holds'). Laid BY PROGRAM, IN A SANDBOX (cutbox-door.mjs). By AI agents, Wed Nov 11 2026. No macro, syntax, notation, axiom, sorry.
-/
import Derived.Test.YtgelbihdcfgjcaaDoorRows
import GoSem.ClaimSeven
namespace Go.Proofs.YtgelbihdcfgjcaaDoor
namespace Rows

/-- THE TIED CARD OF 'provisolaw18.LinkFrees'. -/
def linkFreesCard : Claim7 := { stood := { row := linkFreesRow, standIns := [], harness := (true, "ae56dbe4cd640bb2908f32403c55305273c4ec01f295b18870ec0a3cc3c5e20e"), looks := false }, kinds := [], alts := [], laidByText := true, laidKinds := [.data], laidTests := true, laidLooks := .later }
def LinkFreesCardSaid : Prop := Claim7.holds Tryd.pinned (.plain (OpenSpec.ofChange linkFreesSpec)) linkFreesCard

/-- THE SECOND FORM's CARD OF 'provisolaw18.LinkFrees'. -/
def linkFreesUptoCard : Claim7 := { stood := { row := linkFreesUptoRow, standIns := [], harness := (true, "ae56dbe4cd640bb2908f32403c55305273c4ec01f295b18870ec0a3cc3c5e20e"), looks := false }, kinds := [], alts := [], laidByText := true, laidKinds := [.data], laidTests := true, laidLooks := .later }
def LinkFreesUptoCardSaid : Prop := Claim7.holds Tryd.pinned (.plain (OpenSpec.upto linkFreesSpec)) linkFreesUptoCard
end Rows
end Go.Proofs.YtgelbihdcfgjcaaDoor
