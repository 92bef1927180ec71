/-
  DERIVED. GIVEN WITH THE SEED: THE CARDS: each row of YtkiijdcpfbnacaaGreatDoorRows.lean that lists a variable, with what it lists TIED to the program's text (the seventh form; the later family's looks); each row that meets fmt, with fmt's text TOLD by the authors' own Lean function (tested against real Go, not proved from fmt's source: count such statements apart). THE CARD IS WHAT COUNTS. Prove the row's statement (the work); the ties are given (YtkiijdcpfbnacaaGreatDoorTie.lean); close each card by the builder's one call (the guide's Derived/Test/ToyasCard.lean, 'card_holds'). Laid BY PROGRAM, IN A SANDBOX (cutbox-door.mjs). By AI agents, Wed Nov 11 2026. No macro, syntax, notation, axiom, sorry.
-/
import Derived.Test.YtkiijdcpfbnacaaGreatDoorRows
import GoSem.ClaimSeven
namespace Go.Proofs.YtkiijdcpfbnacaaGreatDoor
namespace Rows

/-- THE TIED CARD OF 'provisolaw22.CardNone'. -/
def cardNoneCard : Claim7 := { stood := { row := cardNoneRow, standIns := [], harness := (true, "31031a572186bb4fa4141329f9779df6021478d5115fb63204612910da7a6b10"), looks := true }, kinds := [], alts := [], laidByText := true, laidKinds := [.handle, .data, .data], laidTests := true, laidLooks := .later }
def CardNoneCardSaid : Prop := Claim7.holds Tryz.pinned (.plain (OpenSpec.ofChange cardNoneSpec)) cardNoneCard

/-- THE SECOND FORM's CARD OF 'provisolaw22.CardNone'. -/
def cardNoneUptoCard : Claim7 := { stood := { row := cardNoneUptoRow, standIns := [], harness := (true, "31031a572186bb4fa4141329f9779df6021478d5115fb63204612910da7a6b10"), looks := true }, kinds := [], alts := [], laidByText := true, laidKinds := [.handle, .data, .data], laidTests := true, laidLooks := .later }
def CardNoneUptoCardSaid : Prop := Claim7.holds Tryz.pinned (.plain (OpenSpec.upto cardNoneSpec)) cardNoneUptoCard
end Rows
end Go.Proofs.YtkiijdcpfbnacaaGreatDoor
