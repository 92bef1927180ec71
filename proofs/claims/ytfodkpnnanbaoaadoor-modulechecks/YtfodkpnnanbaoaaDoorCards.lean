/-
  DERIVED. GIVEN WITH THE SEED: THE CARDS: each row of YtfodkpnnanbaoaaDoorRows.lean that lists a variable, with what it lists TIED to the program's text (the seventh form; the later family's looks); each row that meets fmt, with fmt's text TOLD by the authors' own Lean function (tested against real Go, not proved from fmt's source: count such statements apart). THE CARD IS WHAT COUNTS. Prove the row's statement (the work); the ties are given (YtfodkpnnanbaoaaDoorTie.lean); close each card by the builder's one call (the guide's Derived/Test/ToyasCard.lean, 'card_holds'). Laid BY PROGRAM, IN A SANDBOX (cutbox-door.mjs). By AI agents, Wed Nov 11 2026. No macro, syntax, notation, axiom, sorry.
-/
import Derived.Test.YtfodkpnnanbaoaaDoorRows
import GoSem.ClaimSeven
namespace Go.Proofs.YtfodkpnnanbaoaaDoor
namespace Rows

/-- THE TIED CARD OF 'provisolaw16.ModuleChecks'. -/
def moduleChecksCard : Claim7 := { stood := { row := moduleChecksRow, standIns := [], harness := (true, "27344683cbeb4dac6b5a442d8544952ec713fd5ac1e5923ba56f67418405b60d"), looks := false }, kinds := [], alts := [], laidByText := true, laidKinds := [.data], laidTests := true, laidLooks := .later }
def ModuleChecksCardSaid : Prop := Claim7.holds Tryd.pinned (.plain (OpenSpec.ofChange moduleChecksSpec)) moduleChecksCard

/-- THE TIED CARD OF 'provisolaw18.LinkFrees'. -/
def linkFreesCard : Claim7 := { stood := { row := linkFreesRow, standIns := [], harness := (true, "27344683cbeb4dac6b5a442d8544952ec713fd5ac1e5923ba56f67418405b60d"), looks := false }, kinds := [], alts := [], laidByText := true, laidKinds := [.data], laidTests := true, laidLooks := .later }
def LinkFreesCardSaid : Prop := Claim7.holds Tryd.pinned (.plain (OpenSpec.ofChange linkFreesSpec)) linkFreesCard

/-- THE SECOND FORM's CARD OF 'provisolaw16.ModuleChecks'. -/
def moduleChecksUptoCard : Claim7 := { stood := { row := moduleChecksUptoRow, standIns := [], harness := (true, "27344683cbeb4dac6b5a442d8544952ec713fd5ac1e5923ba56f67418405b60d"), looks := false }, kinds := [], alts := [], laidByText := true, laidKinds := [.data], laidTests := true, laidLooks := .later }
def ModuleChecksUptoCardSaid : Prop := Claim7.holds Tryd.pinned (.plain (OpenSpec.upto moduleChecksSpec)) moduleChecksUptoCard

/-- THE SECOND FORM's CARD OF 'provisolaw18.LinkFrees'. -/
def linkFreesUptoCard : Claim7 := { stood := { row := linkFreesUptoRow, standIns := [], harness := (true, "27344683cbeb4dac6b5a442d8544952ec713fd5ac1e5923ba56f67418405b60d"), looks := false }, kinds := [], alts := [], laidByText := true, laidKinds := [.data], laidTests := true, laidLooks := .later }
def LinkFreesUptoCardSaid : Prop := Claim7.holds Tryd.pinned (.plain (OpenSpec.upto linkFreesSpec)) linkFreesUptoCard
end Rows
end Go.Proofs.YtfodkpnnanbaoaaDoor
