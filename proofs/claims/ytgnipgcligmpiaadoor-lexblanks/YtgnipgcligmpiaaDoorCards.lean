/-
  DERIVED. GIVEN WITH THE SEED: THE CARDS: each row of YtgnipgcligmpiaaDoorRows.lean that lists a variable, with what it lists TIED to the program's text (the seventh form; the later family's looks); each row that meets fmt, with fmt's text TOLD by the authors' own Lean function (tested against real Go, not proved from fmt's source: count such statements apart). THE CARD IS WHAT COUNTS. Prove the row's statement (the work); the ties are given (YtgnipgcligmpiaaDoorTie.lean); close each card by the builder's one call (the guide's Derived/Test/ToyasCard.lean, 'card_holds'). Laid BY PROGRAM, IN A SANDBOX (cutbox-door.mjs). By AI agents, Wed Nov 11 2026. No macro, syntax, notation, axiom, sorry.
-/
import Derived.Test.YtgnipgcligmpiaaDoorRows
import GoSem.ClaimSeven
namespace Go.Proofs.YtgnipgcligmpiaaDoor
namespace Rows

/-- THE TIED CARD OF 'provisolaw10.LexScans'. -/
def lexScansCard : Claim7 := { stood := { row := lexScansRow, standIns := [], harness := (true, "d738a19985420ecf38675509fe1a4b1befbc9c6faaca60998d866abc83b8cc8e"), looks := true }, kinds := [], alts := [], laidByText := true, laidKinds := [.data], laidTests := true, laidLooks := .later }
def LexScansCardSaid : Prop := Claim7.holds Tryd.pinned (.plain (OpenSpec.ofChange lexScansSpec)) lexScansCard

/-- THE TIED CARD OF 'provisolaw10.LexLost'. -/
def lexLostCard : Claim7 := { stood := { row := lexLostRow, standIns := [], harness := (true, "d738a19985420ecf38675509fe1a4b1befbc9c6faaca60998d866abc83b8cc8e"), looks := true }, kinds := [], alts := [], laidByText := true, laidKinds := [.data], laidTests := true, laidLooks := .later }
def LexLostCardSaid : Prop := Claim7.holds Tryd.pinned (.plain (OpenSpec.ofChange lexLostSpec)) lexLostCard

/-- THE TIED CARD OF 'provisolaw10.LexAlone'. -/
def lexAloneCard : Claim7 := { stood := { row := lexAloneRow, standIns := [], harness := (true, "d738a19985420ecf38675509fe1a4b1befbc9c6faaca60998d866abc83b8cc8e"), looks := true }, kinds := [], alts := [], laidByText := true, laidKinds := [.data], laidTests := true, laidLooks := .later }
def LexAloneCardSaid : Prop := Claim7.holds Tryd.pinned (.plain (OpenSpec.ofChange lexAloneSpec)) lexAloneCard

/-- THE TIED CARD OF 'provisolaw10.LexBlanks'. -/
def lexBlanksCard : Claim7 := { stood := { row := lexBlanksRow, standIns := [], harness := (true, "d738a19985420ecf38675509fe1a4b1befbc9c6faaca60998d866abc83b8cc8e"), looks := true }, kinds := [], alts := [], laidByText := true, laidKinds := [.data, .data, .data, .data], laidTests := true, laidLooks := .later }
def LexBlanksCardSaid : Prop := Claim7.holds Tryd.pinned (.plain (OpenSpec.ofChange lexBlanksSpec)) lexBlanksCard

/-- THE TIED CARD OF 'provisolaw10.LexBegins'. -/
def lexBeginsCard : Claim7 := { stood := { row := lexBeginsRow, standIns := [], harness := (true, "d738a19985420ecf38675509fe1a4b1befbc9c6faaca60998d866abc83b8cc8e"), looks := true }, kinds := [], alts := [], laidByText := true, laidKinds := [.data], laidTests := true, laidLooks := .later }
def LexBeginsCardSaid : Prop := Claim7.holds Tryd.pinned (.plain (OpenSpec.ofChange lexBeginsSpec)) lexBeginsCard

/-- THE SECOND FORM's CARD OF 'provisolaw10.LexScans'. -/
def lexScansUptoCard : Claim7 := { stood := { row := lexScansUptoRow, standIns := [], harness := (true, "d738a19985420ecf38675509fe1a4b1befbc9c6faaca60998d866abc83b8cc8e"), looks := true }, kinds := [], alts := [], laidByText := true, laidKinds := [.data], laidTests := true, laidLooks := .later }
def LexScansUptoCardSaid : Prop := Claim7.holds Tryd.pinned (.plain (OpenSpec.upto lexScansSpec)) lexScansUptoCard

/-- THE SECOND FORM's CARD OF 'provisolaw10.LexLost'. -/
def lexLostUptoCard : Claim7 := { stood := { row := lexLostUptoRow, standIns := [], harness := (true, "d738a19985420ecf38675509fe1a4b1befbc9c6faaca60998d866abc83b8cc8e"), looks := true }, kinds := [], alts := [], laidByText := true, laidKinds := [.data], laidTests := true, laidLooks := .later }
def LexLostUptoCardSaid : Prop := Claim7.holds Tryd.pinned (.plain (OpenSpec.upto lexLostSpec)) lexLostUptoCard

/-- THE SECOND FORM's CARD OF 'provisolaw10.LexAlone'. -/
def lexAloneUptoCard : Claim7 := { stood := { row := lexAloneUptoRow, standIns := [], harness := (true, "d738a19985420ecf38675509fe1a4b1befbc9c6faaca60998d866abc83b8cc8e"), looks := true }, kinds := [], alts := [], laidByText := true, laidKinds := [.data], laidTests := true, laidLooks := .later }
def LexAloneUptoCardSaid : Prop := Claim7.holds Tryd.pinned (.plain (OpenSpec.upto lexAloneSpec)) lexAloneUptoCard

/-- THE SECOND FORM's CARD OF 'provisolaw10.LexBlanks'. -/
def lexBlanksUptoCard : Claim7 := { stood := { row := lexBlanksUptoRow, standIns := [], harness := (true, "d738a19985420ecf38675509fe1a4b1befbc9c6faaca60998d866abc83b8cc8e"), looks := true }, kinds := [], alts := [], laidByText := true, laidKinds := [.data, .data, .data, .data], laidTests := true, laidLooks := .later }
def LexBlanksUptoCardSaid : Prop := Claim7.holds Tryd.pinned (.plain (OpenSpec.upto lexBlanksSpec)) lexBlanksUptoCard

/-- THE SECOND FORM's CARD OF 'provisolaw10.LexBegins'. -/
def lexBeginsUptoCard : Claim7 := { stood := { row := lexBeginsUptoRow, standIns := [], harness := (true, "d738a19985420ecf38675509fe1a4b1befbc9c6faaca60998d866abc83b8cc8e"), looks := true }, kinds := [], alts := [], laidByText := true, laidKinds := [.data], laidTests := true, laidLooks := .later }
def LexBeginsUptoCardSaid : Prop := Claim7.holds Tryd.pinned (.plain (OpenSpec.upto lexBeginsSpec)) lexBeginsUptoCard
end Rows
end Go.Proofs.YtgnipgcligmpiaaDoor
