/-
  DERIVED. GIVEN WITH THE SEED: THE CARDS: each row of YtggaecmjadkopabDoorRows.lean that lists a variable, with what it lists TIED to the program's text (the seventh form; the later family's looks); each row that meets fmt, with fmt's text TOLD by the authors' own Lean function (tested against real Go, not proved from fmt's source: count such statements apart). THE CARD IS WHAT COUNTS. Prove the row's statement (the work); the ties are given (YtggaecmjadkopabDoorTie.lean); close each card by the builder's one call (the guide's Derived/Test/ToyasCard.lean, 'card_holds'). Laid BY PROGRAM, IN A SANDBOX (cutbox-door.mjs). By AI agents, Wed Nov 11 2026. No macro, syntax, notation, axiom, sorry.
-/
import Derived.Test.YtggaecmjadkopabDoorRows
import GoSem.ClaimSeven
namespace Go.Proofs.YtggaecmjadkopabDoor
namespace Rows

/-- THE TIED CARD OF 'provisolaw02.TypesChecks'. -/
def typesChecksCard : Claim7 := { stood := { row := typesChecksRow, standIns := [], harness := (true, "ceea0b582275f3836219d9ecbee97f42e9e8d17bbc21aa2dde730e7e72b50d48"), looks := false }, kinds := [], alts := [], laidByText := true, laidKinds := [.data], laidTests := true, laidLooks := .later }
def TypesChecksCardSaid : Prop := Claim7.holds Tryd.pinned (.plain (OpenSpec.ofChange typesChecksSpec)) typesChecksCard

/-- THE TIED CARD OF 'provisolaw02.TypesAsks'. -/
def typesAsksCard : Claim7 := { stood := { row := typesAsksRow, standIns := [], harness := (true, "ceea0b582275f3836219d9ecbee97f42e9e8d17bbc21aa2dde730e7e72b50d48"), looks := false }, kinds := [], alts := [], laidByText := true, laidKinds := [.data], laidTests := true, laidLooks := .later }
def TypesAsksCardSaid : Prop := Claim7.holds Tryd.pinned (.plain (OpenSpec.ofChange typesAsksSpec)) typesAsksCard

/-- THE TIED CARD OF 'provisolaw02.TypesFields'. -/
def typesFieldsCard : Claim7 := { stood := { row := typesFieldsRow, standIns := [], harness := (true, "ceea0b582275f3836219d9ecbee97f42e9e8d17bbc21aa2dde730e7e72b50d48"), looks := false }, kinds := [], alts := [], laidByText := true, laidKinds := [.data], laidTests := true, laidLooks := .later }
def TypesFieldsCardSaid : Prop := Claim7.holds Tryd.pinned (.plain (OpenSpec.ofChange typesFieldsSpec)) typesFieldsCard

/-- THE SECOND FORM's CARD OF 'provisolaw02.TypesChecks'. -/
def typesChecksUptoCard : Claim7 := { stood := { row := typesChecksUptoRow, standIns := [], harness := (true, "ceea0b582275f3836219d9ecbee97f42e9e8d17bbc21aa2dde730e7e72b50d48"), looks := false }, kinds := [], alts := [], laidByText := true, laidKinds := [.data], laidTests := true, laidLooks := .later }
def TypesChecksUptoCardSaid : Prop := Claim7.holds Tryd.pinned (.plain (OpenSpec.upto typesChecksSpec)) typesChecksUptoCard

/-- THE SECOND FORM's CARD OF 'provisolaw02.TypesAsks'. -/
def typesAsksUptoCard : Claim7 := { stood := { row := typesAsksUptoRow, standIns := [], harness := (true, "ceea0b582275f3836219d9ecbee97f42e9e8d17bbc21aa2dde730e7e72b50d48"), looks := false }, kinds := [], alts := [], laidByText := true, laidKinds := [.data], laidTests := true, laidLooks := .later }
def TypesAsksUptoCardSaid : Prop := Claim7.holds Tryd.pinned (.plain (OpenSpec.upto typesAsksSpec)) typesAsksUptoCard

/-- THE SECOND FORM's CARD OF 'provisolaw02.TypesFields'. -/
def typesFieldsUptoCard : Claim7 := { stood := { row := typesFieldsUptoRow, standIns := [], harness := (true, "ceea0b582275f3836219d9ecbee97f42e9e8d17bbc21aa2dde730e7e72b50d48"), looks := false }, kinds := [], alts := [], laidByText := true, laidKinds := [.data], laidTests := true, laidLooks := .later }
def TypesFieldsUptoCardSaid : Prop := Claim7.holds Tryd.pinned (.plain (OpenSpec.upto typesFieldsSpec)) typesFieldsUptoCard
end Rows
end Go.Proofs.YtggaecmjadkopabDoor
