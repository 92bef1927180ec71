/-
  DERIVED. GIVEN WITH THE SEED: THE CARDS: each row of YtbbfnampjbdnbaaDoorRows.lean that lists a variable, with what it lists TIED to the program's text (the seventh form; the later family's looks); each row that meets fmt, with fmt's text TOLD by the authors' own Lean function (tested against real Go, not proved from fmt's source: count such statements apart). THE CARD IS WHAT COUNTS. Prove the row's statement (the work); the ties are given (YtbbfnampjbdnbaaDoorTie.lean); close each card by the builder's one call (the guide's Derived/Test/ToyasCard.lean, 'card_holds'). Laid BY PROGRAM, IN A SANDBOX (cutbox-door.mjs). By AI agents, Wed Nov 11 2026. No macro, syntax, notation, axiom, sorry.
-/
import Derived.Test.YtbbfnampjbdnbaaDoorRows
import GoSem.ClaimSeven
namespace Go.Proofs.YtbbfnampjbdnbaaDoor
namespace Rows

/-- THE TIED CARD OF 'provisolaw14.HeapLives'. -/
def heapLivesCard : Claim7 := { stood := { row := heapLivesRow, standIns := [], harness := (true, "dd40a9975fdb88f695d7770a06870cea62b20d0bb57f0ec6020707c2480390ac"), looks := false }, kinds := [], alts := [], laidByText := true, laidKinds := [.data], laidTests := true, laidLooks := .later }
def HeapLivesCardSaid : Prop := Claim7.holds Tryd.pinned (.plain (OpenSpec.ofChange heapLivesSpec)) heapLivesCard

/-- THE SECOND FORM's CARD OF 'provisolaw14.HeapLives'. -/
def heapLivesUptoCard : Claim7 := { stood := { row := heapLivesUptoRow, standIns := [], harness := (true, "dd40a9975fdb88f695d7770a06870cea62b20d0bb57f0ec6020707c2480390ac"), looks := false }, kinds := [], alts := [], laidByText := true, laidKinds := [.data], laidTests := true, laidLooks := .later }
def HeapLivesUptoCardSaid : Prop := Claim7.holds Tryd.pinned (.plain (OpenSpec.upto heapLivesSpec)) heapLivesUptoCard
end Rows
end Go.Proofs.YtbbfnampjbdnbaaDoor
