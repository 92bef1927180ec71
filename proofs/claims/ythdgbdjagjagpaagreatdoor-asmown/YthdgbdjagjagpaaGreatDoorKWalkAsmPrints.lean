/-
  The walk of the law AsmPrints: it returns true for all bytes, and writes nothing that was there.
-/
import Derived.Test.YthdgbdjagjagpaaGreatDoorJPR
import Derived.Test.YthdgbdjagjagpaaGreatDoorRoom
namespace Go.Proofs.YthdgbdjagjagpaaGreatDoor
open Go.RowKit
set_option maxRecDepth 20000
set_option linter.unusedVariables false

structure LdA (W : World) : Prop where
  w : WidAt W
  c : WordsC W
  p : PwT W
theorem LdA.below {w w' : World} (h : LdA w) (hb : Below w.heap.size w w') : LdA w' := ⟨h.w.below hb, h.c.below hb, h.p.below hb⟩
end Go.Proofs.YthdgbdjagjagpaaGreatDoor
