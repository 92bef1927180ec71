/-
  The contract of frames.Sub: what the plain function 'subF' says; nothing old is turned. Conditions: the table lies there.
-/
import Derived.Test.YtkodmpcnndbngaaGreatDoorKFrM
namespace Go.Proofs.YtkodmpcnndbngaaGreatDoor
open Go.RowKit
set_option maxRecDepth 20000

def subF (T : List Cl) (a b : Fr) : Bool := (mergeF T a b).2 == 0 && frEq (mergeF T a b).1 b

end Go.Proofs.YtkodmpcnndbngaaGreatDoor
