/-
  The contract of provisoref05.Next; slices.Equal of numbers that are alike; the walk of the law FlowNexts. Conditions: the widths lie there.
-/
import Derived.Test.YthdgbdjagjagpaaGreatDoorNx
namespace Go.Proofs.YthdgbdjagjagpaaGreatDoor
open Go.RowKit
set_option maxRecDepth 20000

end Go.Proofs.YthdgbdjagjagpaaGreatDoor
