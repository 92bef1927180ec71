/-
  Contracts of a reader's Within: a reader of its own over the next n bytes, and this one behind them; or the error. Conditions: lengths fit.
-/
import Derived.Test.YtkiijdcpfbnacaaGreatDoorNext
namespace Go.Proofs.YtkiijdcpfbnacaaGreatDoor
open Go.RowKit
set_option maxRecDepth 20000

theorem grown_below_trans {a b c : World} {row : Option Nat} (h1 : a.grownBy b row) (h2 : Below b.heap.size b c) : a.grownBy c row := grown_trans h1 (grown_of_below h2 row)
end Go.Proofs.YtkiijdcpfbnacaaGreatDoor
