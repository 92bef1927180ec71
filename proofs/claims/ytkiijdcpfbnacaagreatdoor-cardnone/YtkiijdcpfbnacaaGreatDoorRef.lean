/-
  Contracts of provisoref01.Number and provisoref01.Take: value, place and error as the same plain functions of the bytes and the place. Conditions: lengths fit.
-/
import Derived.Test.YtkiijdcpfbnacaaGreatDoorTake
import Derived.Test.YtkiijdcpfbnacaaGreatDoorApp
namespace Go.Proofs.YtkiijdcpfbnacaaGreatDoor
open Go.RowKit
set_option maxRecDepth 20000

theorem ret_three {a b c d : Int} {e f : Int} (h1 : a = b) (h2 : c = d) (h3 : e = f) : Ending.returned (.tuple #[.int .i64 a, .int .i64 c, .int .i64 e]) = .returned (.tuple #[.int .i64 b, .int .i64 d, .int .i64 f]) := by rw [h1, h2, h3]

theorem ret_take {v : Value} {a b c : Int} (h : a = b) : Ending.returned (.tuple #[v, .int .i64 a, .int .i64 c]) = .returned (.tuple #[v, .int .i64 b, .int .i64 c]) := by rw [h]

end Go.Proofs.YtkiijdcpfbnacaaGreatDoor
