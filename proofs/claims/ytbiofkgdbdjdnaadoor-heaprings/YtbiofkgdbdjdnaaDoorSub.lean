/-
  The contract of types.Sub: what the plain function 'subD' says; nothing old is turned. Conditions: types are bytes.
-/
import Derived.Test.YtbiofkgdbdjdnaaDoorOrd
namespace Go.Proofs.YtbiofkgdbdjdnaaDoor
open Go.RowKit
set_option maxRecDepth 20000

end Go.Proofs.YtbiofkgdbdjdnaaDoor
