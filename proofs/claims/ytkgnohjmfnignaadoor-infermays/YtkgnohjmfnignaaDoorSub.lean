/-
  The contract of types.Sub: what the plain function 'subD' says; nothing old is turned. Conditions: types are bytes.
-/
import Derived.Test.YtkgnohjmfnignaaDoorOrd
namespace Go.Proofs.YtkgnohjmfnignaaDoor
open Go.RowKit
set_option maxRecDepth 20000

end Go.Proofs.YtkgnohjmfnignaaDoor
