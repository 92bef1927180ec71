/-
  The contract of types.Sub: what the plain function 'subD' says; nothing old is turned. Conditions: types are bytes.
-/
import Derived.Test.YtdkdhlhhbobdhaaDoorOrd
namespace Go.Proofs.YtdkdhlhhbobdhaaDoor
open Go.RowKit
set_option maxRecDepth 20000

end Go.Proofs.YtdkdhlhhbobdhaaDoor
