/-
  The contract of provisoref02's Rank: what the plain function says; nothing old is turned. Conditions: types are bytes; the table may be.
-/
import Derived.Test.YtfodkpnnanbaoaaDoorKRefMore
namespace Go.Proofs.YtfodkpnnanbaoaaDoor
open Go.RowKit
set_option maxRecDepth 20000

end Go.Proofs.YtfodkpnnanbaoaaDoor
