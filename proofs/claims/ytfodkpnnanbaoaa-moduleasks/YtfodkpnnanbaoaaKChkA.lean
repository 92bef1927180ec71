/-
  The contract of types.Check: the first class at fault, or none. All that lay lies unturned.
-/
import Derived.Test.YtfodkpnnanbaoaaKChkC
namespace Go.Proofs.Ytfodkpnnanbaoaa
open Go.RowKit

end Go.Proofs.Ytfodkpnnanbaoaa
