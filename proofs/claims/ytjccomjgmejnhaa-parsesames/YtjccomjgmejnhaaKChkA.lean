/-
  The contract of types.Check: the first class at fault, or none. All that lay lies unturned.
-/
import Derived.Test.YtjccomjgmejnhaaKChkC
namespace Go.Proofs.Ytjccomjgmejnhaa
open Go.RowKit

end Go.Proofs.Ytjccomjgmejnhaa
