/-
  The contract of provisoref02's Rank: what the plain function says; nothing old is turned. Conditions: types are bytes; the table may be.
-/
import Derived.Test.YtjccomjgmejnhaaKRefMore
namespace Go.Proofs.Ytjccomjgmejnhaa
open Go.RowKit

end Go.Proofs.Ytjccomjgmejnhaa
