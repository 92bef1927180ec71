/-
  The contract of types.Sub: what the plain function 'subD' says; nothing old is turned. Conditions: types are bytes.
-/
import Derived.Test.YtplfpcbheijdlaaOrd
namespace Go.Proofs.Ytplfpcbheijdlaa
open Go.RowKit

end Go.Proofs.Ytplfpcbheijdlaa
