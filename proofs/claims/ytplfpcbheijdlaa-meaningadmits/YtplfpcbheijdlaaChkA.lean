/-
  The contract of types.Check: the first class at fault, or none. All that lay lies unturned.
-/
import Derived.Test.YtplfpcbheijdlaaChkC
namespace Go.Proofs.Ytplfpcbheijdlaa
open Go.RowKit

end Go.Proofs.Ytplfpcbheijdlaa
