/-
  The contract of provisoref02.IsName: it returns what the plain function 'nameB' says of the bytes, in the same world. No conditions but that a string fits.
-/
import Derived.Test.YtgelbihdcfgjcaaDoorNmD
import Derived.WalkKit
import Derived.ProofKit
import Derived.WalkSpells
import Derived.Outline
import Derived.Below
namespace Go.Proofs.YtgelbihdcfgjcaaDoor
open Go.RowKit
set_option maxRecDepth 20000

end Go.Proofs.YtgelbihdcfgjcaaDoor
