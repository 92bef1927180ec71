/-
  Contracts of wire.isLetter, wire.isDigit and wire.IsName where provisoref02's plain function 'nameB' stands (Nm): each returns what it says of the bytes, in the same world. The walks are those of Wn.
-/
import Derived.Test.YtjccomjgmejnhaaNm
namespace Go.Proofs.Ytjccomjgmejnhaa
open Go.RowKit
end Go.Proofs.Ytjccomjgmejnhaa
