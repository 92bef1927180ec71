/-
  Contracts of types.hasName and of what it calls: slices.ContainsFunc, slices.IndexFunc at a class, with its closure: whether a name stands among the first c classes ('twiceD'). All that lay lies unturned.
-/
import Derived.Test.YtjccomjgmejnhaaKChk
namespace Go.Proofs.Ytjccomjgmejnhaa
open Go.RowKit

end Go.Proofs.Ytjccomjgmejnhaa
