/-
  The contract of cert.Open; of a reader that Open made: its Locals, Count, At. Conditions: lengths fit.
-/
import Derived.Test.YtednnfmomhallaaCr2
namespace Go.Proofs.Ytednnfmomhallaa
open Go.RowKit

end Go.Proofs.Ytednnfmomhallaa
