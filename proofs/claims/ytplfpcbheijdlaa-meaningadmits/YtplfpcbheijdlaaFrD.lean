/-
  Contracts of frames.Top and frames.Load: what the plain functions 'topD' and 'loadD' say; nothing old is turned.
-/
import Derived.Test.YtplfpcbheijdlaaFrC
namespace Go.Proofs.Ytplfpcbheijdlaa
open Go.RowKit

def topD (f : Fr) (n : Int) : Nat × Int :=
  if shapeD f = false then (0, 32) else if n < 0 then (0, 1) else if f.he ≤ n then (0, 30) else (f.sl.getD (nF f - 1 - n.toNat) 0, 0)
def loadD (f : Fr) (s : Int) : Nat × Int :=
  if shapeD f = false then (0, 32) else if s < 0 ∨ f.lo ≤ s then (0, 33) else (f.sl.getD s.toNat 0, 0)
def twoV (p : Nat × Int) : Value := .tuple #[.int .u8 (p.1 : Int), .int .i64 p.2]

end Go.Proofs.Ytplfpcbheijdlaa
