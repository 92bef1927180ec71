/-
  Contracts of frames.size and frames.shapeCanBe (and of provisoref03.Shape): what the plain functions say; nothing old is turned. Conditions: a frame's numbers fit an int.
-/
import Derived.Test.YtplfpcbheijdlaaFr
namespace Go.Proofs.Ytplfpcbheijdlaa
open Go.RowKit

def shapeD (f : Fr) : Bool := decide (0 ≤ f.lo ∧ f.lo ≤ 16 ∧ 0 ≤ f.he ∧ f.he ≤ 24 - f.lo)
def nF (f : Fr) : Nat := (f.lo + f.he).toNat
theorem shapeD_iff {f : Fr} : shapeD f = true ↔ (0 ≤ f.lo ∧ f.lo ≤ 16 ∧ 0 ≤ f.he ∧ f.he ≤ 24 - f.lo) := by unfold shapeD; exact decide_eq_true_iff
theorem shapeD_no {f : Fr} (h : ¬ (0 ≤ f.lo ∧ f.lo ≤ 16 ∧ 0 ≤ f.he ∧ f.he ≤ 24 - f.lo)) : shapeD f = false := by unfold shapeD; exact decide_eq_false h

end Go.Proofs.Ytplfpcbheijdlaa
