/-
  The contract of the reader's Next, in one word: what a step tells, and where the reader then stands. Conditions: the reader is one that Open made, its bytes lie there.
-/
import Derived.Test.YtednnfmomhallaaCr7
import Derived.Maps.AppendAt
namespace Go.Proofs.Ytednnfmomhallaa
open Go.RowKit

/-- A step of a reader. -/
def Stp (L : List UInt8) (lo : Nat) (k : Int) (p : Nat) (told ahead : Int) (y : En) (b : Bool) (er : Int) (q : Nat) (t a : Int) : Prop :=
  (told = k ∧ y = enZ ∧ b = false ∧ q = p ∧ t = told ∧ a = ahead ∧ er = (if p < L.length then 3 else 0)) ∨
  (told ≠ k ∧ (oneE L lo p ahead).2 ≠ 0 ∧ y = enZ ∧ b = false ∧ q = p ∧ t = told ∧ a = ahead ∧ er = (oneE L lo p ahead).2) ∨
  (told ≠ k ∧ (oneE L lo p ahead).2 = 0 ∧ y = oneX L lo p ∧ b = true ∧ q = oneN L lo p ∧ t = told + 1 ∧ a = (oneX L lo p).at_ ∧ er = 0 ∧ oneN L lo p ≤ L.length)
theorem EAt.grown {W W' : World} {g k : Nat} {x : En} (h : EAt W g x) (hb : W.grownBy W' (some k)) (hne : g ≠ k) : EAt W' g x := (hb.block g h.lt (by intro e; injection e with e; exact hne e)).trans h

end Go.Proofs.Ytednnfmomhallaa
