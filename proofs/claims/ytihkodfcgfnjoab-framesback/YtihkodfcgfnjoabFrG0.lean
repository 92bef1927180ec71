/-
  Slots set to zero, one behind another. No Go in it.
-/
import Derived.Test.YtihkodfcgfnjoabFrC
namespace Go.Proofs.Ytihkodfcgfnjoab
open Go.RowKit

/-- Slots n up to k set to zero. -/
def zeroTo (l : List Nat) (n k : Nat) : List Nat := zeroFrom l n (k - n)
theorem zeroFrom_snoc : ∀ (m n : Nat) (l : List Nat), (zeroFrom l n m).set (n + m) 0 = zeroFrom l n (m + 1)
  | 0, n, l => rfl
  | m + 1, n, l => by
    have := zeroFrom_snoc m (n + 1) (l.set n 0)
    unfold zeroFrom
    rw [show n + (m + 1) = n + 1 + m from by omega]
    exact this
theorem zeroTo_succ (l : List Nat) {n k : Nat} (h : n ≤ k) : (zeroTo l n k).set k 0 = zeroTo l n (k + 1) := by
  unfold zeroTo
  have := zeroFrom_snoc (k - n) n l
  rw [show n + (k - n) = k from by omega] at this
  rw [this, show k + 1 - n = k - n + 1 from by omega]
theorem zeroFrom_length : ∀ (m n : Nat) (l : List Nat), (zeroFrom l n m).length = l.length
  | 0, _, _ => rfl
  | m + 1, n, l => by unfold zeroFrom; rw [zeroFrom_length m, List.length_set]

end Go.Proofs.Ytihkodfcgfnjoab
