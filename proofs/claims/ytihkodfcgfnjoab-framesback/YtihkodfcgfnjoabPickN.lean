/-
  The remainder of an int taken as an unsigned number. No Go in it.
-/
import Derived.Test.YtihkodfcgfnjoabMem
namespace Go.Proofs.Ytihkodfcgfnjoab
open Go.RowKit

/-- The remainder of an int taken as an unsigned one. -/
def pickN (x : Int) (n : Nat) : Nat := ((IntKind.u64.wrap x).tmod (n : Int)).toNat

theorem pickN_eq (x : Int) (n : Nat) (hn : 0 < n) : (IntKind.u64.wrap x).tmod (n : Int) = (pickN x n : Int) ∧ pickN x n < n := by
  have h0 := wrap_u64_nonneg x
  have h1 : (IntKind.u64.wrap x).tmod (n : Int) = (IntKind.u64.wrap x) % (n : Int) := Int.tmod_eq_emod_of_nonneg h0
  have h2 : 0 ≤ (IntKind.u64.wrap x) % (n : Int) := Int.emod_nonneg _ (by omega)
  have h3 : (IntKind.u64.wrap x) % (n : Int) < n := Int.emod_lt_of_pos _ (by omega)
  unfold pickN
  rw [h1]
  omega
theorem pickN_lt (x : Int) (n : Nat) (hn : 0 < n) : pickN x n < n := (pickN_eq x n hn).2
theorem pick_wrap (x : Int) (n : Nat) (hn : 0 < n) (hn2 : n ≤ 140737488355328) : wrap64 ((IntKind.u64.wrap x).tmod (n : Int)) = (pickN x n : Int) := by
  obtain ⟨h1, h2⟩ := pickN_eq x n hn
  rw [h1]
  unfold wrap64
  omega
end Go.Proofs.Ytihkodfcgfnjoab
