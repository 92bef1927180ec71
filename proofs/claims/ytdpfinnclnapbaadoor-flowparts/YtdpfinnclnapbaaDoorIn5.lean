/-
  Contracts of provisoref04's fits, put and Encode: the same plain functions as of code.Encode. Conditions: lengths fit.
-/
import Derived.Test.YtdpfinnclnapbaaDoorIn4
import Derived.Test.YtdpfinnclnapbaaDoorApp
namespace Go.Proofs.YtdpfinnclnapbaaDoor
open Go.RowKit
set_option maxRecDepth 20000

theorem beI_take (n : Int) (s j : Nat) (h : j < s) : (beI n s).take (j + 1) = (beI n s).take j ++ [byI n (s - 1 - j)] := by
  have h2 : j < (beI n s).length := by rw [beI_length]; exact h
  have := beI_get n s j h
  rw [List.getElem?_eq_getElem h2] at this
  injection this with this
  rw [List.take_succ_eq_append_getElem h2, this]
theorem byM (n : Int) (M q : Nat) (h : (M : Int) = n ∨ (M : Int) = n + 4294967296) (hq : q < 4) : ((M / 256 ^ q % 256 : Nat) : Int) = ((byI n q).toNat : Int) := by
  rw [byI_eq]
  rcases (show q = 0 ∨ q = 1 ∨ q = 2 ∨ q = 3 by omega) with rfl | rfl | rfl | rfl
  all_goals
    simp only [Nat.reducePow, Int.reducePow]
    omega

end Go.Proofs.YtdpfinnclnapbaaDoor
