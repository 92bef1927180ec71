/-
  Contracts of provisoref04's fits, put and Encode: the same plain functions as of code.Encode. Conditions: lengths fit.
-/
import Derived.Test.YtihkodfcgfnjoacDoorIn4
import Derived.Test.YtihkodfcgfnjoacDoorApp
namespace Go.Proofs.YtihkodfcgfnjoacDoor
open Go.RowKit

theorem beI_take (n : Int) (s j : Nat) (h : j < s) : (beI n s).take (j + 1) = (beI n s).take j ++ [byI n (s - 1 - j)] := by
  have h2 : j < (beI n s).length := by rw [beI_length]; exact h
  have := beI_get n s j h
  rw [List.getElem?_eq_getElem h2] at this
  injection this with this
  rw [List.take_succ_eq_append_getElem h2, this]
theorem byM (n : Int) (M q : Nat) (h : (M : Int) = n ∨ (M : Int) = n + 4294967296) (hq : q < 4) : ((M / 256 ^ q % 256 : Nat) : Int) = ((byI n q).toNat : Int) := by
  rw [byI_eq]
  rcases (show q = 0 ∨ q = 1 ∨ q = 2 ∨ q = 3 by omega) with rfl | rfl | rfl | rfl
  all_goals
    simp only [Nat.reducePow, Int.reducePow]
    omega

set_option maxHeartbeats 1000000 in
theorem fits_any (n : Int) (k : Nat) (w : World) : Calls Tryd.prog 24 #[.int .i64 n, .int .i64 (k : Int)] w fun e w' => e = .returned (.bool (fitD n k)) ∧ ∃ q, w' = w.drewN q := by
  by_cases h0 : k = 0
  · subst h0
    go_enter Tryd.func24, Tryd.ntmps24
    go_wp2
    go_ret
    exact ⟨ret_bool (by simp [fitD]; rfl), 0, rfl⟩
  by_cases h1 : k = 1
  · subst h1
    by_cases hlo : (0 : Int) ≤ n
    · have d : decide ((0 : Int) ≤ n) = true := decide_eq_true hlo
      go_enter Tryd.func24, Tryd.ntmps24
      go_wp2
      go_ret
      exact ⟨ret_bool (by simp [fitD, d]), 0, rfl⟩
    · have d : decide ((0 : Int) ≤ n) = false := decide_eq_false hlo
      clear hlo
      go_enter Tryd.func24, Tryd.ntmps24
      go_wp2
      go_ret
      exact ⟨ret_bool (by simp [fitD, d]), 0, rfl⟩
  by_cases h2 : k = 2
  · subst h2
    by_cases hlo : (0 : Int) ≤ n
    · have d : decide ((0 : Int) ≤ n) = true := decide_eq_true hlo
      go_enter Tryd.func24, Tryd.ntmps24
      go_wp2
      go_ret
      exact ⟨ret_bool (by simp [fitD, d]), 0, rfl⟩
    · have d : decide ((0 : Int) ≤ n) = false := decide_eq_false hlo
      clear hlo
      go_enter Tryd.func24, Tryd.ntmps24
      go_wp2
      go_ret
      exact ⟨ret_bool (by simp [fitD, d]), 0, rfl⟩
  have e0 : (((k : Nat) : Int) == 0) = false := beq_f (by omega)
  have e1 : (((k : Nat) : Int) == 1) = false := beq_f (by omega)
  have e2 : (((k : Nat) : Int) == 2) = false := beq_f (by omega)
  by_cases hlo : (-2147483648 : Int) ≤ n
  · have d : decide ((-2147483648 : Int) ≤ n) = true := decide_eq_true hlo
    go_enter Tryd.func24, Tryd.ntmps24
    go_wp2
    go_ret
    exact ⟨ret_bool (by simp [fitD, d, h0, h1, h2]), 0, rfl⟩
  · have d : decide ((-2147483648 : Int) ≤ n) = false := decide_eq_false hlo
    clear hlo
    go_enter Tryd.func24, Tryd.ntmps24
    go_wp2
    go_ret
    exact ⟨ret_bool (by simp [fitD, d, h0, h1, h2]), 0, rfl⟩

end Go.Proofs.YtihkodfcgfnjoacDoor
