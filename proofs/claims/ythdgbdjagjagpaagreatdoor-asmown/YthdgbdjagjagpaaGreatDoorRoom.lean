/-
  Contracts of provisoplain.Roomy, provisoplain.Untouched and provisolaw01.pick: Roomy makes a row of its own with the bytes and four marks behind them, Untouched tells that they are there, pick is the remainder of an unsigned number. Conditions: lengths fit.
-/
import Derived.Test.YthdgbdjagjagpaaGreatDoorMem
namespace Go.Proofs.YthdgbdjagjagpaaGreatDoor
open Go.RowKit
set_option maxRecDepth 20000

/-- The bytes with the marks behind. -/
def roomy (l : List UInt8) : List UInt8 := l ++ [165, 90, 195, 60]
theorem roomy_length (l : List UInt8) : (roomy l).length = l.length + 4 := by simp [roomy]

theorem own_grown {w w' : World} {base : Nat} {v : Value} {l : List UInt8} {row : Option Nat} (h : OwnB w base v l) (hg : w.grownBy w' row) (hne : v.ownBlock = none ∨ v.ownBlock ≠ row) : OwnB w' base v l := h.kept hg hne

theorem at8_mark (l : List UInt8) : at8 (roomy l) l.length = 165 ∧ at8 (roomy l) (l.length + 1) = 90 ∧ at8 (roomy l) (l.length + 2) = 195 ∧ at8 (roomy l) (l.length + 3) = 60 := by
  unfold at8 roomy
  simp only [List.getD_eq_getElem?_getD]
  refine ⟨?_, ?_, ?_, ?_⟩
  · rw [List.getElem?_append_right (by omega)]; simp
  · rw [List.getElem?_append_right (by omega)]; simp
  · rw [List.getElem?_append_right (by omega)]; simp
  · rw [List.getElem?_append_right (by omega)]; simp

/-- The remainder of an int taken as an unsigned one. -/
def pickN (x : Int) (n : Nat) : Nat := ((IntKind.u64.wrap x).tmod (n : Int)).toNat

theorem pickN_eq (x : Int) (n : Nat) (hn : 0 < n) : (IntKind.u64.wrap x).tmod (n : Int) = (pickN x n : Int) ∧ pickN x n < n := by
  have h0 := wrap_u64_nonneg x
  have h1 : (IntKind.u64.wrap x).tmod (n : Int) = (IntKind.u64.wrap x) % (n : Int) := Int.tmod_eq_emod_of_nonneg h0
  have h2 : 0 ≤ (IntKind.u64.wrap x) % (n : Int) := Int.emod_nonneg _ (by omega)
  have h3 : (IntKind.u64.wrap x) % (n : Int) < n := Int.emod_lt_of_pos _ (by omega)
  unfold pickN
  rw [h1]
  omega
theorem pickN_lt (x : Int) (n : Nat) (hn : 0 < n) : pickN x n < n := (pickN_eq x n hn).2
theorem pick_wrap (x : Int) (n : Nat) (hn : 0 < n) (hn2 : n ≤ 140737488355328) : wrap64 ((IntKind.u64.wrap x).tmod (n : Int)) = (pickN x n : Int) := by
  obtain ⟨h1, h2⟩ := pickN_eq x n hn
  rw [h1]
  unfold wrap64
  omega
end Go.Proofs.YthdgbdjagjagpaaGreatDoor
