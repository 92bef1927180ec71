/-
  What provisoref04's take makes of the bytes of an instruction is what Decode makes of them; they are in their spans but for a bool above 1. No Go in it.
-/
import Derived.Test.YtdpfinnclnapbaaDoorIn6
import Derived.Test.YtdpfinnclnapbaaDoorIn8
namespace Go.Proofs.YtdpfinnclnapbaaDoor
open Go.RowKit
set_option maxRecDepth 20000

theorem wA_which : ∀ op, op < 34 → (wA op = 0 ∨ wA op = 1 ∨ wA op = 2 ∨ wA op = 4) ∧ (wA op = 4 ↔ op = 1) := below34 (by decide)
theorem wB_which : ∀ op, op < 34 → wB op = 0 ∨ wB op = 1 := below34 (by decide)
theorem fit_be (l : List UInt8) (k : Nat) (hk : k = 0 ∨ k = 1 ∨ k = 2) (hl : l.length = k) : fitD (beNI l : Int) k = true := by
  have h := beNI_lt l
  rw [hl] at h
  rcases hk with rfl | rfl | rfl
  · simp [fitD]; omega
  · simp [fitD]; omega
  · simp [fitD]; omega
theorem fit_four (l : List UInt8) (hl : l.length = 4) : fitD (tkD 4 l) 4 = true := by
  have h := beNI_lt l
  rw [hl] at h
  unfold tkD fitD
  simp
  split <;> omega
theorem tk_plain (l : List UInt8) (k : Nat) (hk : k ≠ 4) : tkD k l = (beNI l : Int) := by unfold tkD; rw [if_neg hk]
end Go.Proofs.YtdpfinnclnapbaaDoor
