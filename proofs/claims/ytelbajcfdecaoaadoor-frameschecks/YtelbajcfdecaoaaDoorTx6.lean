/-
  The words of a made table are short. No Go in it.
-/
import Derived.Test.YtelbajcfdecaoaaDoorTx5
namespace Go.Proofs.YtelbajcfdecaoaaDoor
open Go.RowKit
set_option maxRecDepth 20000

theorem word_short : ∀ t : Fin 6, (wordD t.val).size ≤ 1000 := by decide +kernel
theorem print_short {T : List Cl} (hm : madeD T = true) (t : Nat) : (printD T t).size ≤ 1000 := by
  unfold printD
  by_cases h5 : t ≤ 5
  · rw [if_pos h5]
    exact word_short ⟨t, by omega⟩
  · rw [if_neg h5]
    by_cases h : 16 ≤ t
    · rw [if_pos h]
      cases hx : T[t - 16]? with
      | none => exact Nat.zero_le _
      | some x =>
        have hl := (List.getElem?_eq_some_iff.1 hx).1
        have hn := (faultD_zero hx (madeD_all hm _ hl)).name
        unfold nameB at hn
        simp only [Bool.and_eq_true, decide_eq_true_eq] at hn
        show x.nm.size ≤ 1000
        omega
    · rw [if_neg h]
      exact Nat.zero_le _
end Go.Proofs.YtelbajcfdecaoaaDoor
