/-
  What provisoref04's take makes of an instruction's bytes is what Decode makes of them; they are in their spans but for a bool above 1. No Go in it.
-/
import Derived.Test.YtdpfinnclnapbaaDoorIn9
import Derived.Test.YtdpfinnclnapbaaDoorIn7
namespace Go.Proofs.YtdpfinnclnapbaaDoor
open Go.RowKit
set_option maxRecDepth 20000

theorem tk_dA (op : Nat) (t : List UInt8) (h34 : op < 34) : tkD (wA op) (t.take (wA op)) = dA op t := by
  unfold dA
  by_cases h : op = 1
  · rw [if_pos h, (wA_which op h34).2.2 h]
    rfl
  · rw [if_neg h, tk_plain _ _ (fun e => h ((wA_which op h34).2.1 e))]
theorem tk_dB (op : Nat) (t : List UInt8) (h34 : op < 34) : tkD (wB op) ((t.drop (wA op)).take (wB op)) = dB op t := by
  unfold dB
  rw [tk_plain _ _ (by rcases wB_which op h34 with h | h <;> omega)]
theorem dec_in (op : Nat) (t : List UInt8) (h34 : op < 34) (hl : wA op + wB op ≤ t.length) : inD op (dA op t) (dB op t) = !(decide (op = 2) && decide (1 < dA op t)) := by
  rw [inD_fits op h34]
  have l1 : (t.take (wA op)).length = wA op := by rw [List.length_take]; omega
  have l2 : ((t.drop (wA op)).take (wB op)).length = wB op := by rw [List.length_take, List.length_drop]; omega
  have f1 : fitD (dA op t) (wA op) = true := by
    rw [← tk_dA op t h34]
    rcases (wA_which op h34).1 with h | h | h | h
    · rw [tk_plain _ _ (by omega)]; exact fit_be _ _ (by omega) l1
    · rw [tk_plain _ _ (by omega)]; exact fit_be _ _ (by omega) l1
    · rw [tk_plain _ _ (by omega)]; exact fit_be _ _ (by omega) l1
    · rw [h] at l1 ⊢
      exact fit_four _ l1
  have f2 : fitD (dB op t) (wB op) = true := by
    unfold dB
    exact fit_be _ _ (by rcases wB_which op h34 with h | h <;> omega) l2
  rw [f1, f2]
  rfl
end Go.Proofs.YtdpfinnclnapbaaDoor
