/-
  Contracts of provisoref02's IsRef, Sub, Rank, all, Merge and Print: what the plain functions say; nothing old is turned. Conditions: types are bytes; the table may be.
-/
import Derived.Test.YtjccomjgmejnhaaKStaysP
import Derived.Test.YtjccomjgmejnhaaKWords
namespace Go.Proofs.Ytjccomjgmejnhaa
open Go.RowKit

theorem isRefD_t {t : Nat} (h : t = 3 ∨ t = 4 ∨ t = 5 ∨ 16 ≤ t) : isRefD t = true := decide_eq_true h
theorem isRefD_f {t : Nat} (h : ¬ (t = 3 ∨ t = 4 ∨ t = 5 ∨ 16 ≤ t)) : isRefD t = false := decide_eq_false h
theorem subD_f {T : List Cl} {a b : Nat} (h : ¬ Le T a b) : subD T a b = false := by
  cases hs : subD T a b with
  | false => rfl
  | true => exact absurd (subD_iff.1 hs) h
theorem validD_f {n t : Nat} (h : validD n t = false) : ¬ (t ≤ 5 ∨ (16 ≤ t ∧ t - 16 < n)) := fun h' => by rw [validD_iff.2 h'] at h; cases h

theorem contains_take {L : List Nat} {k y : Nat} (h : k < L.length) : (L.take (k + 1)).contains y = ((L.take k).contains y || (y == L[k])) := by
  rw [List.contains_eq_any_beq, List.contains_eq_any_beq, ← List.take_append_getElem h, List.any_append]
  simp

theorem made_32 {T : List Cl} (h : madeD T = true) : T.length ≤ 32 := by
  by_cases h0 : T.length = 0
  · omega
  · have hx := List.getElem?_eq_getElem (show T.length - 1 < T.length by omega)
    have := (faultD_zero hx (madeD_all h _ (by omega))).lt
    omega

end Go.Proofs.Ytjccomjgmejnhaa
