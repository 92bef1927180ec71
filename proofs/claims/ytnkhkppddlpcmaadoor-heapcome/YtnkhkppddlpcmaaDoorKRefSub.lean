/-
  Contracts of provisoref02's IsRef, Sub, Rank, all, Merge and Print: what the plain functions say; nothing old is turned. Conditions: types are bytes; the table may be.
-/
import Derived.Test.YtnkhkppddlpcmaaDoorKStaysP
import Derived.Test.YtnkhkppddlpcmaaDoorKWords
namespace Go.Proofs.YtnkhkppddlpcmaaDoor
open Go.RowKit
set_option maxRecDepth 20000

theorem refIsRef_any (t : Nat) (w : World) :
    Calls Tryd.prog 32 #[.int .u8 (t : Int)] w fun e w' => e = .returned (.bool (isRefD t)) ∧ w' = w := by
  by_cases h3 : t = 3
  · have HR : Hid (isRefD t = true) := hide (decide_eq_true (.inl h3))
    have b3 : (((t : Nat) : Int) == 3) = true := beq_t (by omega)
    clear h3
    go_enter Tryd.func32, Tryd.ntmps32
    go_wp2
    go_ret
    exact ⟨ret_bool (unhide HR).symm, rfl⟩
  · have b3 : (((t : Nat) : Int) == 3) = false := beq_f (by omega)
    by_cases h4 : t = 4
    · have HR : Hid (isRefD t = true) := hide (decide_eq_true (.inr (.inl h4)))
      have b4 : (((t : Nat) : Int) == 4) = true := beq_t (by omega)
      clear h3 h4
      go_enter Tryd.func32, Tryd.ntmps32
      go_wp2
      go_ret
      exact ⟨ret_bool (unhide HR).symm, rfl⟩
    · have b4 : (((t : Nat) : Int) == 4) = false := beq_f (by omega)
      by_cases h5 : t = 5
      · have HR : Hid (isRefD t = true) := hide (decide_eq_true (.inr (.inr (.inl h5))))
        have b5 : (((t : Nat) : Int) == 5) = true := beq_t (by omega)
        clear h3 h4 h5
        go_enter Tryd.func32, Tryd.ntmps32
        go_wp2
        go_ret
        exact ⟨ret_bool (unhide HR).symm, rfl⟩
      · have b5 : (((t : Nat) : Int) == 5) = false := beq_f (by omega)
        have HR : Hid (isRefD t = decide (((t : Nat) : Int) ≥ 16)) := hide (by unfold isRefD; rw [decide_eq_decide]; omega)
        clear h3 h4 h5
        go_enter Tryd.func32, Tryd.ntmps32
        go_wp2
        go_ret
        refine ⟨ret_bool ?_, rfl⟩
        rw [unhide HR]


theorem isRefD_t {t : Nat} (h : t = 3 ∨ t = 4 ∨ t = 5 ∨ 16 ≤ t) : isRefD t = true := decide_eq_true h
theorem isRefD_f {t : Nat} (h : ¬ (t = 3 ∨ t = 4 ∨ t = 5 ∨ 16 ≤ t)) : isRefD t = false := decide_eq_false h
theorem subD_f {T : List Cl} {a b : Nat} (h : ¬ Le T a b) : subD T a b = false := by
  cases hs : subD T a b with
  | false => rfl
  | true => exact absurd (subD_iff.1 hs) h
theorem validD_f {n t : Nat} (h : validD n t = false) : ¬ (t ≤ 5 ∨ (16 ≤ t ∧ t - 16 < n)) := fun h' => by rw [validD_iff.2 h'] at h; cases h

theorem contains_take {L : List Nat} {k y : Nat} (h : k < L.length) : (L.take (k + 1)).contains y = ((L.take k).contains y || (y == L[k])) := by
  rw [List.contains_eq_any_beq, List.contains_eq_any_beq, ← List.take_append_getElem h, List.any_append]
  simp

theorem made_32 {T : List Cl} (h : madeD T = true) : T.length ≤ 32 := by
  by_cases h0 : T.length = 0
  · omega
  · have hx := List.getElem?_eq_getElem (show T.length - 1 < T.length by omega)
    have := (faultD_zero hx (madeD_all h _ (by omega))).lt
    omega

end Go.Proofs.YtnkhkppddlpcmaaDoor
