/-
  The closed facts of the law CardNone's row, each a lemma of its own. No condition.
-/
import Derived.Test.YtkiijdcpfbnacaaGreatDoorShell
import Derived.Test.YtkiijdcpfbnacaaGreatDoorTie
import Derived.Test.YtkiijdcpfbnacaaGreatDoorCards
import Derived.SevenTiedAt
namespace Go.Proofs.YtkiijdcpfbnacaaGreatDoor
open Go.ChangeShapes Go.WideShapes Go.ChangeAt Go.RowKit

theorem both_cardNone {a b : Bool} (h : a = true) (k : b = true) : (a && b) = true := by rw [h, k]; rfl
set_option maxHeartbeats 8000000 in
theorem joined_cardNone : joinedFacts Tryz.prog 3 Tryz.f3 Rows.cardNoneSpec Rows.cardNoneRow = true := by
  unfold joinedFacts
  repeat' (with_reducible refine both_cardNone ?_ ?_)
  all_goals (as_aux_lemma => kernel_rfl)
theorem named_cardNone : Tryz.pinned.checked.prog.funcNamed Rows.cardNoneRow.func = some 3 := by kernel_rfl
theorem instance_cardNone : Tryz.f3.isInstance Tryz.pinned.checked.prog Rows.cardNoneRow.origin Rows.cardNoneRow.targs := of_decide_eq_true (by kernel_rfl)
theorem wrapper_cardNone : Tryz.f3.isWrapper Tryz.pinned.checked.prog Rows.cardNoneRow.wrapper Rows.cardNoneRow.mainSum := by unfold Func.isWrapper; first | (rw [if_pos (by decide +kernel)]; kernel_rfl) | (rw [if_neg (by decide +kernel)]; exact ⟨rfl, rfl⟩)
end Go.Proofs.YtkiijdcpfbnacaaGreatDoor
