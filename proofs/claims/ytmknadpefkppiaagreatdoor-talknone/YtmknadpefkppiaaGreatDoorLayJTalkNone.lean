/-
  The closed facts of the law TalkNone's row, each a lemma of its own. No condition.
-/
import Derived.Test.YtmknadpefkppiaaGreatDoorShell
import Derived.Test.YtmknadpefkppiaaGreatDoorTie
import Derived.Test.YtmknadpefkppiaaGreatDoorCards
import Derived.SevenTiedAt
namespace Go.Proofs.YtmknadpefkppiaaGreatDoor
open Go.ChangeShapes Go.WideShapes Go.ChangeAt Go.RowKit

theorem both_talkNone {a b : Bool} (h : a = true) (k : b = true) : (a && b) = true := by rw [h, k]; rfl
set_option maxHeartbeats 8000000 in
theorem joined_talkNone : joinedFacts Tryz.prog 3 Tryz.f3 Rows.talkNoneSpec Rows.talkNoneRow = true := by
  unfold joinedFacts
  repeat' (with_reducible refine both_talkNone ?_ ?_)
  all_goals (as_aux_lemma => kernel_rfl)
theorem named_talkNone : Tryz.pinned.checked.prog.funcNamed Rows.talkNoneRow.func = some 3 := by kernel_rfl
theorem instance_talkNone : Tryz.f3.isInstance Tryz.pinned.checked.prog Rows.talkNoneRow.origin Rows.talkNoneRow.targs := of_decide_eq_true (by kernel_rfl)
theorem wrapper_talkNone : Tryz.f3.isWrapper Tryz.pinned.checked.prog Rows.talkNoneRow.wrapper Rows.talkNoneRow.mainSum := by unfold Func.isWrapper; first | (rw [if_pos (by decide +kernel)]; kernel_rfl) | (rw [if_neg (by decide +kernel)]; exact ⟨rfl, rfl⟩)
end Go.Proofs.YtmknadpefkppiaaGreatDoor
