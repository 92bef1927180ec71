/-
  The closed facts of the law ModuleForm's row, each a lemma of its own. No condition.
-/
import Derived.Test.YtibgfdjopikafaaGreatDoorShell
import Derived.Test.YtibgfdjopikafaaGreatDoorTie
import Derived.Test.YtibgfdjopikafaaGreatDoorCards
import Derived.SevenTiedAt
namespace Go.Proofs.YtibgfdjopikafaaGreatDoor
open Go.ChangeShapes Go.WideShapes Go.ChangeAt Go.RowKit

theorem both_moduleForm {a b : Bool} (h : a = true) (k : b = true) : (a && b) = true := by rw [h, k]; rfl
set_option maxHeartbeats 8000000 in
theorem joined_moduleForm : joinedFacts Tryz.prog 6 Tryz.f6 Rows.moduleFormSpec Rows.moduleFormRow = true := by
  unfold joinedFacts
  repeat' (with_reducible refine both_moduleForm ?_ ?_)
  all_goals (as_aux_lemma => kernel_rfl)
theorem named_moduleForm : Tryz.pinned.checked.prog.funcNamed Rows.moduleFormRow.func = some 6 := by kernel_rfl
theorem instance_moduleForm : Tryz.f6.isInstance Tryz.pinned.checked.prog Rows.moduleFormRow.origin Rows.moduleFormRow.targs := of_decide_eq_true (by kernel_rfl)
theorem wrapper_moduleForm : Tryz.f6.isWrapper Tryz.pinned.checked.prog Rows.moduleFormRow.wrapper Rows.moduleFormRow.mainSum := by unfold Func.isWrapper; first | (rw [if_pos (by decide +kernel)]; kernel_rfl) | (rw [if_neg (by decide +kernel)]; exact ⟨rfl, rfl⟩)
end Go.Proofs.YtibgfdjopikafaaGreatDoor
