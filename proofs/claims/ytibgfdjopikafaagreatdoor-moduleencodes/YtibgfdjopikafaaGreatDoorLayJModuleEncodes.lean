/-
  The closed facts of the law ModuleEncodes's row, each a lemma of its own. No condition.
-/
import Derived.Test.YtibgfdjopikafaaGreatDoorShell
import Derived.Test.YtibgfdjopikafaaGreatDoorTie
import Derived.Test.YtibgfdjopikafaaGreatDoorCards
import Derived.SevenTiedAt
namespace Go.Proofs.YtibgfdjopikafaaGreatDoor
open Go.ChangeShapes Go.WideShapes Go.ChangeAt Go.RowKit

theorem both_moduleEncodes {a b : Bool} (h : a = true) (k : b = true) : (a && b) = true := by rw [h, k]; rfl
set_option maxHeartbeats 8000000 in
theorem joined_moduleEncodes : joinedFacts Tryz.prog 3 Tryz.f3 Rows.moduleEncodesSpec Rows.moduleEncodesRow = true := by
  unfold joinedFacts
  repeat' (with_reducible refine both_moduleEncodes ?_ ?_)
  all_goals (as_aux_lemma => kernel_rfl)
theorem named_moduleEncodes : Tryz.pinned.checked.prog.funcNamed Rows.moduleEncodesRow.func = some 3 := by kernel_rfl
theorem instance_moduleEncodes : Tryz.f3.isInstance Tryz.pinned.checked.prog Rows.moduleEncodesRow.origin Rows.moduleEncodesRow.targs := of_decide_eq_true (by kernel_rfl)
theorem wrapper_moduleEncodes : Tryz.f3.isWrapper Tryz.pinned.checked.prog Rows.moduleEncodesRow.wrapper Rows.moduleEncodesRow.mainSum := by unfold Func.isWrapper; first | (rw [if_pos (by decide +kernel)]; kernel_rfl) | (rw [if_neg (by decide +kernel)]; exact ⟨rfl, rfl⟩)
end Go.Proofs.YtibgfdjopikafaaGreatDoor
