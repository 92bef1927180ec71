/-
  The closed facts of the law ModuleDecodes's row, each a lemma of its own. No condition.
-/
import Derived.Test.YtibgfdjopikafaaGreatDoorShell
import Derived.Test.YtibgfdjopikafaaGreatDoorTie
import Derived.Test.YtibgfdjopikafaaGreatDoorCards
import Derived.SevenTiedAt
namespace Go.Proofs.YtibgfdjopikafaaGreatDoor
open Go.ChangeShapes Go.WideShapes Go.ChangeAt Go.RowKit

theorem both_moduleDecodes {a b : Bool} (h : a = true) (k : b = true) : (a && b) = true := by rw [h, k]; rfl
set_option maxHeartbeats 8000000 in
theorem joined_moduleDecodes : joinedFacts Tryz.prog 4 Tryz.f4 Rows.moduleDecodesSpec Rows.moduleDecodesRow = true := by
  unfold joinedFacts
  repeat' (with_reducible refine both_moduleDecodes ?_ ?_)
  all_goals (as_aux_lemma => kernel_rfl)
theorem named_moduleDecodes : Tryz.pinned.checked.prog.funcNamed Rows.moduleDecodesRow.func = some 4 := by kernel_rfl
theorem instance_moduleDecodes : Tryz.f4.isInstance Tryz.pinned.checked.prog Rows.moduleDecodesRow.origin Rows.moduleDecodesRow.targs := of_decide_eq_true (by kernel_rfl)
theorem wrapper_moduleDecodes : Tryz.f4.isWrapper Tryz.pinned.checked.prog Rows.moduleDecodesRow.wrapper Rows.moduleDecodesRow.mainSum := by unfold Func.isWrapper; first | (rw [if_pos (by decide +kernel)]; kernel_rfl) | (rw [if_neg (by decide +kernel)]; exact ⟨rfl, rfl⟩)
end Go.Proofs.YtibgfdjopikafaaGreatDoor
