/-
  The closed facts of the law ModuleTurned's row, each a lemma of its own. No condition.
-/
import Derived.Test.YtibgfdjopikafaaGreatDoorShell
import Derived.Test.YtibgfdjopikafaaGreatDoorTie
import Derived.Test.YtibgfdjopikafaaGreatDoorCards
import Derived.SevenTiedAt
namespace Go.Proofs.YtibgfdjopikafaaGreatDoor
open Go.ChangeShapes Go.WideShapes Go.ChangeAt Go.RowKit

theorem both_moduleTurned {a b : Bool} (h : a = true) (k : b = true) : (a && b) = true := by rw [h, k]; rfl
set_option maxHeartbeats 8000000 in
theorem joined_moduleTurned : joinedFacts Tryz.prog 7 Tryz.f7 Rows.moduleTurnedSpec Rows.moduleTurnedRow = true := by
  unfold joinedFacts
  repeat' (with_reducible refine both_moduleTurned ?_ ?_)
  all_goals (as_aux_lemma => kernel_rfl)
theorem named_moduleTurned : Tryz.pinned.checked.prog.funcNamed Rows.moduleTurnedRow.func = some 7 := by kernel_rfl
theorem instance_moduleTurned : Tryz.f7.isInstance Tryz.pinned.checked.prog Rows.moduleTurnedRow.origin Rows.moduleTurnedRow.targs := of_decide_eq_true (by kernel_rfl)
theorem wrapper_moduleTurned : Tryz.f7.isWrapper Tryz.pinned.checked.prog Rows.moduleTurnedRow.wrapper Rows.moduleTurnedRow.mainSum := by unfold Func.isWrapper; first | (rw [if_pos (by decide +kernel)]; kernel_rfl) | (rw [if_neg (by decide +kernel)]; exact ⟨rfl, rfl⟩)
end Go.Proofs.YtibgfdjopikafaaGreatDoor
