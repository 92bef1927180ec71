/-
  The closed facts of the law ModuleBack's row, each a lemma of its own. No condition.
-/
import Derived.Test.YtibgfdjopikafaaGreatDoorShell
import Derived.Test.YtibgfdjopikafaaGreatDoorTie
import Derived.Test.YtibgfdjopikafaaGreatDoorCards
import Derived.SevenTiedAt
namespace Go.Proofs.YtibgfdjopikafaaGreatDoor
open Go.ChangeShapes Go.WideShapes Go.ChangeAt Go.RowKit

theorem both_moduleBack {a b : Bool} (h : a = true) (k : b = true) : (a && b) = true := by rw [h, k]; rfl
set_option maxHeartbeats 8000000 in
theorem joined_moduleBack : joinedFacts Tryz.prog 5 Tryz.f5 Rows.moduleBackSpec Rows.moduleBackRow = true := by
  unfold joinedFacts
  repeat' (with_reducible refine both_moduleBack ?_ ?_)
  all_goals (as_aux_lemma => kernel_rfl)
theorem named_moduleBack : Tryz.pinned.checked.prog.funcNamed Rows.moduleBackRow.func = some 5 := by kernel_rfl
theorem instance_moduleBack : Tryz.f5.isInstance Tryz.pinned.checked.prog Rows.moduleBackRow.origin Rows.moduleBackRow.targs := of_decide_eq_true (by kernel_rfl)
theorem wrapper_moduleBack : Tryz.f5.isWrapper Tryz.pinned.checked.prog Rows.moduleBackRow.wrapper Rows.moduleBackRow.mainSum := by unfold Func.isWrapper; first | (rw [if_pos (by decide +kernel)]; kernel_rfl) | (rw [if_neg (by decide +kernel)]; exact ⟨rfl, rfl⟩)
end Go.Proofs.YtibgfdjopikafaaGreatDoor
