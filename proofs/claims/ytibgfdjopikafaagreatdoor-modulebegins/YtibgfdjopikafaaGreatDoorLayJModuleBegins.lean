/-
  The closed facts of the law ModuleBegins's row, each a lemma of its own. No condition.
-/
import Derived.Test.YtibgfdjopikafaaGreatDoorShell
import Derived.Test.YtibgfdjopikafaaGreatDoorTie
import Derived.Test.YtibgfdjopikafaaGreatDoorCards
import Derived.SevenTiedAt
namespace Go.Proofs.YtibgfdjopikafaaGreatDoor
open Go.ChangeShapes Go.WideShapes Go.ChangeAt Go.RowKit

theorem both_moduleBegins {a b : Bool} (h : a = true) (k : b = true) : (a && b) = true := by rw [h, k]; rfl
set_option maxHeartbeats 8000000 in
theorem joined_moduleBegins : joinedFacts Tryz.prog 8 Tryz.f8 Rows.moduleBeginsSpec Rows.moduleBeginsRow = true := by
  unfold joinedFacts
  repeat' (with_reducible refine both_moduleBegins ?_ ?_)
  all_goals (as_aux_lemma => kernel_rfl)
theorem named_moduleBegins : Tryz.pinned.checked.prog.funcNamed Rows.moduleBeginsRow.func = some 8 := by kernel_rfl
theorem instance_moduleBegins : Tryz.f8.isInstance Tryz.pinned.checked.prog Rows.moduleBeginsRow.origin Rows.moduleBeginsRow.targs := of_decide_eq_true (by kernel_rfl)
theorem wrapper_moduleBegins : Tryz.f8.isWrapper Tryz.pinned.checked.prog Rows.moduleBeginsRow.wrapper Rows.moduleBeginsRow.mainSum := by unfold Func.isWrapper; first | (rw [if_pos (by decide +kernel)]; kernel_rfl) | (rw [if_neg (by decide +kernel)]; exact ⟨rfl, rfl⟩)
end Go.Proofs.YtibgfdjopikafaaGreatDoor
