/-
  Contracts of slices.AppendSeq and slices.Collect at the sequence that types.line makes: the line, in new memory. Conditions: the table fits.
-/
import Derived.Test.YtkgnohjmfnignaaDoorRank
import Derived.Maps.AppendAt
namespace Go.Proofs.YtkgnohjmfnignaaDoor
open Go.RowKit Go.Shelf
set_option maxRecDepth 20000
attribute [local go_sem] Oper.semAt_some

theorem ivals_append (l m : List Nat) : ivals (l ++ m) = ivals l ++ ivals m := by unfold ivals; simp
theorem ivals_length (l : List Nat) : (ivals l).length = l.length := by unfold ivals; simp

end Go.Proofs.YtkgnohjmfnignaaDoor
