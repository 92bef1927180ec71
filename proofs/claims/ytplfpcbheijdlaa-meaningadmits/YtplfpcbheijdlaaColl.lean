/-
  Contracts of slices.AppendSeq and slices.Collect at the sequence that types.line makes: the line, in new memory. Conditions: the table fits.
-/
import Derived.Test.YtplfpcbheijdlaaRank
import Derived.Maps.AppendAt
namespace Go.Proofs.Ytplfpcbheijdlaa
open Go.RowKit Go.Shelf
attribute [local go_sem] Oper.semAt_some

theorem ivals_append (l m : List Nat) : ivals (l ++ m) = ivals l ++ ivals m := by unfold ivals; simp
theorem ivals_length (l : List Nat) : (ivals l).length = l.length := by unfold ivals; simp

end Go.Proofs.Ytplfpcbheijdlaa
