/-
  The walk of the law LexLines: it returns true for every text and place, and writes nothing that was there.
-/
import Derived.Test.YtkmfpcfnmnchgaaLl1
namespace Go.Proofs.Ytkmfpcfnmnchgaa
open Go.RowKit

theorem walkLexLines {w : World} (s : ByteArray) (_hs : s.size ≤ maxLen) (hz : s.size ≤ 140737488351232) (p : Int) (_hp : (Lit.int .i64 p).wf = true) :
    Calls Try.prog 3 #[.string s, .int .i64 p] w fun e w' => e = .returned (.bool true) ∧ Below w.heap.size w w' := by
  have H1 := hide (fun W => Line_any s p W hz)
  have H2 := hide (fun W => refLine_any s p W hz)
  generalize liD s (kL s p) = R at H1 H2
  obtain ⟨a, b⟩ := R
  simp only at H1 H2
  have b1 : (a == a) = true := beq_iff_eq.2 rfl
  have b2 : (b == b) = true := beq_iff_eq.2 rfl
  go_enter Try.func3, Try.ntmps3
  go_wp2_with fail
  refine (unhide H1 w).mono ?_
  rintro e w1 ⟨rfl, hw1⟩
  subst hw1
  go_wp2_with fail
  refine (unhide H2 w1).mono ?_
  rintro e w2 ⟨rfl, hw2⟩
  subst hw2
  go_wp2
  go_ret
  exact ⟨rfl, Below.refl _ _⟩
end Go.Proofs.Ytkmfpcfnmnchgaa
