/-
  Contracts of types.line and of the function that it makes: a class, its parent, and so on, while parents stand ahead. Conditions: the table fits; of a round, that it leaves the table and the box that holds it.
-/
import Derived.Test.YtplfpcbheijdlaaT02b
import Derived.RangeFuncNested
import Derived.RangeFuncBound
import Derived.RangeFuncCalls
import Derived.RangeFuncLeaves
import Derived.Shelf.Abstract
import Derived.Shelf.RegionOpen
import Derived.WalkKit
import Derived.OwnWalkIn
import Derived.TacticsInMore
import Derived.LoopNIn
import Derived.LoopIn
import Derived.RangeFuncFrom
import Derived.Sort.QuietIn
namespace Go.Proofs.Ytplfpcbheijdlaa
open Go.RowKit Go.Shelf
attribute [local go_sem] Oper.semAt_some

/-- The line of a class, while each one stands ahead of the one before. -/
def lineB (T : List Cl) (bel : Nat) (at_ : Int) : List Nat :=
  if _h : 0 ≤ at_ ∧ at_ < (bel : Int) then at_.toNat :: lineB T at_.toNat (parD T at_.toNat) else []
termination_by bel
decreasing_by omega

theorem lineB_in {T : List Cl} {bel k : Nat} (h : k < bel) : lineB T bel (k : Int) = k :: lineB T k (parD T k) := by
  rw [lineB, dif_pos (by omega)]
  simp
theorem lineB_out {T : List Cl} {bel : Nat} {c : Int} (h : ¬ (0 ≤ c ∧ c < (bel : Int))) : lineB T bel c = [] := by
  rw [lineB, dif_neg h]

/-- What a round that goes on keeps. -/
def KeepsL (n₀ Bl : Nat) (W W' : World) : Prop := Below n₀ W W' ∧ W'.heap[Bl]? = W.heap[Bl]?
theorem keepsL_t {n₀ Bl : Nat} {A B C : World} (h : KeepsL n₀ Bl A B) (k : KeepsL n₀ Bl B C) : KeepsL n₀ Bl A C := ⟨h.1.trans k.1, k.2.trans h.2⟩
theorem keepsL_b {n₀ Bl : Nat} {w : World} (hn : n₀ ≤ w.heap.size) (hl : Bl < w.heap.size) (W : World) (l : Nat) (o o' : Obj) (hw : w.heap.size ≤ l) (h : W.heap[l]? = some o) (h1 : o.isCells = false) (h2 : o.isWalk = false) : KeepsL n₀ Bl W (W.putObj l o') := by
  refine ⟨belowK_b hn W l o o' hw h h1 h2, ?_⟩
  have := (grownBy_putObj' W l o').block Bl (by have := (Array.getElem?_eq_some_iff.1 h).1; omega) (fun e => by injection e with e; omega)
  exact this

end Go.Proofs.Ytplfpcbheijdlaa
