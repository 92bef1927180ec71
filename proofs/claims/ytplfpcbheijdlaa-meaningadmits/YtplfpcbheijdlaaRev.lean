/-
  The contract of slices.Reverse at a row of numbers of one's own: the numbers from behind, in the same block. Conditions: the row's own.
-/
import Derived.Test.YtplfpcbheijdlaaColl
namespace Go.Proofs.Ytplfpcbheijdlaa
open Go.RowKit

theorem OwnI.store {w : World} {B g n cap : Nat} {l : List Nat} (h : OwnI w B (.slice (some ⟨g, 0, none⟩) n cap) l) (hn : l.length = n) (k : Nat) (y : Nat) :
    OwnI (w.setCell ⟨g, k, none⟩ (.int .i64 (y : Int))) B (.slice (some ⟨g, 0, none⟩) n cap) (l.set k y) ∧ w.grownBy (w.setCell ⟨g, k, none⟩ (.int .i64 (y : Int))) (some g) := by
  subst hn
  have := World.ownsRow.stored h k (.int .i64 (y : Int))
  refine ⟨?_, this.2⟩
  unfold OwnI
  rw [List.length_set]
  have e : ivals (l.set k y) = (ivals l).set k (.int .i64 (y : Int)) := by unfold ivals; rw [List.map_set]
  rw [e]
  exact this.1

theorem grownBy_trans' {a b c : World} {row : Option Nat} (h : a.grownBy b row) (k : b.grownBy c row) : a.grownBy c row :=
  ⟨k.os.trans h.os, k.tape.trans h.tape, k.output.trans h.output, Nat.le_trans h.size k.size, fun i hi hne => (k.block i (Nat.lt_of_lt_of_le hi h.size) hne).trans (h.block i hi hne)⟩

/-- So far it is turned: ahead of i and behind j. -/
def Half (l m : List Nat) (i : Nat) (j : Int) : Prop := m.length = l.length ∧ ∀ q : Nat, q < l.length → m[q]? = if q < i ∨ j < (q : Int) then l[l.length - 1 - q]? else l[q]?

theorem Half.swap {l m : List Nat} {i j : Nat} (h : Half l m i j) (hij : i < j) (hs : i + j + 1 = l.length) {x y : Nat} (hx : m[i]? = some x) (hy : m[j]? = some y) : Half l ((m.set i y).set j x) (i + 1) ((j : Int) - 1) := by
  obtain ⟨hl, hq⟩ := h
  refine ⟨by simp [hl], fun q hqn => ?_⟩
  by_cases e1 : q = j
  · subst e1
    rw [List.getElem?_set_self (by simp; omega), if_pos (by omega)]
    have := hq i (by omega)
    rw [if_neg (by omega), hx] at this
    rw [this]
    congr 1
    omega
  · rw [List.getElem?_set_ne (fun h => e1 h.symm)]
    by_cases e2 : q = i
    · subst e2
      rw [List.getElem?_set_self (by omega), if_pos (by omega)]
      have := hq j (by omega)
      rw [if_neg (by omega), hy] at this
      rw [this]
      congr 1
      omega
    · rw [List.getElem?_set_ne (fun h => e2 h.symm), hq q hqn]
      by_cases e3 : q < i ∨ (j : Int) < (q : Int)
      · rw [if_pos e3, if_pos (by omega)]
      · rw [if_neg e3, if_neg (by omega)]
theorem Half.done {l m : List Nat} {i : Nat} {j : Int} (h : Half l m i j) (hij : ¬ (i : Int) < j) (hs : (i : Int) + j + 1 = l.length) : m = l.reverse := by
  obtain ⟨hl, hq⟩ := h
  apply List.ext_getElem?
  intro q
  by_cases hqn : q < l.length
  · rw [hq q hqn, List.getElem?_reverse hqn]
    by_cases e : q < i ∨ j < (q : Int)
    · rw [if_pos e]
    · rw [if_neg e]
      congr 1
      omega
  · rw [List.getElem?_eq_none (by omega), List.getElem?_eq_none (by simp; omega)]

end Go.Proofs.Ytplfpcbheijdlaa
