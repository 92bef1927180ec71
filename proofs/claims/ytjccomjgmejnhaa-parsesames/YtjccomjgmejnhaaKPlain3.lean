/-
  provisoplain.Classes once more, with the copy's room; and that a table and its copy have the same faults.
-/
import Derived.Test.YtjccomjgmejnhaaKSameT
import Derived.Test.YtjccomjgmejnhaaKChkA
namespace Go.Proofs.Ytjccomjgmejnhaa
open Go.RowKit

theorem lineR_congr {T G : List Cl} (h : ∀ c, parD G c = parD T c) (hl : G.length = T.length) : ∀ (k : Nat) (c : Int), lineR G k c = lineR T k c
  | 0, c => rfl
  | k + 1, c => by
    unfold lineR
    rw [hl, h, lineR_congr h hl k]
theorem SameT.fieldsD {T G : List Cl} (h : SameT T G) (c : Int) : fieldsD G c = fieldsD T c := by
  unfold Proofs.Ytjccomjgmejnhaa.fieldsD lineD
  rw [h.1, lineR_congr h.par h.1]
  congr 1
  funext k
  exact h.fsd k
theorem SameT.twice {T G : List Cl} (h : SameT T G) (c : Nat) (s : ByteArray) : twiceD G c s = twiceD T c s := by
  have e : ∀ L : List Cl, twiceD L c s = ((L.map Cl.nm).take c).any (fun y => y.toList == s.toList) := fun L => by
    unfold twiceD
    rw [← List.map_take, List.any_map]
    rfl
  rw [e, e, h.names]
theorem SameT.fault {T G : List Cl} (h : SameT T G) (c : Nat) : faultD G c = faultD T c := by
  unfold faultD
  by_cases hc : c < T.length
  · have hx := List.getElem?_eq_getElem hc
    have hy := List.getElem?_eq_getElem (show c < G.length by have := h.1; omega)
    have hs := h.2 c _ _ hx hy
    rw [hx, hy]
    simp only
    rw [hs.nm, hs.par, hs.fs, h.twice, h.fieldsD, h.1]
  · rw [List.getElem?_eq_none (show T.length ≤ c by omega), List.getElem?_eq_none (show G.length ≤ c by have := h.1; omega)]

/-- The first fault is one, in a table and its copy. -/
theorem first_one {T G : List Cl} (h : SameT T G) {n m : Nat} {e why : Int} (h1 : (n = 0 ∧ e = 0 ∧ madeD G = true) ∨ IsFirst G n e) (h2 : (m = 0 ∧ why = 0 ∧ madeD T = true) ∨ IsFirst T m why) : n = m ∧ e = why := by
  have hl := h.1
  rcases h1 with ⟨a1, a2, a3⟩ | ⟨a1, a2, a3, a4⟩ <;> rcases h2 with ⟨b1, b2, b3⟩ | ⟨b1, b2, b3, b4⟩
  · omega
  · have := madeD_all a3 m (by omega)
    rw [h.fault] at this
    omega
  · have := madeD_all b3 n (by omega)
    rw [← h.fault] at this
    omega
  · have hnm : n = m := by
      rcases Nat.lt_trichotomy n m with g | g | g
      · have := b1 n g
        rw [← h.fault] at this
        omega
      · exact g
      · have := a1 m g
        rw [h.fault] at this
        omega
    refine ⟨hnm, ?_⟩
    rw [h.fault, hnm] at a4
    omega
end Go.Proofs.Ytjccomjgmejnhaa
