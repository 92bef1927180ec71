/-
  Contracts of types.lineHas, lineSize and of what they call: whether a field of a name stands along a class's line, and how many fields stand there. All that lay lies unturned.
-/
import Derived.Test.YtjccomjgmejnhaaKHas
import Derived.Test.YtjccomjgmejnhaaKFieldsT
namespace Go.Proofs.Ytjccomjgmejnhaa
open Go.RowKit Go.Shelf
attribute [local go_sem] Oper.semAt_some

theorem hasD_app (A L : List Fl) (s : ByteArray) : hasD (A ++ L) s = (hasD A s || hasD L s) := by unfold hasD; rw [List.any_append]
theorem hasD_take {O : List Fl} {k : Nat} (s : ByteArray) (hk : k < O.length) : hasD (O.take (k + 1)) s = (hasD (O.take k) s || (O[k].nm.toList == s.toList)) := by
  rw [← List.take_append_getElem hk, hasD_app]
  simp [hasD]
theorem keeps_below {W W' : World} (h : Below W.heap.size W W') : KeepsOthers W W' := ⟨h.size, fun k _ hk _ => (h.block k (Array.getElem?_eq_some_iff.1 hk).1).trans hk⟩
theorem hasD_found2 {O : List Fl} {k : Nat} (s : ByteArray) (hk : k < O.length) (h : (O[k].nm.toList == s.toList) = true) : hasD O s = true := by
  unfold hasD
  rw [List.any_eq_true]
  exact ⟨O[k], List.getElem_mem hk, h⟩

/-- Whether a field of that name stands along a line; how many stand there. -/
def lineHasD (T : List Cl) (c : Int) (s : ByteArray) : Bool := (lineB T T.length c).any fun k => hasD (fsD T k) s
theorem lineHas_fields (T : List Cl) (c : Int) (s : ByteArray) : hasD (fieldsB T c) s = lineHasD T c s := by
  unfold fieldsB lineHasD hasD
  rw [List.any_flatMap, List.any_reverse]
theorem lineHasD_yes {T : List Cl} {c : Int} {s : ByteArray} {pre : List Nat} {x : Nat} (hp : pre <+: lineB T T.length c) (hx : x ∈ pre) (e : hasD (fsD T x) s = true) : lineHasD T c s = true := by
  unfold lineHasD
  rw [List.any_eq_true]
  exact ⟨x, hp.subset hx, e⟩
theorem lineHasD_no {T : List Cl} {c : Int} {s : ByteArray} (h : ∀ x ∈ lineB T T.length c, hasD (fsD T x) s = false) : lineHasD T c s = false := by
  unfold lineHasD
  rw [List.any_eq_false]
  intro x hx
  rw [h x hx]
  simp

end Go.Proofs.Ytjccomjgmejnhaa
