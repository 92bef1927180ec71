/-
  The contract of types.checkFields: what the plain function 'scanD' says of the fields above and of a class's own. The own names lie in a map of the call's own. All that lay lies unturned.
-/
import Derived.Test.YtjccomjgmejnhaaKChkS
import Derived.Maps.Own
import Derived.Maps.OwnOps
import Derived.Maps.OwnSet
import Derived.Maps.Views
import Derived.StringKeys
namespace Go.Proofs.Ytjccomjgmejnhaa
open Go.RowKit Go.Maps Go.WideMaps

theorem lawS : Keyed Try.prog 9 := string_keyed Try.underlying9
theorem zeroI (w : World) : (zeroValue 3).run Try.prog w = .ok (.int .i64 0) w := by kernel_rfl

/-- The map holds the names of these fields and no other. -/
def Taken (D : DataW Unit) (L : List Fl) : Prop := ∀ s : ByteArray, Maps.has D (.string s.data.toList) = hasD L s

theorem taken_nil : Taken (.map []) [] := fun _ => rfl

theorem same_text (x s : ByteArray) : (x.toList == s.toList) = decide (x.data.toList = s.data.toList) := by
  rw [ByteArray.toList_eq, ByteArray.toList_eq]
  by_cases h : x.data.toList = s.data.toList
  · rw [decide_eq_true h, h]; simp
  · rw [decide_eq_false h]; simpa using h

theorem Taken.put {D : DataW Unit} {L : List Fl} (h : Taken D L) (hD : IsMap D) (f : Fl) (d : DataW Unit) : Taken (D.put (.string f.nm.data.toList) d) (L ++ [f]) := fun s => by
  have e : hasD (L ++ [f]) s = (hasD L s || decide (f.nm.data.toList = s.data.toList)) := by
    unfold hasD; rw [List.any_append]; simp [same_text]
  rw [e]
  by_cases h1 : f.nm.data.toList = s.data.toList
  · rw [← h1, has_put_same hD (show WideAt.IsKeyLit (.string f.nm.data.toList) from trivial), decide_eq_true rfl, Bool.or_true]
  · rw [has_put_other (by intro h2; injection h2 with h2; exact h1 h2.symm), h s, decide_eq_false h1, Bool.or_false]

theorem grown_ofB {w w' : World} (h : Below w.heap.size w w') : w.grownBy w' none := ⟨h.os, h.tape, h.output, h.size, fun k hk _ => h.block k hk⟩
end Go.Proofs.Ytjccomjgmejnhaa
