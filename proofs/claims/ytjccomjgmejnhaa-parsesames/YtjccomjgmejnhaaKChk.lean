/-
  Contracts of types.isStored and types.isWord: what the plain functions 'storedD' and 'isWordD' say, in the same world.
-/
import Derived.Test.YtjccomjgmejnhaaKRefFind
import Derived.Test.YtjccomjgmejnhaaWnT
namespace Go.Proofs.Ytjccomjgmejnhaa
open Go.RowKit

theorem tabNil (w : World) : TabAt w none [] := fun i x hx => by simp at hx

theorem parse_nil (s : ByteArray) : (parseD six [] s).2 = isWordD s := by
  have hr : List.range 6 = [0, 1, 2, 3, 4, 5] := by decide
  unfold parseD six isWordD
  rw [hr]
  cases h0 : ((wordD 0).toList == s.toList) <;> cases h1 : ((wordD 1).toList == s.toList) <;> cases h2 : ((wordD 2).toList == s.toList) <;> cases h3 : ((wordD 3).toList == s.toList) <;> cases h4 : ((wordD 4).toList == s.toList) <;> cases h5 : ((wordD 5).toList == s.toList) <;> simp [findN, h0, h1, h2, h3, h4, h5]

end Go.Proofs.Ytjccomjgmejnhaa
