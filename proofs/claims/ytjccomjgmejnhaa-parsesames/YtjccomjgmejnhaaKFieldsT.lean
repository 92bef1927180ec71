/-
  Contracts of types.Fields and Find: the fields along the line, the parents' ahead, in new memory; the first one of a name. Conditions: the table fits, and there are at most a million fields.
-/
import Derived.Test.YtjccomjgmejnhaaJTY
import Derived.Test.YtjccomjgmejnhaaKT02c
namespace Go.Proofs.Ytjccomjgmejnhaa
open Go.RowKit Go.Shelf

def fieldsB (T : List Cl) (c : Int) : List Fl := (lineB T T.length c).reverse.flatMap (fsD T)

theorem flat_take {α : Type} (f : Nat → List α) (R : List Nat) (j : Nat) (hj : j < R.length) : (R.take (j + 1)).flatMap f = (R.take j).flatMap f ++ f R[j] := by
  rw [← List.take_append_getElem hj, List.flatMap_append]
  simp
theorem flat_take_le {α : Type} (f : Nat → List α) (R : List Nat) (j : Nat) : ((R.take j).flatMap f).length ≤ (R.flatMap f).length := by
  conv => rhs; rw [← List.take_append_drop j R]
  rw [List.flatMap_append, List.length_append]
  omega

theorem fieldsB_ok {W : World} {ao : Option Addr} {T : List Cl} (h : TabAt W ao T) (c : Int) : ∀ f ∈ fieldsB T c, FlOk f := by
  intro f hf
  unfold fieldsB at hf
  obtain ⟨k, _, hk⟩ := List.mem_flatMap.1 hf
  unfold fsD at hk
  cases hT : T[k]? with
  | none => rw [hT] at hk; simp at hk
  | some x =>
    rw [hT] at hk
    obtain ⟨b, off, _, hx⟩ := h k x hT
    obtain ⟨j, hj, rfl⟩ := List.getElem_of_mem hk
    obtain ⟨_, _, _, hfl⟩ := hx.flds j _ (List.getElem?_eq_getElem hj)
    exact ⟨hfl.name, hfl.ty⟩

/-- The first field of a name. -/
def findD : List Fl → ByteArray → Nat → Option (Nat × Nat)
  | [], _, _ => none
  | f :: fs, s, i => if (f.nm.toList == s.toList) = true then some (i, f.ty) else findD fs s (i + 1)
def findV : Option (Nat × Nat) → Value
  | some (i, t) => .tuple #[.int .i64 (i : Int), .int .u8 (t : Int), .bool true]
  | none => .tuple #[.int .i64 0, .int .u8 0, .bool false]

end Go.Proofs.Ytjccomjgmejnhaa
