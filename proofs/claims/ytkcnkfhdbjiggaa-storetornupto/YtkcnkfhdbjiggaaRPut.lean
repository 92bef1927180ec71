/-
  Contracts of provisoref01.Join, PutName, Put, Patch: the error and the bytes behind as the same plain functions. Conditions: lengths fit.
-/
import Derived.Test.YtkcnkfhdbjiggaaWOps
import Derived.Laws.IdiomStrings
namespace Go.Proofs.Ytkcnkfhdbjiggaa
open Go.RowKit
set_option maxRecDepth 20000

/-- What holds behind: the error, and a slice of its own (or the one that came in) with the bytes. -/
def RPost (w : World) (b : Value) (code : Int) (l' : List UInt8) (e : Ending) (w' : World) : Prop :=
  ∃ v', e = .returned (.tuple #[v', .int .i64 code]) ∧ OwnB w' 0 v' l' ∧ Below w.heap.size w w' ∧ (v' = b ∨ ∀ k, v'.ownBlock = some k → w.heap.size ≤ k)

theorem RPost.same {w : World} {b : Value} {l : List UInt8} (code : Int) (h : OwnB w 0 b l) : RPost w b code l (.returned (.tuple #[b, .int .i64 code])) w :=
  ⟨b, rfl, h, Below.refl _ _, .inl rfl⟩

theorem BAt.ofString (w : World) (s : ByteArray) (cap : Nat) (fr : Nat × Nat) (t : TypeId) : BAt (w.alloc (.cells (bytesRow s cap) t fr)) (some ⟨w.heap.size, 0, none⟩) s.data.toList := by
  intro i hi
  have hi' : i < s.data.size := by simpa using hi
  refine ⟨w.heap.size, 0, rfl, ?_⟩
  rw [Nat.zero_add, World.cell?_alloc_mark, bytesRow_at s cap i hi']
  unfold at8
  rw [List.getD_eq_getElem?_getD, List.getElem?_eq_getElem hi]
  simp

end Go.Proofs.Ytkcnkfhdbjiggaa
