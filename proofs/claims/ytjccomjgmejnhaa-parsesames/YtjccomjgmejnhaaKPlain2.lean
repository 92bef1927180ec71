/-
  The contracts of provisoplain.Classes and SameClasses. Conditions: the table fits.
-/
import Derived.Test.YtjccomjgmejnhaaKPlain
namespace Go.Proofs.Ytjccomjgmejnhaa
open Go.RowKit

theorem ccells_at (w : World) (y : Cl) (t : TypeId) : ∀ (j : Nat) u, (ccells y)[j]? = some u → (w.alloc (.cells #[.string y.nm, .int .i64 y.par, .slice y.fo y.fs.length y.fc] t)).cell? ((⟨w.heap.size, 0, none⟩ : Addr).add j) = some u := by
  intro j u hj
  have hrow := heap_alloc_new w (.cells #[.string y.nm, .int .i64 y.par, .slice y.fo y.fs.length y.fc] t)
  rw [Addr.add_lit, cell_of_row _ _ _ _ _ _ hrow, Nat.zero_add]
  unfold ccells at hj
  match j, hj with
  | 0, hj => exact hj
  | 1, hj => exact hj
  | 2, hj => exact hj
theorem ccells_one (y : Cl) : ∀ u ∈ ccells y, u.oneCell' = true := by
  intro u hu
  simp [ccells] at hu
  rcases hu with rfl | rfl | rfl <;> rfl

theorem grownBy_set (W : World) (b o : Nat) (v : Value) : W.grownBy (W.setCell ⟨b, o, none⟩ v) (some b) :=
  ⟨rfl, rfl, rfl, by simp [World.setCell], fun k _ hk => Below.heap_setCell _ _ _ _ (fun e => hk (by rw [e]))⟩

end Go.Proofs.Ytjccomjgmejnhaa
