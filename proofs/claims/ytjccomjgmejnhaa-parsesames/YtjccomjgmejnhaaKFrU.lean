/-
  Contracts of slices.Clone and slices.Equal at types. Conditions: lengths fit.
-/
import Derived.Test.YtjccomjgmejnhaaKFrT
namespace Go.Proofs.Ytjccomjgmejnhaa
open Go.RowKit

theorem infoTyV : (Try.prog.info? 32).map (fun i => (i.zero, i.size, i.bytes)) = some (some (.int .u8 0), 1, 1) := by kernel_rfl
theorem slV_one (l : List Nat) : ∀ u ∈ slV l, u.oneCell' = true := by
  intro u hu
  obtain ⟨x, _, rfl⟩ := List.mem_map.1 hu
  rfl
def OwnP (w : World) (base : Nat) (v : Value) (l : List Nat) : Prop := w.ownsRow base 32 1 v l.length (slV l)
theorem OwnP.at {w : World} {base : Nat} {v : Value} {l : List Nat} (h : OwnP w base v l) : ∃ ga gc, v = .slice ga l.length gc ∧ PAt w ga l ∧ (∀ b off, ga = some ⟨b, off, none⟩ → base ≤ b) := by
  rcases h.2 with ⟨h1, h2⟩ | ⟨g, cap, cur, hv, hb, hh, hn, hm, hs, ht⟩
  · have := List.eq_nil_of_length_eq_zero h2
    subst this
    exact ⟨none, 0, h1, fun i t ht => by simp at ht, fun b off e => by cases e⟩
  · refine ⟨_, cap, hv, fun i t ht => ⟨g, 0, rfl, ?_⟩, fun b off e => by injection e with e; injection e with e; omega⟩
    have hi := (List.getElem?_eq_some_iff.1 ht).1
    have h' : w.ownsRow base 32 1 (.slice (some ⟨g, 0, none⟩) l.length cap) l.length (slV l) := hv ▸ h
    rw [Nat.zero_add, h'.cellAt i (by omega), slV_get ht]

theorem PAt.row {W : World} {ao : Option Addr} {l : List Nat} (h : PAt W ao l) {g : Nat} (cs : Array Value) (hne : ∀ b off, ao = some ⟨b, off, none⟩ → b ≠ g) : PAt (W.setRow g cs) ao l := fun i t ht => by
  obtain ⟨b, off, e, hc⟩ := h i t ht
  exact ⟨b, off, e, (cell_setRow_other W g cs _ (hne b off e)).trans hc⟩
end Go.Proofs.Ytjccomjgmejnhaa
