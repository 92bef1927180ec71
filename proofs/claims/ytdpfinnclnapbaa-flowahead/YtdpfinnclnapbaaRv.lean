/-
  slices.Reverse over a row of numbers of one's own. Conditions: lengths fit.
-/
import Derived.Test.YtdpfinnclnapbaaSo
import Derived.Test.YtdpfinnclnapbaaLayRev
namespace Go.Proofs.Ytdpfinnclnapbaa
open Go.RowKit

theorem putRow_grown (w : World) (q g : Nat) (m : Array Int) : w.grownBy (Sort.putRow (Value.int .i64) (Sort.ahead w q) g 0 m) (some g) := by
  refine ⟨rfl, rfl, rfl, ?_, fun j hj hn => ?_⟩
  · simp [Sort.putRow, Sort.mapBlock, Sort.ahead]
  · simp only [Sort.putRow, Sort.mapBlock, Sort.ahead]
    rw [Array.getElem?_modify, if_neg (fun e => hn (by rw [e]))]
theorem Reverse_own {w : World} {B : Nat} {v : Value} {l : List Int} (h : OwnJ w B v l) (hl : l.length ≤ 4400000000000) :
    Calls Try.prog 28 #[v] w fun e w' => e = .returned (.tuple #[]) ∧ OwnJ w' B v l.reverse ∧ w.grownBy w' v.ownBlock := by
  rcases h.shape with ⟨rfl, rfl⟩ | ⟨g, cap, rfl, hb, hg, hcap, hc, hf⟩
  · refine (Any.slices_Reverse_int_empty Try.laysRev none 0 w).mono ?_
    rintro e w' ⟨rfl, rfl⟩
    exact ⟨rfl, h, ⟨rfl, rfl, rfl, Nat.le_refl _, fun _ _ _ => rfl⟩⟩
  · refine (Any.slices_Reverse_int Try.laysRev g 0 cap l w (holdsJ h) (by omega)).mono ?_
    rintro e w' ⟨rfl, q, rfl⟩
    refine ⟨rfl, ?_, putRow_grown w q g _⟩
    have := rowPut h q #[] l.reverse (by simp) l.reverse.length (Nat.le_refl _)
    rw [← ahead_row, List.take_length] at this
    have t := this.1
    unfold OwnJ at t ⊢
    rw [List.length_reverse] at t ⊢
    exact t
end Go.Proofs.Ytdpfinnclnapbaa
