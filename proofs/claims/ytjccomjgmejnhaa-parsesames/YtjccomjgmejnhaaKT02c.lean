/-
  The contract of provisoref02's Fields: what the plain function 'fieldsD' says, in new memory. Conditions: the table fits, and there are at most a million fields.
-/
import Derived.Test.YtjccomjgmejnhaaJTY
namespace Go.Proofs.Ytjccomjgmejnhaa
open Go.RowKit

theorem rowMono {w : World} {base base' : Nat} {t : TypeId} {s : Nat} {v : Value} {n : Nat} {cs : List Value} (h : w.ownsRow base t s v n cs) (hb : base' ≤ base) : w.ownsRow base' t s v n cs := by
  refine ⟨h.1, ?_⟩
  rcases h.2 with h1 | ⟨g, cap, cur, hv, hbg, r⟩
  · exact Or.inl h1
  · exact Or.inr ⟨g, cap, cur, hv, by omega, r⟩

theorem lineR_length (T : List Cl) : ∀ (k : Nat) (c : Int), (lineR T k c).length ≤ k
  | 0, c => by simp [lineR]
  | k + 1, c => by
    unfold lineR
    split
    · rw [List.length_cons]; have := lineR_length T k (parD T c.toNat); omega
    · simp

theorem flat_step {α : Type} (f : Nat → List α) (L : List Nat) (j : Nat) (hj : j < L.length) : (L.drop j).reverse.flatMap f = (L.drop (j + 1)).reverse.flatMap f ++ f L[j] := by
  rw [List.drop_eq_getElem_cons hj, List.reverse_cons, List.flatMap_append]
  simp
theorem flat_le {α : Type} (f : Nat → List α) (L : List Nat) (j : Nat) : ((L.drop j).reverse.flatMap f).length ≤ (L.reverse.flatMap f).length := by
  have : L.reverse = (L.drop j).reverse ++ (L.take j).reverse := by rw [← List.reverse_append, List.take_append_drop]
  rw [this, List.flatMap_append, List.length_append]
  omega

end Go.Proofs.Ytjccomjgmejnhaa
