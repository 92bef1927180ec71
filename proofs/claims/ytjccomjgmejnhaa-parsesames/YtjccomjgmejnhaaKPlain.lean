/-
  Contracts of provisoplain.Classes and SameClasses and of slices.Clone and slices.Equal at fields: a copy in new memory that is the same table. Conditions: the table fits.
-/
import Derived.Test.YtjccomjgmejnhaaKStaysP
namespace Go.Proofs.Ytjccomjgmejnhaa
open Go.RowKit

/-! ### A table's copy -/
/-- The same but for where the fields lie. -/
structure SameC (x y : Cl) : Prop where
  nm : y.nm = x.nm
  par : y.par = x.par
  fs : y.fs = x.fs
def SameT (T G : List Cl) : Prop := G.length = T.length ∧ ∀ (i : Nat) x y, T[i]? = some x → G[i]? = some y → SameC x y

def ccells (y : Cl) : List Value := [.string y.nm, .int .i64 y.par, .slice y.fo y.fs.length y.fc]
def cvals (G : List Cl) : List Value := G.flatMap ccells
theorem cvals_length (l : List Cl) : (cvals l).length = l.length * 3 := by
  unfold cvals
  induction l with
  | nil => rfl
  | cons f l ih => rw [List.flatMap_cons, List.length_append, ih]; simp [ccells]; omega
theorem cvals_snoc (l : List Cl) (y : Cl) : cvals (l ++ [y]) = cvals l ++ ccells y := by unfold cvals; simp
theorem cvals_get : ∀ {l : List Cl} {i : Nat} {f : Cl}, l[i]? = some f → (cvals l)[i * 3]? = some (.string f.nm) ∧ (cvals l)[i * 3 + 1]? = some (.int .i64 f.par) ∧ (cvals l)[i * 3 + 2]? = some (.slice f.fo f.fs.length f.fc)
  | [], i, f, h => by simp at h
  | g :: l, 0, f, h => by
    simp at h
    subst h
    unfold cvals
    rw [List.flatMap_cons]
    exact ⟨rfl, rfl, rfl⟩
  | g :: l, i + 1, f, h => by
    have h' : l[i]? = some f := by simpa using h
    obtain ⟨h1, h2, h3⟩ := cvals_get h'
    unfold cvals at h1 h2 h3 ⊢
    rw [List.flatMap_cons]
    refine ⟨?_, ?_, ?_⟩
    · rw [List.getElem?_append_right (by simp [ccells]; omega)]
      rw [← h1]; congr 1; simp [ccells]; omega
    · rw [List.getElem?_append_right (by simp [ccells]; omega)]
      rw [← h2]; congr 1; simp [ccells]; omega
    · rw [List.getElem?_append_right (by simp [ccells]; omega)]
      rw [← h3]; congr 1; simp [ccells]; omega
/-- What a row of a type lies in. -/
theorem rowTy {w : World} {B : Nat} {t : TypeId} {s : Nat} {v : Value} {n : Nat} {cs : List Value} (h : w.ownsRow B t s v n cs) : ∀ k, v.ownBlock = some k → ∃ cur, w.heap[k]? = some (.cells cur t (0, 0)) := by
  intro k hk
  rcases h.2 with ⟨rfl, _⟩ | ⟨g, cap, cur, rfl, _, hh, _⟩
  · cases hk
  · cases hk; exact ⟨cur, hh⟩
end Go.Proofs.Ytjccomjgmejnhaa
