/-
  What a good head says; an entry of a row; how many entries are told. No Go in it.
-/
import Derived.Test.YtednnfmomhallaaCrd
import Derived.Deep.MidRow
import Derived.OpenShut
namespace Go.Proofs.Ytednnfmomhallaa
open Go.RowKit

theorem mkE_good {L : List UInt8} : ∀ k i, (mkE L k i).2 = 0 → 6 ≤ L.length ∧ at8 L 3 ≤ 16 ∧ wdD L 4 ≤ 4096
  | 0, i, h => by
    rw [mkE_zero] at h
    split at h
    · simp at h
    split at h
    · simp at h
    split at h
    · simp at h
    exact ⟨by omega, by omega, by omega⟩
  | k + 1, i, h => by
    unfold mkE at h
    split at h
    · simp at h
    split at h
    · simp at h
    exact mkE_good k (i + 1) h
theorem OwnE.range {w : World} {base : Nat} {v : Value} {l : List En} (h : OwnE w base v l) (ho : EsOk l) {i : Nat} {x : En} (hi : l[i]? = some x) : ∃ g cap, v = .slice (some ⟨g, 0, none⟩) l.length cap ∧ w.rangeAt g (i * 28) (enL x) := by
  have hil : i < l.length := (List.getElem?_eq_some_iff.1 hi).1
  rcases h.2 with ⟨_, h2⟩ | ⟨g, cap, cur, hv, _, hg, _, _, hcs, hx⟩
  · omega
  refine ⟨g, cap, hv, fun j v hj => ?_⟩
  have hj28 : j < 28 := by
    have := (List.getElem?_eq_some_iff.1 hj).1
    rwa [enL_len (ho x (List.mem_of_getElem? hi))] at this
  have h1 := evals_get ho hi j hj28
  rw [← hx, List.getElem?_take_of_lt (by omega), hj] at h1
  rw [cell_of_row _ _ _ _ _ _ hg]
  simpa using h1
theorem tol_len {L : List UInt8} {lo : Nat} : ∀ (n p : Nat) (ahead : Int), (tolD L lo n p ahead).1.length ≤ n
  | 0, p, ahead => by rw [tol_end]; simp
  | n + 1, p, ahead => by
    by_cases he : (oneE L lo p ahead).2 = 0
    · rw [tol_good he]
      have := tol_len (L := L) (lo := lo) n (oneN L lo p) (oneX L lo p).at_
      simp only [List.length_cons]
      omega
    · rw [tol_bad he]; simp

end Go.Proofs.Ytednnfmomhallaa
