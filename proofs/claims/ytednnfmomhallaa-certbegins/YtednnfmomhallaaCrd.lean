/-
  A reader's steps go along what Told tells. No Go in it.
-/
import Derived.Test.YtednnfmomhallaaCrc
import Derived.Test.YtednnfmomhallaaCr8
namespace Go.Proofs.Ytednnfmomhallaa
open Go.RowKit

theorem stp_more {L : List UInt8} {lo n k p : Nat} {ahead : Int} {y : En} {b : Bool} {er : Int} {q : Nat} {t a : Int} (hk : k ≤ n) (h : Stp L lo (n : Int) p (k : Int) ahead y b er q t a) {x : En} {m : Nat} {rest : List (En × Nat)} (hT : (tolD L lo (n - k) p ahead).1 = (x, m) :: rest) :
    k < n ∧ y = x ∧ b = true ∧ er = 0 ∧ q = m ∧ t = (k : Int) + 1 ∧ a = x.at_ ∧ m ≤ L.length ∧ tolD L lo (n - (k + 1)) m x.at_ = (rest, (tolD L lo (n - k) p ahead).2) := by
  by_cases hkn : k = n
  · rw [hkn, Nat.sub_self, tol_end] at hT
    simp at hT
  · have e1 : n - k = (n - (k + 1)) + 1 := by omega
    by_cases he : (oneE L lo p ahead).2 = 0
    · have hg := tol_good (n := n - (k + 1)) he
      rw [← e1] at hg
      rw [hg] at hT ⊢
      simp only [List.cons.injEq, Prod.mk.injEq] at hT
      obtain ⟨⟨h1, h2⟩, h3⟩ := hT
      rcases h with ⟨c1, _⟩ | ⟨_, c2, _⟩ | ⟨_, _, c3, c4, c5, c6, c7, c8, c9⟩
      · exfalso; omega
      · exact absurd he c2
      · rw [← h1, ← h2, ← h3]
        exact ⟨by omega, c3, c4, c8, c5, c6, c7, c9, rfl⟩
    · have hg := tol_bad (n := n - (k + 1)) he
      rw [← e1] at hg
      rw [hg] at hT
      simp at hT
theorem stp_done {L : List UInt8} {lo n k p : Nat} {ahead : Int} {y : En} {b : Bool} {er : Int} {q : Nat} {t a : Int} (hk : k ≤ n) (h : Stp L lo (n : Int) p (k : Int) ahead y b er q t a) (hT : (tolD L lo (n - k) p ahead).1 = []) :
    y = enZ ∧ b = false ∧ er = (tolD L lo (n - k) p ahead).2.2 ∧ q = p ∧ t = (k : Int) ∧ a = ahead := by
  by_cases hkn : k = n
  · subst hkn
    rw [Nat.sub_self, tol_end]
    rcases h with ⟨_, c2, c3, c4, c5, c6, c7⟩ | ⟨c1, _⟩ | ⟨c1, _⟩
    · refine ⟨c2, c3, ?_, c4, c5, c6⟩
      rw [c7]
      split <;> rfl
    · exact absurd rfl c1
    · exact absurd rfl c1
  · have e1 : n - k = (n - (k + 1)) + 1 := by omega
    by_cases he : (oneE L lo p ahead).2 = 0
    · have hg := tol_good (n := n - (k + 1)) he
      rw [← e1] at hg
      rw [hg] at hT
      simp at hT
    · have hg := tol_bad (n := n - (k + 1)) he
      rw [← e1] at hg
      rw [hg]
      rcases h with ⟨c1, _⟩ | ⟨_, _, c3, c4, c5, c6, c7, c8⟩ | ⟨_, c2, _⟩
      · exfalso; omega
      · exact ⟨c3, c4, c8, c5, c6, c7⟩
      · exact absurd c2 he
end Go.Proofs.Ytednnfmomhallaa
