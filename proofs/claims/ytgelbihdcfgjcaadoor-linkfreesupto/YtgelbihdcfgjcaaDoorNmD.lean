/-
  What a name is, plain. No Go in it.
-/
import Derived.Test.YtgelbihdcfgjcaaDoorMem
import Derived.WalkKit
import Derived.ProofKit
import Derived.WalkSpells
import Derived.Outline
import Derived.Below
namespace Go.Proofs.YtgelbihdcfgjcaaDoor
open Go.RowKit
set_option maxRecDepth 20000

def letB (c : Int) : Bool := decide ((97 ≤ c ∧ c ≤ 122) ∨ (65 ≤ c ∧ c ≤ 90))
def digB (c : Int) : Bool := decide (48 ≤ c ∧ c ≤ 57)
def restB (c : Int) : Bool := letB c || digB c || decide (c = 95)

def byteAt (s : ByteArray) (k : Nat) : Int := ((s.data.toList[k]?.getD 0).toNat : Int)

theorem byteAt_eq (s : ByteArray) (k : Nat) (h : k < s.size) : byteAt s k = ((s[k]'h).toNat : Int) := by
  unfold byteAt
  have h1 : k < s.data.toList.length := by simpa using h
  rw [List.getElem?_eq_getElem h1]
  rfl

def nameB (s : ByteArray) : Bool :=
  decide (1 ≤ s.size) && decide (s.size ≤ 24) && letB (byteAt s 0) && (List.range s.size).all fun k => k == 0 || restB (byteAt s k)

theorem nameB_true {s : ByteArray} (h1 : 1 ≤ s.size) (h2 : s.size ≤ 24) (h3 : letB (byteAt s 0) = true) (h4 : ∀ k, 1 ≤ k → k < s.size → restB (byteAt s k) = true) : nameB s = true := by
  unfold nameB
  simp only [Bool.and_eq_true, decide_eq_true_eq, List.all_eq_true, List.mem_range, Bool.or_eq_true, beq_iff_eq]
  refine ⟨⟨⟨h1, h2⟩, h3⟩, fun k hk => ?_⟩
  by_cases e : k = 0
  · exact Or.inl e
  · exact Or.inr (h4 k (by omega) hk)

theorem nameB_no0 {s : ByteArray} (h : s.size = 0 ∨ 24 < s.size) : nameB s = false := by
  unfold nameB
  rcases h with h | h
  · rw [dec_f (p := 1 ≤ s.size) (by omega)]; rfl
  · rw [dec_f (p := s.size ≤ 24) (by omega)]; simp

theorem nameB_no1 {s : ByteArray} (h : letB (byteAt s 0) = false) : nameB s = false := by
  unfold nameB; simp [h]

theorem nameB_no2 {s : ByteArray} {k : Nat} (h0 : k < s.size) (h1 : 1 ≤ k) (h : restB (byteAt s k) = false) : nameB s = false := by
  have : ((List.range s.size).all fun k => k == 0 || restB (byteAt s k)) = false := by
    rw [List.all_eq_false]
    refine ⟨k, List.mem_range.2 h0, ?_⟩
    have : (k == 0) = false := by simp; omega
    simp [this, h]
  unfold nameB; rw [this]; simp

def firstB (k : Nat) (c : Int) : Bool := letB c || (decide (k ≠ 0) && restB c)

theorem nameB_all {s : ByteArray} (h1 : 1 ≤ s.size) (h2 : s.size ≤ 24) (h : ∀ k, k < s.size → firstB k (byteAt s k) = true) : nameB s = true := by
  refine nameB_true h1 h2 ?_ (fun k hk1 hk => ?_)
  · have := h 0 h1; simpa [firstB] using this
  · have := h k hk
    simp [firstB] at this
    rcases this with h | h
    · simp [restB, h]
    · exact h.2
theorem nameB_none {s : ByteArray} {k : Nat} (hk : k < s.size) (h : firstB k (byteAt s k) = false) : nameB s = false := by
  by_cases e : k = 0
  · subst e
    exact nameB_no1 (by simpa [firstB] using h)
  · refine nameB_no2 hk (by omega) ?_
    simp [firstB, e] at h
    exact h.2

theorem eight (c : Int) :
    (97 ≤ c ∧ c ≤ 122 ∧ 65 ≤ c ∧ ¬ c ≤ 90 ∧ c ≠ 95 ∧ ¬ c < 48 ∧ 57 < c) ∨
    (¬ 97 ≤ c ∧ c ≤ 122 ∧ 65 ≤ c ∧ c ≤ 90 ∧ c ≠ 95 ∧ ¬ c < 48 ∧ 57 < c) ∨
    (¬ 97 ≤ c ∧ c ≤ 122 ∧ ¬ 65 ≤ c ∧ c ≤ 90 ∧ c ≠ 95 ∧ ¬ c < 48 ∧ ¬ 57 < c) ∨
    (¬ 97 ≤ c ∧ c ≤ 122 ∧ 65 ≤ c ∧ ¬ c ≤ 90 ∧ c = 95 ∧ ¬ c < 48 ∧ 57 < c) ∨
    (97 ≤ c ∧ ¬ c ≤ 122 ∧ 65 ≤ c ∧ ¬ c ≤ 90 ∧ c ≠ 95 ∧ ¬ c < 48 ∧ 57 < c) ∨
    (¬ 97 ≤ c ∧ c ≤ 122 ∧ 65 ≤ c ∧ ¬ c ≤ 90 ∧ c ≠ 95 ∧ ¬ c < 48 ∧ 57 < c) ∨
    (¬ 97 ≤ c ∧ c ≤ 122 ∧ ¬ 65 ≤ c ∧ c ≤ 90 ∧ c ≠ 95 ∧ ¬ c < 48 ∧ 57 < c) ∨
    (¬ 97 ≤ c ∧ c ≤ 122 ∧ ¬ 65 ≤ c ∧ c ≤ 90 ∧ c ≠ 95 ∧ c < 48 ∧ ¬ 57 < c) := by omega

theorem first_let {k : Nat} {c : Int} (h : (97 ≤ c ∧ c ≤ 122) ∨ (65 ≤ c ∧ c ≤ 90)) : firstB k c = true := by
  have : letB c = true := by simp [letB]; omega
  simp [firstB, this]
theorem first_rest {k : Nat} {c : Int} (hk : k ≠ 0) (h : (48 ≤ c ∧ c ≤ 57) ∨ (95 ≤ c ∧ c ≤ 95)) : firstB k c = true := by
  have : restB c = true := by simp [restB, digB]; omega
  simp [firstB, this, hk]
theorem first_no0 {c : Int} (h : ¬ ((97 ≤ c ∧ c ≤ 122) ∨ (65 ≤ c ∧ c ≤ 90))) : firstB 0 c = false := by
  have : letB c = false := by simp [letB]; omega
  simp [firstB, this]
theorem first_no {k : Nat} {c : Int} (h : (123 ≤ c) ∨ (91 ≤ c ∧ c ≤ 94 ∨ 96 ≤ c ∧ c ≤ 96) ∨ (58 ≤ c ∧ c ≤ 64) ∨ (c ≤ 47)) : firstB k c = false := by
  have h1 : letB c = false := by simp [letB]; omega
  have h2 : digB c = false := by simp [digB]; omega
  have h3 : decide (c = 95) = false := dec_f (by omega)
  simp [firstB, restB, h1, h2, h3]


end Go.Proofs.YtgelbihdcfgjcaaDoor
