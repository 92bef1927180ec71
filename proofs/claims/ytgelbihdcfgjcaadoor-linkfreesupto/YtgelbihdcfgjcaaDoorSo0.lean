/-
  Rising numbers: two such lists with the same members are one. No Go in it.
-/
import Derived.Test.YtgelbihdcfgjcaaDoorJs
namespace Go.Proofs.YtgelbihdcfgjcaaDoor
set_option maxRecDepth 20000

def AscJ (l : List Int) : Prop := l.Pairwise (· < ·)
theorem asc_ext : ∀ {l m : List Int}, AscJ l → AscJ m → (∀ x, x ∈ l ↔ x ∈ m) → l = m
  | [], [], _, _, _ => rfl
  | [], y :: m, _, _, h => by have := (h y).2 (List.mem_cons_self ..); simp at this
  | x :: l, [], _, _, h => by have := (h x).1 (List.mem_cons_self ..); simp at this
  | x :: l, y :: m, hl, hm, h => by
    have l1 := List.pairwise_cons.1 hl
    have m1 := List.pairwise_cons.1 hm
    have exy : x = y := by
      have hx := (h x).1 (List.mem_cons_self ..)
      have hy := (h y).2 (List.mem_cons_self ..)
      rcases List.mem_cons.1 hx with e | hx'
      · exact e
      · rcases List.mem_cons.1 hy with e | hy'
        · exact e.symm
        · have a := m1.1 x hx'
          have b := l1.1 y hy'
          omega
    subst exy
    rw [asc_ext l1.2 m1.2 (fun z => by
      constructor
      · intro hz
        have := (h z).1 (List.mem_cons_of_mem _ hz)
        rcases List.mem_cons.1 this with e | h'
        · have := l1.1 z hz; omega
        · exact h'
      · intro hz
        have := (h z).2 (List.mem_cons_of_mem _ hz)
        rcases List.mem_cons.1 this with e | h'
        · have := m1.1 z hz; omega
        · exact h')]
theorem mem_putJ {x n : Int} : ∀ {l : List Int}, x ∈ putJ l n ↔ x = n ∨ x ∈ l
  | [] => by simp [putJ]
  | y :: l => by
    unfold putJ
    split
    · split
      · simp
      · have : n = y := by omega
        subst this
        simp
    · rw [List.mem_cons, mem_putJ, List.mem_cons]
      constructor
      · rintro (h | h | h)
        · exact Or.inr (Or.inl h)
        · exact Or.inl h
        · exact Or.inr (Or.inr h)
      · rintro (h | h | h)
        · exact Or.inr (Or.inl h)
        · exact Or.inl h
        · exact Or.inr (Or.inr h)
theorem asc_putJ {n : Int} : ∀ {l : List Int}, AscJ l → AscJ (putJ l n)
  | [], _ => by simp [putJ, AscJ]
  | y :: l, h => by
    have h1 := List.pairwise_cons.1 h
    unfold putJ
    split
    · split
      · refine List.pairwise_cons.2 ⟨fun z hz => ?_, h⟩
        rcases List.mem_cons.1 hz with e | h'
        · omega
        · have := h1.1 z h'; omega
      · exact h
    · refine List.pairwise_cons.2 ⟨fun z hz => ?_, asc_putJ h1.2⟩
      rcases mem_putJ.1 hz with e | h'
      · omega
      · exact h1.1 z h'
end Go.Proofs.YtgelbihdcfgjcaaDoor
