/-
  How a row of instructions that came in as an argument is read, with the bounds of their first operands. No Go in it.
-/
import Derived.Test.YtlanmcmhgohooaaDoorRdAl
namespace Go.Proofs.YtlanmcmhgohooaaDoor
open Go.ChangeShapes Go.WideShapes Go.ChangeAt Go.RowKit
set_option maxRecDepth 20000

theorem Rd.instrsB {W : World} {cs : List Value} (h : Rd W 25 cs) : ∃ ao cap l, cs = [.slice ao (l : List Ix).length cap] ∧ XsAt W ao l ∧ (ao = none → l = []) ∧ l.length * 32 ≤ 140737488351232 ∧ (∀ x ∈ l, -9223372036854775808 ≤ x.a ∧ x.a ≤ 9223372036854775807) := by
  rcases h.slice Tryd.underlying25 with rfl | ⟨a, len, cap, rfl, hl, hb, hel⟩
  · exact ⟨none, 0, [], rfl, fun i x hx => by simp at hx, fun _ => rfl, by simp, fun x hx => by cases hx⟩
  · rw [bytesX] at hb
    have : ∀ i, i < len → ∃ x : Ix, W.cell? (a.add (i * 4)) = some (.int .i64 x.p) ∧ (-9223372036854775808 ≤ x.a ∧ x.a ≤ 9223372036854775807) ∧ ∀ b off, a = ⟨b, off, none⟩ → IxAt W b (off + i * 4) x := by
      intro i hi
      obtain ⟨ce, h1, h2, h3⟩ := hel i hi
      rw [cellsX] at h1 h2
      obtain ⟨p, op, x, y, rfl, ho, hxa, _⟩ := h3.instr h1
      refine ⟨⟨p, op, x, y⟩, by simpa using h2 0 (by omega), hxa, fun b off e => ?_⟩
      subst e
      have g0 := h2 0 (by omega)
      have g1 := h2 1 (by omega)
      have g2 := h2 2 (by omega)
      have g3 := h2 3 (by omega)
      rw [Addr.add_lit] at g0 g1 g2 g3
      exact ⟨by simpa using g0, by simpa [Nat.add_assoc] using g1, by simpa [Nat.add_assoc] using g2, by simpa [Nat.add_assoc] using g3, ho⟩
    obtain ⟨L, hll, hp⟩ := choose_below this
    subst hll
    refine ⟨some a, cap, L, rfl, fun i x hx => ?_, fun h => by simp at h, by omega, fun x hx => ?_⟩
    rotate_left
    · obtain ⟨i, hi⟩ := List.mem_iff_getElem?.1 hx
      obtain ⟨y, h1, _, h3, _⟩ := hp i (List.getElem?_eq_some_iff.1 hi).1
      rw [hi] at h1
      injection h1 with h1
      rw [h1]
      exact h3
    have hi := (List.getElem?_eq_some_iff.1 hx).1
    obtain ⟨y, h1, h2, _, h3⟩ := hp i hi
    obtain ⟨y0, h10, h20, _, h30⟩ := hp 0 (by omega)
    rw [hx] at h1
    injection h1 with h1
    subst h1
    have ha : a = ⟨a.block, a.off, none⟩ := by
      have := plain_addr h20
      simpa [Addr.add] using this
    exact ⟨a.block, a.off, by rw [← ha], h3 _ _ ha⟩
end Go.Proofs.YtlanmcmhgohooaaDoor
