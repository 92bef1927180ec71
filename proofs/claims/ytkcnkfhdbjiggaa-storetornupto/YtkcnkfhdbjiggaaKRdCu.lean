/-
  How a list of numbers that came in as an argument is read. No Go in it.
-/
import Derived.Test.YtkcnkfhdbjiggaaRd
import Derived.Test.YtkcnkfhdbjiggaaJST
namespace Go.Proofs.Ytkcnkfhdbjiggaa
open Go.ChangeShapes Go.WideShapes Go.ChangeAt Go.RowKit
set_option maxRecDepth 20000

theorem cellsCu : Try.prog.cellsOf 3 = 1 := by kernel_rfl
theorem bytesCu : Try.prog.bytesOf 3 = 8 := by kernel_rfl
theorem Rd.cuts {W : World} {cs : List Value} (h : Rd W 46 cs) : ∃ ao cap l, cs = [.slice ao (l : List Int).length cap] ∧ CuAt W ao l ∧ l.length * 8 ≤ 140737488351232 := by
  rcases h.slice Try.underlying46 with rfl | ⟨a, len, cap, rfl, hl, hb, hel⟩
  · exact ⟨none, 0, [], rfl, fun i x hx => by simp at hx, by simp⟩
  · rw [bytesCu] at hb
    have : ∀ i, i < len → ∃ x : Int, W.cell? (a.add i) = some (.int .i64 x) := by
      intro i hi
      obtain ⟨ce, h1, h2, h3⟩ := hel i hi
      obtain ⟨n, rfl, _⟩ := h3.int Try.underlying3
      have h4 := h2 0 (by rw [cellsCu]; omega)
      rw [cellsCu, show i * 1 + 0 = i from by omega] at h4
      exact ⟨n, by simpa using h4⟩
    obtain ⟨l, hll, hp⟩ := choose_below this
    subst hll
    refine ⟨some a, cap, l, rfl, fun i x hx => ?_, by omega⟩
    have hi := (List.getElem?_eq_some_iff.1 hx).1
    obtain ⟨y, h1, h2⟩ := hp i hi
    obtain ⟨y0, h10, h20⟩ := hp 0 (by omega)
    rw [hx] at h1
    injection h1 with h1
    subst h1
    have ha : a = ⟨a.block, a.off, none⟩ := by
      have := plain_addr h20
      simpa [Addr.add] using this
    refine ⟨a.block, a.off, by rw [← ha], ?_⟩
    rw [ha, Addr.add_lit] at h2
    exact h2
end Go.Proofs.Ytkcnkfhdbjiggaa
