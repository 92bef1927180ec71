/-
  How a struct of a table of classes and three types that came in as an argument is read. No Go in it.
-/
import Derived.Test.YtggaecmjadkopacRdCls
namespace Go.Proofs.Ytggaecmjadkopac
open Go.ChangeShapes Go.WideShapes Go.ChangeAt Go.RowKit

theorem cellsTab : Try.prog.cellsOf 22 = 1 := by kernel_rfl
theorem cellsThree : Try.prog.cellsOf 25 = 4 := by kernel_rfl
theorem Rd.three {W : World} {ce : List Value} (h : Rd W 25 ce) (hl : ce.length = 4) : ∃ ao cap T, ∃ a b c : Nat, ce = [.slice ao (T : List Cl).length cap, .int .u8 (a : Int), .int .u8 (b : Int), .int .u8 (c : Int)] ∧ TabAt W ao T ∧ T.length * 48 ≤ 140737488351232 ∧ a < 256 ∧ b < 256 ∧ c < 256 := by
  match ce, hl with
  | [v0, v1, v2, v3], _ =>
    have h0 : Rd W 22 (([v0, v1, v2, v3].drop 0).take (Try.prog.cellsOf 22)) := h.struct Try.underlying25 0 _ rfl
    have h1 : Rd W 23 (([v0, v1, v2, v3].drop 1).take (Try.prog.cellsOf 23)) := h.struct Try.underlying25 1 _ rfl
    have h2 : Rd W 23 (([v0, v1, v2, v3].drop 2).take (Try.prog.cellsOf 23)) := h.struct Try.underlying25 2 _ rfl
    have h3 : Rd W 23 (([v0, v1, v2, v3].drop 3).take (Try.prog.cellsOf 23)) := h.struct Try.underlying25 3 _ rfl
    rw [cellsTab] at h0
    rw [cellsT] at h1 h2 h3
    obtain ⟨ao, cap, T, e0, hT, hz⟩ := h0.tab
    obtain ⟨a, e1, ha⟩ := h1.type
    obtain ⟨b, e2, hb⟩ := h2.type
    obtain ⟨c, e3, hc⟩ := h3.type
    simp at e0 e1 e2 e3
    subst e0 e1 e2 e3
    exact ⟨ao, cap, T, a, b, c, rfl, hT, hz, ha, hb, hc⟩
end Go.Proofs.Ytggaecmjadkopac
