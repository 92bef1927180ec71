/-
  How a script of calls of a store that came in as an argument is read. No Go in it.
-/
import Derived.Test.YtkcnkfhdbjiggaaRd
import Derived.Test.YtkcnkfhdbjiggaaSu13
namespace Go.Proofs.Ytkcnkfhdbjiggaa
open Go.ChangeShapes Go.WideShapes Go.ChangeAt Go.RowKit
set_option maxRecDepth 20000

theorem cellsDo : Try.prog.cellsOf 31 = 3 := by kernel_rfl
theorem bytesDo : Try.prog.bytesOf 31 = 48 := by kernel_rfl
theorem cellsDI : Try.prog.cellsOf 3 = 1 := by kernel_rfl
theorem cellsDS : Try.prog.cellsOf 9 = 1 := by kernel_rfl
theorem cellsDB : Try.prog.cellsOf 25 = 1 := by kernel_rfl
theorem Rd.dn {W : World} {ce : List Value} (h : Rd W 31 ce) (hl : ce.length = 3) : ∃ x : Dn, ce = [.int .i64 x.op, .string x.nm, .slice x.ba x.bs.length x.bc] ∧ BAt W x.ba x.bs ∧ (x.ba = none → x.bs = [] ∧ x.bc = 0) ∧ x.bs.length ≤ 140737488351232 ∧ x.nm.size ≤ 140737488351232 := by
  match ce, hl with
  | [v0, v1, v2], _ =>
    have h0 : Rd W 3 (([v0, v1, v2].drop 0).take (Try.prog.cellsOf 3)) := h.struct Try.underlying31 0 _ rfl
    have h1 : Rd W 9 (([v0, v1, v2].drop 1).take (Try.prog.cellsOf 9)) := h.struct Try.underlying31 1 _ rfl
    have h2 : Rd W 25 (([v0, v1, v2].drop 2).take (Try.prog.cellsOf 25)) := h.struct Try.underlying31 2 _ rfl
    rw [cellsDI] at h0
    rw [cellsDS] at h1
    rw [cellsDB] at h2
    obtain ⟨n0, e0, _⟩ := h0.int Try.underlying3
    obtain ⟨s, e1, hs⟩ := h1.str Try.underlying9
    obtain ⟨ao, cap, l, e2, hb, hn, hz⟩ := h2.bytes
    simp at e0 e1 e2
    subst e0 e1 e2
    exact ⟨⟨n0, s, ao, cap, l⟩, rfl, hb, hn, hz, hs⟩
theorem Rd.dos {W : World} {cs : List Value} (h : Rd W 22 cs) : ∃ xo xc X, cs = [.slice xo (X : List Dn).length xc] ∧ DosAt W xo X ∧ X.length * 48 ≤ 140737488351232 := by
  rcases h.slice Try.underlying22 with rfl | ⟨a, len, cap, rfl, hl, hb, hel⟩
  · exact ⟨none, 0, [], rfl, fun i x hx => by simp at hx, by simp⟩
  · rw [bytesDo] at hb
    have : ∀ i, i < len → ∃ x : Dn, W.cell? (a.add (i * 3)) = some (.int .i64 x.op) ∧ ∀ b off, a = ⟨b, off, none⟩ → DnAt W b (off + i * 3) x := by
      intro i hi
      obtain ⟨ce, h1, h2, h3⟩ := hel i hi
      rw [cellsDo] at h1 h2
      obtain ⟨x, rfl, hj, hn, hz, hs⟩ := h3.dn h1
      refine ⟨x, by simpa using h2 0 (by omega), fun b off e => ?_⟩
      subst e
      have g0 := h2 0 (by omega)
      have g1 := h2 1 (by omega)
      have g2 := h2 2 (by omega)
      rw [Addr.add_lit] at g0 g1 g2
      exact ⟨by simpa using g0, by simpa [Nat.add_assoc] using g1, by simpa [Nat.add_assoc] using g2, hj, hn, hz, hs⟩
    obtain ⟨L, hll, hp⟩ := choose_below this
    subst hll
    refine ⟨some a, cap, L, rfl, fun i x hx => ?_, by omega⟩
    have hi := (List.getElem?_eq_some_iff.1 hx).1
    obtain ⟨y, h1, h2, h3⟩ := hp i hi
    obtain ⟨y0, h10, h20, h30⟩ := hp 0 (by omega)
    rw [hx] at h1
    injection h1 with h1
    subst h1
    have ha : a = ⟨a.block, a.off, none⟩ := by
      have := plain_addr h20
      simpa [Addr.add] using this
    exact ⟨a.block, a.off, by rw [← ha], h3 _ _ ha⟩
end Go.Proofs.Ytkcnkfhdbjiggaa
