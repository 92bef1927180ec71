/-
  How a heap's life that came in as an argument is read. No Go in it.
-/
import Derived.Test.YtbbfnampjbdnbaaDoorRdCls
import Derived.Test.YtbbfnampjbdnbaaDoorKHq13
namespace Go.Proofs.YtbbfnampjbdnbaaDoor
open Go.ChangeShapes Go.WideShapes Go.ChangeAt Go.RowKit
set_option maxRecDepth 20000

theorem cellsAct : Tryd.prog.cellsOf 44 = 5 := by kernel_rfl
theorem bytesAct : Tryd.prog.bytesOf 44 = 56 := by kernel_rfl
theorem cellsIJ : Tryd.prog.cellsOf 3 = 1 := by kernel_rfl
theorem bytesIJ : Tryd.prog.bytesOf 3 = 8 := by kernel_rfl
theorem cellsSJ : Tryd.prog.cellsOf 42 = 1 := by kernel_rfl
theorem cellsSC : Tryd.prog.cellsOf 22 = 1 := by kernel_rfl
theorem cellsSA : Tryd.prog.cellsOf 23 = 1 := by kernel_rfl
theorem i64_hi {n : Int} (h : (Lit.int .i64 n).wf = true) : n < 9223372036854775808 := by have := bounds_i64 h; omega
theorem Rd.js {W : World} {cs : List Value} (h : Rd W 42 cs) : ∃ ao cap l, cs = [.slice ao (l : List Int).length cap] ∧ JsAt W ao l ∧ l.length * 8 ≤ 140737488351232 := by
  rcases h.slice Tryd.underlying42 with rfl | ⟨a, len, cap, rfl, hl, hb, hel⟩
  · exact ⟨none, 0, [], rfl, fun i x hx => by simp at hx, by simp⟩
  · rw [bytesIJ] at hb
    have : ∀ i, i < len → ∃ x : Int, W.cell? (a.add i) = some (.int .i64 x) := by
      intro i hi
      obtain ⟨ce, h1, h2, h3⟩ := hel i hi
      obtain ⟨n, rfl, _⟩ := h3.int Tryd.underlying3
      have h4 := h2 0 (by rw [cellsIJ]; omega)
      rw [cellsIJ, show i * 1 + 0 = i from by omega] at h4
      exact ⟨n, by simpa using h4⟩
    obtain ⟨l, hll, hp⟩ := choose_below this
    subst hll
    refine ⟨some a, cap, l, rfl, fun i x hx => ?_, by omega⟩
    have hi := (List.getElem?_eq_some_iff.1 hx).1
    obtain ⟨y, h1, h2⟩ := hp i hi
    obtain ⟨y0, h10, h20⟩ := hp 0 (by omega)
    rw [hx] at h1
    injection h1 with h1
    subst h1
    have ha : a = ⟨a.block, a.off, none⟩ := by
      have := plain_addr h20
      simpa [Addr.add] using this
    refine ⟨a.block, a.off, by rw [← ha], ?_⟩
    rw [ha, Addr.add_lit] at h2
    exact h2
theorem Rd.act {W : World} {ce : List Value} (h : Rd W 44 ce) (hl : ce.length = 5) : ∃ x : Ac, ce = [.int .i64 x.kd, .int .i64 x.a, .int .i64 x.b, .int .i64 x.c, .slice x.ro x.R.length x.rc] ∧ JsAt W x.ro x.R ∧ x.R.length * 8 ≤ 140737488351232 ∧ x.a < 9223372036854775808 := by
  match ce, hl with
  | [v0, v1, v2, v3, v4], _ =>
    have h0 : Rd W 3 (([v0, v1, v2, v3, v4].drop 0).take (Tryd.prog.cellsOf 3)) := h.struct Tryd.underlying44 0 _ rfl
    have h1 : Rd W 3 (([v0, v1, v2, v3, v4].drop 1).take (Tryd.prog.cellsOf 3)) := h.struct Tryd.underlying44 1 _ rfl
    have h2 : Rd W 3 (([v0, v1, v2, v3, v4].drop 2).take (Tryd.prog.cellsOf 3)) := h.struct Tryd.underlying44 2 _ rfl
    have h3 : Rd W 3 (([v0, v1, v2, v3, v4].drop 3).take (Tryd.prog.cellsOf 3)) := h.struct Tryd.underlying44 3 _ rfl
    have h4 : Rd W 42 (([v0, v1, v2, v3, v4].drop 4).take (Tryd.prog.cellsOf 42)) := h.struct Tryd.underlying44 4 _ rfl
    rw [cellsIJ] at h0 h1 h2 h3
    rw [cellsSJ] at h4
    obtain ⟨n0, e0, _⟩ := h0.int Tryd.underlying3
    obtain ⟨n1, e1, w1⟩ := h1.int Tryd.underlying3
    obtain ⟨n2, e2, _⟩ := h2.int Tryd.underlying3
    obtain ⟨n3, e3, _⟩ := h3.int Tryd.underlying3
    obtain ⟨ro, rc, R, e4, hj, hz⟩ := h4.js
    simp at e0 e1 e2 e3 e4
    subst e0 e1 e2 e3 e4
    exact ⟨⟨n0, n1, n2, n3, ro, rc, R⟩, rfl, hj, hz, i64_hi w1⟩
theorem Rd.acts {W : World} {cs : List Value} (h : Rd W 23 cs) : ∃ xo xc X, cs = [.slice xo (X : List Ac).length xc] ∧ AcsAt W xo X ∧ X.length * 56 ≤ 140737488351232 := by
  rcases h.slice Tryd.underlying23 with rfl | ⟨a, len, cap, rfl, hl, hb, hel⟩
  · exact ⟨none, 0, [], rfl, fun i x hx => by simp at hx, by simp⟩
  · rw [bytesAct] at hb
    have : ∀ i, i < len → ∃ x : Ac, W.cell? (a.add (i * 5)) = some (.int .i64 x.kd) ∧ ∀ b off, a = ⟨b, off, none⟩ → AcAt W b (off + i * 5) x := by
      intro i hi
      obtain ⟨ce, h1, h2, h3⟩ := hel i hi
      rw [cellsAct] at h1 h2
      obtain ⟨x, rfl, hj, hz, ha⟩ := h3.act h1
      refine ⟨x, by simpa using h2 0 (by omega), fun b off e => ?_⟩
      subst e
      have g0 := h2 0 (by omega)
      have g1 := h2 1 (by omega)
      have g2 := h2 2 (by omega)
      have g3 := h2 3 (by omega)
      have g4 := h2 4 (by omega)
      rw [Addr.add_lit] at g0 g1 g2 g3 g4
      exact ⟨by simpa using g0, by simpa [Nat.add_assoc] using g1, by simpa [Nat.add_assoc] using g2, by simpa [Nat.add_assoc] using g3, by simpa [Nat.add_assoc] using g4, hj, hz, ha⟩
    obtain ⟨L, hll, hp⟩ := choose_below this
    subst hll
    refine ⟨some a, cap, L, rfl, fun i x hx => ?_, by omega⟩
    have hi := (List.getElem?_eq_some_iff.1 hx).1
    obtain ⟨y, h1, h2, h3⟩ := hp i hi
    obtain ⟨y0, h10, h20, h30⟩ := hp 0 (by omega)
    rw [hx] at h1
    injection h1 with h1
    subst h1
    have ha : a = ⟨a.block, a.off, none⟩ := by
      have := plain_addr h20
      simpa [Addr.add] using this
    exact ⟨a.block, a.off, by rw [← ha], h3 _ _ ha⟩
theorem Rd.life {W : World} {ce : List Value} (h : Rd W 25 ce) (hl : ce.length = 3) : ∃ ao cap T room xo xc X, ce = [.slice ao (T : List Cl).length cap, .int .i64 room, .slice xo (X : List Ac).length xc] ∧ TabAt W ao T ∧ T.length ≤ cap ∧ T.length * 48 ≤ 140737488351232 ∧ AcsAt W xo X ∧ X.length * 56 ≤ 140737488351232 := by
  match ce, hl with
  | [v0, v1, v2], _ =>
    have h0 : Rd W 22 (([v0, v1, v2].drop 0).take (Tryd.prog.cellsOf 22)) := h.struct Tryd.underlying25 0 _ rfl
    have h1 : Rd W 3 (([v0, v1, v2].drop 1).take (Tryd.prog.cellsOf 3)) := h.struct Tryd.underlying25 1 _ rfl
    have h2 : Rd W 23 (([v0, v1, v2].drop 2).take (Tryd.prog.cellsOf 23)) := h.struct Tryd.underlying25 2 _ rfl
    rw [cellsSC] at h0
    rw [cellsIJ] at h1
    rw [cellsSA] at h2
    obtain ⟨ao, cap, T, e0, hT, hz⟩ := h0.tab
    obtain ⟨n, e1, _⟩ := h1.int Tryd.underlying3
    obtain ⟨xo, xc, X, e2, hX, hxz⟩ := h2.acts
    have hcp : T.length ≤ cap := by
      rcases h0.slice Tryd.underlying22 with e | ⟨a, len, cp, e, hle, _⟩
      · rw [e0] at e
        injection e with e _
        injection e with _ e1 e2
        omega
      · rw [e0] at e
        injection e with e _
        injection e with _ e1 e2
        omega
    simp at e0 e1 e2
    subst e0 e1 e2
    exact ⟨ao, cap, T, n, xo, xc, X, rfl, hT, hcp, hz, hX, hxz⟩
end Go.Proofs.YtbbfnampjbdnbaaDoor
