/-
  How a module that came in as an argument is read. No Go in it.
-/
import Derived.Test.YtgelbihdcfgjcaaDoorKRdEv
import Derived.Test.YtgelbihdcfgjcaaDoorJMD
namespace Go.Proofs.YtgelbihdcfgjcaaDoor
open Go.ChangeShapes Go.WideShapes Go.ChangeAt Go.RowKit
set_option maxRecDepth 20000

theorem cellsB8 : Tryd.prog.cellsOf 38 = 1 := by kernel_rfl
theorem bytesB8 : Tryd.prog.bytesOf 38 = 24 := by kernel_rfl
theorem cellsFnR : Tryd.prog.cellsOf 40 = 5 := by kernel_rfl
theorem bytesFnR : Tryd.prog.bytesOf 40 = 80 := by kernel_rfl
theorem cellsFnS : Tryd.prog.cellsOf 23 = 1 := by kernel_rfl
theorem cellsBsS : Tryd.prog.cellsOf 24 = 1 := by kernel_rfl
theorem Rd.func {W : World} {ce : List Value} (h : Rd W 40 ce) (hl : ce.length = 5) : ∃ x : Fn, ce = [.string x.nm, .slice x.sg.po x.sg.ps.length x.sg.pc, .int .u8 (x.sg.rt : Int), .int .i64 x.lo, .slice x.ca x.cd.length x.cc] ∧ FnOk W x := by
  match ce, hl with
  | [v0, v1, v2, v3, v4], _ =>
    have h0 : Rd W 9 (([v0, v1, v2, v3, v4].drop 0).take (Tryd.prog.cellsOf 9)) := h.struct Tryd.underlying40 0 _ rfl
    have h1 : Rd W 37 (([v0, v1, v2, v3, v4].drop 1).take (Tryd.prog.cellsOf 37)) := h.struct Tryd.underlying40 1 _ rfl
    have h2 : Rd W 3 (([v0, v1, v2, v3, v4].drop 3).take (Tryd.prog.cellsOf 3)) := h.struct Tryd.underlying40 2 _ rfl
    have h3 : Rd W 38 (([v0, v1, v2, v3, v4].drop 4).take (Tryd.prog.cellsOf 38)) := h.struct Tryd.underlying40 3 _ rfl
    rw [cellsS] at h0
    rw [cellsSg] at h1
    rw [cellsI] at h2
    rw [cellsB8] at h3
    obtain ⟨s, e0, hs⟩ := h0.str Tryd.underlying9
    obtain ⟨g, e1, hg⟩ := h1.sig (by simp)
    obtain ⟨n, e2, hn⟩ := h2.int Tryd.underlying3
    obtain ⟨ca, cc, cd, e3, hb, hnil, hz⟩ := h3.bytes
    simp at e0 e1 e2 e3
    obtain ⟨e1, e1'⟩ := e1
    subst e0 e1 e1' e2 e3
    exact ⟨⟨s, g, n, ca, cc, cd⟩, rfl, hg, hb, fun e => (hnil e).1, hz, hs, bounds_i64 hn⟩
theorem Rd.funcs {W : World} {cs : List Value} (h : Rd W 23 cs) : ∃ ao cap L, cs = [.slice ao (L : List Fn).length cap] ∧ FnsAt W ao L ∧ L.length * 80 ≤ 140737488351232 := by
  rcases h.slice Tryd.underlying23 with rfl | ⟨a, len, cap, rfl, hl, hb, hel⟩
  · exact ⟨none, 0, [], rfl, fun i x hx => by simp at hx, by simp⟩
  · rw [bytesFnR] at hb
    have : ∀ i, i < len → ∃ x : Fn, W.cell? (a.add (i * 5)) = some (.string x.nm) ∧ ∀ b off, a = ⟨b, off, none⟩ → FnAt W b (off + i * 5) x := by
      intro i hi
      obtain ⟨ce, h1, h2, h3⟩ := hel i hi
      rw [cellsFnR] at h1 h2
      obtain ⟨x, rfl, hok⟩ := h3.func h1
      refine ⟨x, by simpa using h2 0 (by omega), fun b off e => ?_⟩
      subst e
      have g0 := h2 0 (by omega)
      have g1 := h2 1 (by omega)
      have g2 := h2 2 (by omega)
      have g3 := h2 3 (by omega)
      have g4 := h2 4 (by omega)
      rw [Addr.add_lit] at g0 g1 g2 g3 g4
      exact ⟨by simpa using g0, by simpa [Nat.add_assoc] using g1, by simpa [Nat.add_assoc] using g2, by simpa [Nat.add_assoc] using g3, by simpa [Nat.add_assoc] using g4, hok⟩
    obtain ⟨L, hll, hp⟩ := choose_below this
    subst hll
    refine ⟨some a, cap, L, rfl, fun i x hx => ?_, by omega⟩
    have hi := (List.getElem?_eq_some_iff.1 hx).1
    obtain ⟨y, h1, h2, h3⟩ := hp i hi
    obtain ⟨y0, h10, h20, h30⟩ := hp 0 (by omega)
    rw [hx] at h1
    injection h1 with h1
    subst h1
    have ha : a = ⟨a.block, a.off, none⟩ := by
      have := plain_addr h20
      simpa [Addr.add] using this
    exact ⟨a.block, a.off, by rw [← ha], h3 _ _ ha⟩
theorem Rd.bssN {W : World} {cs : List Value} (h : Rd W 24 cs) : ∃ ao cap L, cs = [.slice ao (L : List Bs).length cap] ∧ BssAt W ao L ∧ L.length * 24 ≤ 140737488351232 ∧ ∀ x ∈ L, x.ca = none → x.cc = 0 := by
  rcases h.slice Tryd.underlying24 with rfl | ⟨a, len, cap, rfl, hl, hb, hel⟩
  · exact ⟨none, 0, [], rfl, fun i x hx => by simp at hx, by simp, fun x hx => by simp at hx⟩
  · rw [bytesB8] at hb
    have : ∀ i, i < len → ∃ x : Bs, W.cell? (a.add i) = some (.slice x.ca x.cd.length x.cc) ∧ (∀ b off, a = ⟨b, off, none⟩ → BsAt W b (off + i) x) ∧ (x.ca = none → x.cc = 0) := by
      intro i hi
      obtain ⟨ce, h1, h2, h3⟩ := hel i hi
      rw [cellsB8] at h1 h2
      obtain ⟨ca, cc, cd, rfl, hbt, hnil, hz⟩ := h3.bytes
      have g0 := h2 0 (by omega)
      simp only [Nat.mul_one, Nat.add_zero] at g0
      refine ⟨⟨ca, cc, cd⟩, by simpa using g0, fun b off e => ?_, fun e => (hnil e).2⟩
      subst e
      rw [Addr.add_lit] at g0
      exact ⟨by simpa using g0, hbt, fun e => (hnil e).1, hz⟩
    obtain ⟨L, hll, hp⟩ := choose_below this
    subst hll
    refine ⟨some a, cap, L, rfl, fun i x hx => ?_, by omega, fun x hx e => by
      obtain ⟨i, hi, rfl⟩ := List.mem_iff_getElem.1 hx
      obtain ⟨y, h1, h2, h3, h4⟩ := hp i hi
      rw [List.getElem?_eq_getElem hi] at h1
      injection h1 with h1
      subst h1
      exact h4 e⟩
    have hi := (List.getElem?_eq_some_iff.1 hx).1
    obtain ⟨y, h1, h2, h3, _⟩ := hp i hi
    obtain ⟨y0, h10, h20, h30, _⟩ := hp 0 (by omega)
    rw [hx] at h1
    injection h1 with h1
    subst h1
    have ha : a = ⟨a.block, a.off, none⟩ := by
      have := plain_addr h20
      simpa [Addr.add] using this
    exact ⟨a.block, a.off, by rw [← ha], h3 _ _ ha⟩
theorem Rd.bss {W : World} {cs : List Value} (h : Rd W 24 cs) : ∃ ao cap L, cs = [.slice ao (L : List Bs).length cap] ∧ BssAt W ao L ∧ L.length * 24 ≤ 140737488351232 := by
  obtain ⟨ao, cap, L, h1, h2, h3, _⟩ := h.bssN
  exact ⟨ao, cap, L, h1, h2, h3⟩
theorem Rd.moduleN {W : World} {ce : List Value} (h : Rd W 26 ce) (hl : ce.length = 4) : ∃ m : Md, ce = [.string m.nm, .slice m.ao m.T.length m.cap, .slice m.fo m.F.length m.fc, .slice m.co m.C.length m.cc] ∧ MdOk W m ∧ ∀ x ∈ m.C, x.ca = none → x.cc = 0 := by
  have h0 : Rd W 9 ((ce.drop 0).take (Tryd.prog.cellsOf 9)) := h.struct Tryd.underlying26 0 _ rfl
  have h1 : Rd W 22 ((ce.drop 1).take (Tryd.prog.cellsOf 22)) := h.struct Tryd.underlying26 1 _ rfl
  have h2 : Rd W 23 ((ce.drop 2).take (Tryd.prog.cellsOf 23)) := h.struct Tryd.underlying26 2 _ rfl
  have h3 : Rd W 24 ((ce.drop 3).take (Tryd.prog.cellsOf 24)) := h.struct Tryd.underlying26 3 _ rfl
  rw [cellsS] at h0
  rw [cellsCs] at h1
  rw [cellsFnS] at h2
  rw [cellsBsS] at h3
  obtain ⟨s, e0, hs⟩ := h0.str Tryd.underlying9
  obtain ⟨ao, cap, T, e1, hT, hz⟩ := h1.tab
  obtain ⟨fo, fc, F, e2, hF, hzf⟩ := h2.funcs
  obtain ⟨co, cc, C, e3, hC, hzc, hnn⟩ := h3.bssN
  refine ⟨⟨s, ao, cap, T, fo, fc, F, co, cc, C⟩, ?_, ⟨hT, hz, hF, hzf, hC, hzc, hs⟩, hnn⟩
  match ce, hl with
  | [x, y, z, u], _ =>
    simp at e0 e1 e2 e3
    rw [e0, e1, e2, e3]
theorem Rd.module {W : World} {ce : List Value} (h : Rd W 26 ce) (hl : ce.length = 4) : ∃ m : Md, ce = [.string m.nm, .slice m.ao m.T.length m.cap, .slice m.fo m.F.length m.fc, .slice m.co m.C.length m.cc] ∧ MdOk W m := by
  obtain ⟨m, h1, h2, _⟩ := h.moduleN hl
  exact ⟨m, h1, h2⟩
end Go.Proofs.YtgelbihdcfgjcaaDoor
