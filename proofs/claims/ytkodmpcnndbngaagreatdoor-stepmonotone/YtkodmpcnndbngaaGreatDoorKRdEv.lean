/-
  How an environment that came in as an argument is read. No Go in it.
-/
import Derived.Test.YtkodmpcnndbngaaGreatDoorRdCls
import Derived.Test.YtkodmpcnndbngaaGreatDoorKRdTy
import Derived.Test.YtkodmpcnndbngaaGreatDoorJSG
namespace Go.Proofs.YtkodmpcnndbngaaGreatDoor
open Go.ChangeShapes Go.WideShapes Go.ChangeAt Go.RowKit
set_option maxRecDepth 20000

theorem cellsPs : Tryz.prog.cellsOf 44 = 1 := by kernel_rfl
theorem cellsSg : Tryz.prog.cellsOf 46 = 2 := by kernel_rfl
theorem bytesSg : Tryz.prog.bytesOf 46 = 32 := by kernel_rfl
theorem cellsCs : Tryz.prog.cellsOf 22 = 1 := by kernel_rfl
theorem cellsSs : Tryz.prog.cellsOf 23 = 1 := by kernel_rfl
theorem Rd.sig {W : World} {ce : List Value} (h : Rd W 46 ce) (hl : ce.length = 2) : ∃ x : Sg, ce = [.slice x.po x.ps.length x.pc, .int .u8 (x.rt : Int)] ∧ SgOk W x := by
  match ce, hl with
  | [v0, v1], _ =>
    have h0 : Rd W 44 (([v0, v1].drop 0).take (Tryz.prog.cellsOf 44)) := h.struct Tryz.underlying46 0 _ rfl
    have h1 : Rd W 26 (([v0, v1].drop 1).take (Tryz.prog.cellsOf 26)) := h.struct Tryz.underlying46 1 _ rfl
    rw [cellsPs] at h0
    rw [cellsT] at h1
    obtain ⟨po, pc, ps, e0, hp, hn, hb, hz⟩ := h0.types
    obtain ⟨t, e1, ht⟩ := h1.type
    simp at e0 e1
    subst e0 e1
    exact ⟨⟨po, pc, ps, t⟩, rfl, hp, hn, hb, hz, ht⟩
theorem Rd.sigs {W : World} {cs : List Value} (h : Rd W 23 cs) : ∃ ao cap L, cs = [.slice ao (L : List Sg).length cap] ∧ SgsAt W ao L ∧ L.length * 32 ≤ 140737488351232 := by
  rcases h.slice Tryz.underlying23 with rfl | ⟨a, len, cap, rfl, hl, hb, hel⟩
  · exact ⟨none, 0, [], rfl, fun i x hx => by simp at hx, by simp⟩
  · rw [bytesSg] at hb
    have : ∀ i, i < len → ∃ x : Sg, W.cell? (a.add (i * 2)) = some (.slice x.po x.ps.length x.pc) ∧ ∀ b off, a = ⟨b, off, none⟩ → SgAt W b (off + i * 2) x := by
      intro i hi
      obtain ⟨ce, h1, h2, h3⟩ := hel i hi
      rw [cellsSg] at h1 h2
      obtain ⟨x, rfl, hok⟩ := h3.sig h1
      refine ⟨x, by simpa using h2 0 (by omega), fun b off e => ?_⟩
      subst e
      have g0 := h2 0 (by omega)
      have g1 := h2 1 (by omega)
      rw [Addr.add_lit] at g0 g1
      exact ⟨by simpa using g0, by simpa [Nat.add_assoc] using g1, hok⟩
    obtain ⟨L, hll, hp⟩ := choose_below this
    subst hll
    refine ⟨some a, cap, L, rfl, fun i x hx => ?_, by omega⟩
    have hi := (List.getElem?_eq_some_iff.1 hx).1
    obtain ⟨y, h1, h2, h3⟩ := hp i hi
    obtain ⟨y0, h10, h20, h30⟩ := hp 0 (by omega)
    rw [hx] at h1
    injection h1 with h1
    subst h1
    have ha : a = ⟨a.block, a.off, none⟩ := by
      have := plain_addr h20
      simpa [Addr.add] using this
    exact ⟨a.block, a.off, by rw [← ha], h3 _ _ ha⟩
theorem Rd.env {W : World} {ce : List Value} (h : Rd W 25 ce) (hl : ce.length = 3) : ∃ (ao : Option Addr) (cap : Nat) (T : List Cl) (so : Option Addr) (sc : Nat) (L : List Sg) (fn : Int), ce = [.slice ao T.length cap, .slice so L.length sc, .int .i64 fn] ∧ TabAt W ao T ∧ T.length * 48 ≤ 140737488351232 ∧ SgsAt W so L ∧ L.length * 32 ≤ 140737488351232 := by
  have h0 : Rd W 22 ((ce.drop 0).take (Tryz.prog.cellsOf 22)) := h.struct Tryz.underlying25 0 _ rfl
  have h1 : Rd W 23 ((ce.drop 1).take (Tryz.prog.cellsOf 23)) := h.struct Tryz.underlying25 1 _ rfl
  have h2 : Rd W 3 ((ce.drop 2).take (Tryz.prog.cellsOf 3)) := h.struct Tryz.underlying25 2 _ rfl
  rw [cellsCs] at h0
  rw [cellsSs] at h1
  rw [cellsI] at h2
  obtain ⟨ao, cap, T, e0, hT, hz⟩ := h0.tab
  obtain ⟨so, sc, L, e1, hL, hzl⟩ := h1.sigs
  obtain ⟨fn, e2, _⟩ := h2.int Tryz.underlying3
  refine ⟨ao, cap, T, so, sc, L, fn, ?_, hT, hz, hL, hzl⟩
  match ce, hl with
  | [x, y, z], _ =>
    simp at e0 e1 e2
    rw [e0, e1, e2]
end Go.Proofs.YtkodmpcnndbngaaGreatDoor
