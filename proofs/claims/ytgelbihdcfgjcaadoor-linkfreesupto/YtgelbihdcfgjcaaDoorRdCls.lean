/-
  How a table of classes that came in as an argument is read. No Go in it.
-/
import Derived.Test.YtgelbihdcfgjcaaDoorRd
import Derived.Test.YtgelbihdcfgjcaaDoorCls
namespace Go.Proofs.YtgelbihdcfgjcaaDoor
open Go.ChangeShapes Go.WideShapes Go.ChangeAt Go.RowKit
set_option maxRecDepth 20000

theorem cellsI : Tryd.prog.cellsOf 3 = 1 := by kernel_rfl
theorem cellsS : Tryd.prog.cellsOf 9 = 1 := by kernel_rfl
theorem cellsT : Tryd.prog.cellsOf 35 = 1 := by kernel_rfl
theorem cellsFs : Tryd.prog.cellsOf 51 = 1 := by kernel_rfl
theorem cellsFl : Tryd.prog.cellsOf 56 = 2 := by kernel_rfl
theorem bytesFl : Tryd.prog.bytesOf 56 = 24 := by kernel_rfl
theorem cellsCl : Tryd.prog.cellsOf 53 = 3 := by kernel_rfl
theorem bytesCl : Tryd.prog.bytesOf 53 = 48 := by kernel_rfl

theorem Rd.type {W : World} {cs : List Value} (h : Rd W 35 cs) : ∃ t : Nat, cs = [.int .u8 (t : Int)] ∧ t < 256 := by
  obtain ⟨n, rfl, hw⟩ := h.int Tryd.underlying35
  have hb := u8_bounds hw
  exact ⟨n.toNat, by rw [Int.toNat_of_nonneg hb.1], by omega⟩

theorem Rd.field {W : World} {ce : List Value} (h : Rd W 56 ce) (hl : ce.length = 2) : ∃ x : Fl, ce = [.string x.nm, .int .u8 (x.ty : Int)] ∧ x.nm.size ≤ 140737488351232 ∧ x.ty < 256 := by
  match ce, hl with
  | [v0, v1], _ =>
    have h0 : Rd W 9 (([v0, v1].drop 0).take (Tryd.prog.cellsOf 9)) := h.struct Tryd.underlying56 0 _ rfl
    have h1 : Rd W 35 (([v0, v1].drop 1).take (Tryd.prog.cellsOf 35)) := h.struct Tryd.underlying56 1 _ rfl
    rw [cellsS] at h0
    rw [cellsT] at h1
    obtain ⟨s, e0, hs⟩ := h0.str Tryd.underlying9
    obtain ⟨t, e1, ht⟩ := h1.type
    simp at e0 e1
    subst e0 e1
    exact ⟨⟨s, t⟩, rfl, hs, ht⟩

theorem Rd.fields {W : World} {cs : List Value} (h : Rd W 51 cs) : ∃ ao cap L, cs = [.slice ao (L : List Fl).length cap] ∧ FsAt W ao L ∧ (ao = none → L = [] ∧ cap = 0) ∧ L.length ≤ cap ∧ L.length * 24 ≤ 140737488351232 := by
  rcases h.slice Tryd.underlying51 with rfl | ⟨a, len, cap, rfl, hl, hb, hel⟩
  · exact ⟨none, 0, [], rfl, fun i x hx => by simp at hx, fun _ => ⟨rfl, rfl⟩, Nat.le_refl _, by simp⟩
  · rw [bytesFl] at hb
    have : ∀ i, i < len → ∃ x : Fl, W.cell? (a.add (i * 2)) = some (.string x.nm) ∧ ∀ b off, a = ⟨b, off, none⟩ → FlAt W b (off + i * 2) x := by
      intro i hi
      obtain ⟨ce, h1, h2, h3⟩ := hel i hi
      rw [cellsFl] at h1 h2
      obtain ⟨x, rfl, hs, ht⟩ := h3.field h1
      refine ⟨x, by simpa using h2 0 (by omega), fun b off e => ?_⟩
      subst e
      have g0 := h2 0 (by omega)
      have g1 := h2 1 (by omega)
      rw [Addr.add_lit] at g0 g1
      exact ⟨by simpa using g0, by simpa [Nat.add_assoc] using g1, hs, ht⟩
    obtain ⟨L, hll, hp⟩ := choose_below this
    subst hll
    refine ⟨some a, cap, L, rfl, fun i x hx => ?_, fun e => (by cases e), hl, by omega⟩
    have hi := (List.getElem?_eq_some_iff.1 hx).1
    obtain ⟨y, h1, h2, h3⟩ := hp i hi
    obtain ⟨y0, h10, h20, h30⟩ := hp 0 (by omega)
    rw [hx] at h1
    injection h1 with h1
    subst h1
    have ha : a = ⟨a.block, a.off, none⟩ := by
      have := plain_addr h20
      simpa [Addr.add] using this
    exact ⟨a.block, a.off, by rw [← ha], h3 _ _ ha⟩

theorem i64_bounds {n : Int} (h : (Lit.int .i64 n).wf = true) : -9223372036854775808 ≤ n ∧ n ≤ 9223372036854775807 := bounds_i64 h
theorem Rd.class {W : World} {ce : List Value} (h : Rd W 53 ce) (hl : ce.length = 3) : ∃ x : Cl, ce = [.string x.nm, .int .i64 x.par, .slice x.fo x.fs.length x.fc] ∧ FsAt W x.fo x.fs ∧ (x.fo = none → x.fs = [] ∧ x.fc = 0) ∧ x.fs.length ≤ x.fc ∧ x.fs.length * 24 ≤ 140737488351232 ∧ x.nm.size ≤ 140737488351232 ∧ (-9223372036854775808 ≤ x.par ∧ x.par ≤ 9223372036854775807) := by
  match ce, hl with
  | [v0, v1, v2], _ =>
    have h0 : Rd W 9 (([v0, v1, v2].drop 0).take (Tryd.prog.cellsOf 9)) := h.struct Tryd.underlying53 0 _ rfl
    have h1 : Rd W 3 (([v0, v1, v2].drop 1).take (Tryd.prog.cellsOf 3)) := h.struct Tryd.underlying53 1 _ rfl
    have h2 : Rd W 51 (([v0, v1, v2].drop 2).take (Tryd.prog.cellsOf 51)) := h.struct Tryd.underlying53 2 _ rfl
    rw [cellsS] at h0
    rw [cellsI] at h1
    rw [cellsFs] at h2
    obtain ⟨s, e0, hs⟩ := h0.str Tryd.underlying9
    obtain ⟨p, e1, hp⟩ := h1.int Tryd.underlying3
    obtain ⟨fo, fc, fs, e2, hf, hn, hc, hz⟩ := h2.fields
    simp at e0 e1 e2
    subst e0 e1 e2
    exact ⟨⟨s, p, fo, fc, fs⟩, rfl, hf, hn, hc, hz, hs, i64_bounds hp⟩

theorem Rd.tab {W : World} {cs : List Value} (h : Rd W 22 cs) : ∃ ao cap T, cs = [.slice ao (T : List Cl).length cap] ∧ TabAt W ao T ∧ T.length * 48 ≤ 140737488351232 := by
  rcases h.slice Tryd.underlying22 with rfl | ⟨a, len, cap, rfl, hl, hb, hel⟩
  · exact ⟨none, 0, [], rfl, fun i x hx => by simp at hx, by simp⟩
  · rw [bytesCl] at hb
    have : ∀ i, i < len → ∃ x : Cl, W.cell? (a.add (i * 3)) = some (.string x.nm) ∧ ∀ b off, a = ⟨b, off, none⟩ → ClAt W b (off + i * 3) x := by
      intro i hi
      obtain ⟨ce, h1, h2, h3⟩ := hel i hi
      rw [cellsCl] at h1 h2
      obtain ⟨x, rfl, hf, hn, hc, hz, hs, hp⟩ := h3.class h1
      refine ⟨x, by simpa using h2 0 (by omega), fun b off e => ?_⟩
      subst e
      have g0 := h2 0 (by omega)
      have g1 := h2 1 (by omega)
      have g2 := h2 2 (by omega)
      rw [Addr.add_lit] at g0 g1 g2
      exact ⟨by simpa using g0, by simpa [Nat.add_assoc] using g1, by simpa [Nat.add_assoc] using g2, hf, hn, hc, hz, hs, hp⟩
    obtain ⟨L, hll, hp⟩ := choose_below this
    subst hll
    refine ⟨some a, cap, L, rfl, fun i x hx => ?_, by omega⟩
    have hi := (List.getElem?_eq_some_iff.1 hx).1
    obtain ⟨y, h1, h2, h3⟩ := hp i hi
    obtain ⟨y0, h10, h20, h30⟩ := hp 0 (by omega)
    rw [hx] at h1
    injection h1 with h1
    subst h1
    have ha : a = ⟨a.block, a.off, none⟩ := by
      have := plain_addr h20
      simpa [Addr.add] using this
    exact ⟨a.block, a.off, by rw [← ha], h3 _ _ ha⟩
end Go.Proofs.YtgelbihdcfgjcaaDoor
