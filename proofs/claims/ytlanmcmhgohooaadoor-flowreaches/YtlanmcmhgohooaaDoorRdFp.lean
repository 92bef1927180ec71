/-
  How a row of instructions that came in as an argument is read, with the bounds of their addresses and first operands. No Go in it.
-/
import Derived.Test.YtlanmcmhgohooaaDoorRdFl
namespace Go.Proofs.YtlanmcmhgohooaaDoor
open Go.ChangeShapes Go.WideShapes Go.ChangeAt Go.RowKit
set_option maxRecDepth 20000

theorem Rd.instrP {W : World} {ce : List Value} (h : Rd W 31 ce) (hl : ce.length = 4) : ∃ (p : Int) (op : Nat) (a b : Int), ce = [.int .i64 p, .int .u8 (op : Int), .int .i64 a, .int .i64 b] ∧ op < 256 ∧ (-9223372036854775808 ≤ p ∧ p ≤ 9223372036854775807) ∧ (-9223372036854775808 ≤ a ∧ a ≤ 9223372036854775807) ∧ (-9223372036854775808 ≤ b ∧ b ≤ 9223372036854775807) := by
  have h0 : Rd W 3 ((ce.drop 0).take (Tryd.prog.cellsOf 3)) := h.struct Tryd.underlying31 0 _ rfl
  have h1 : Rd W 5 ((ce.drop 1).take (Tryd.prog.cellsOf 5)) := h.struct Tryd.underlying31 1 _ rfl
  have h2 : Rd W 3 ((ce.drop 2).take (Tryd.prog.cellsOf 3)) := h.struct Tryd.underlying31 2 _ rfl
  have h3 : Rd W 3 ((ce.drop 3).take (Tryd.prog.cellsOf 3)) := h.struct Tryd.underlying31 3 _ rfl
  rw [cellsIn1] at h0 h2 h3
  rw [cellsIn8] at h1
  obtain ⟨p, e0, hp⟩ := h0.int Tryd.underlying3
  obtain ⟨o, e1, ho⟩ := h1.int Tryd.underlying5
  obtain ⟨a, e2, ha⟩ := h2.int Tryd.underlying3
  obtain ⟨b, e3, hb⟩ := h3.int Tryd.underlying3
  have hb8 := u8_bounds ho
  refine ⟨p, o.toNat, a, b, ?_, by omega, bounds_i64 hp, bounds_i64 ha, bounds_i64 hb⟩
  rw [Int.toNat_of_nonneg hb8.1]
  match ce, hl with
  | [x, y, z, u], _ =>
    simp at e0 e1 e2 e3
    rw [e0, e1, e2, e3]
theorem Rd.instrsP {W : World} {cs : List Value} (h : Rd W 25 cs) : ∃ ao cap l, cs = [.slice ao (l : List Ix).length cap] ∧ XsAt W ao l ∧ (ao = none → l = []) ∧ l.length * 32 ≤ 140737488351232 ∧ (∀ x ∈ l, -9223372036854775808 ≤ x.p ∧ x.p ≤ 9223372036854775807) ∧ (∀ x ∈ l, -9223372036854775808 ≤ x.a ∧ x.a ≤ 9223372036854775807) := by
  rcases h.slice Tryd.underlying25 with rfl | ⟨a, len, cap, rfl, hl, hb, hel⟩
  · exact ⟨none, 0, [], rfl, fun i x hx => by simp at hx, fun _ => rfl, by simp, (fun x hx => by cases hx), fun x hx => by cases hx⟩
  · rw [bytesX] at hb
    have : ∀ i, i < len → ∃ x : Ix, W.cell? (a.add (i * 4)) = some (.int .i64 x.p) ∧ ((-9223372036854775808 ≤ x.p ∧ x.p ≤ 9223372036854775807) ∧ (-9223372036854775808 ≤ x.a ∧ x.a ≤ 9223372036854775807)) ∧ ∀ b off, a = ⟨b, off, none⟩ → IxAt W b (off + i * 4) x := by
      intro i hi
      obtain ⟨ce, h1, h2, h3⟩ := hel i hi
      rw [cellsX] at h1 h2
      obtain ⟨p, op, x, y, rfl, ho, hxp, hxa, _⟩ := h3.instrP h1
      refine ⟨⟨p, op, x, y⟩, by simpa using h2 0 (by omega), ⟨hxp, hxa⟩, fun b off e => ?_⟩
      subst e
      have g0 := h2 0 (by omega)
      have g1 := h2 1 (by omega)
      have g2 := h2 2 (by omega)
      have g3 := h2 3 (by omega)
      rw [Addr.add_lit] at g0 g1 g2 g3
      exact ⟨by simpa using g0, by simpa [Nat.add_assoc] using g1, by simpa [Nat.add_assoc] using g2, by simpa [Nat.add_assoc] using g3, ho⟩
    obtain ⟨L, hll, hp⟩ := choose_below this
    subst hll
    have hbb : ∀ x ∈ L, (-9223372036854775808 ≤ x.p ∧ x.p ≤ 9223372036854775807) ∧ (-9223372036854775808 ≤ x.a ∧ x.a ≤ 9223372036854775807) := by
      intro x hx
      obtain ⟨i, hi⟩ := List.mem_iff_getElem?.1 hx
      obtain ⟨y, h1, _, h3, _⟩ := hp i (List.getElem?_eq_some_iff.1 hi).1
      rw [hi] at h1
      injection h1 with h1
      rw [h1]
      exact h3
    refine ⟨some a, cap, L, rfl, fun i x hx => ?_, fun h => by simp at h, by omega, fun x hx => (hbb x hx).1, fun x hx => (hbb x hx).2⟩
    have hi := (List.getElem?_eq_some_iff.1 hx).1
    obtain ⟨y, h1, h2, _, h3⟩ := hp i hi
    obtain ⟨y0, h10, h20, _, h30⟩ := hp 0 (by omega)
    rw [hx] at h1
    injection h1 with h1
    subst h1
    have ha : a = ⟨a.block, a.off, none⟩ := by
      have := plain_addr h20
      simpa [Addr.add] using this
    exact ⟨a.block, a.off, by rw [← ha], h3 _ _ ha⟩
end Go.Proofs.YtlanmcmhgohooaaDoor
