/-
  How a request, and an answer, that came in as an argument is read. No Go in it.
-/
import Derived.Test.YtghdefhbncejjaaRd
namespace Go.Proofs.Ytghdefhbncejjaa
open Go.ChangeShapes Go.WideShapes Go.ChangeAt Go.RowKit

theorem cellsTI : Try.prog.cellsOf 3 = 1 := by kernel_rfl
theorem cellsTB : Try.prog.cellsOf 22 = 1 := by kernel_rfl
theorem Rd.request {W : World} {ce : List Value} (h : Rd W 24 ce) (hl : ce.length = 3) : ∃ (cm nu : Int) (ao : Option Addr) (cap : Nat) (l : List UInt8), ce = [.int .i64 cm, .int .i64 nu, .slice ao l.length cap] ∧ BAt W ao l ∧ (ao = none → l = [] ∧ cap = 0) ∧ l.length ≤ 140737488351232 := by
  match ce, hl with
  | [v0, v1, v2], _ =>
    have h0 : Rd W 3 (([v0, v1, v2].drop 0).take (Try.prog.cellsOf 3)) := h.struct Try.underlying24 0 _ rfl
    have h1 : Rd W 3 (([v0, v1, v2].drop 1).take (Try.prog.cellsOf 3)) := h.struct Try.underlying24 1 _ rfl
    have h2 : Rd W 22 (([v0, v1, v2].drop 2).take (Try.prog.cellsOf 22)) := h.struct Try.underlying24 2 _ rfl
    rw [cellsTI] at h0 h1
    rw [cellsTB] at h2
    obtain ⟨n0, e0, _⟩ := h0.int Try.underlying3
    obtain ⟨n1, e1, _⟩ := h1.int Try.underlying3
    obtain ⟨ao, cap, l, e2, hb, hn, hz⟩ := h2.bytes
    simp at e0 e1 e2
    subst e0 e1 e2
    exact ⟨n0, n1, ao, cap, l, rfl, hb, hn, hz⟩
theorem Rd.answer {W : World} {ce : List Value} (h : Rd W 26 ce) (hl : ce.length = 2) : ∃ (st : Int) (ao : Option Addr) (cap : Nat) (l : List UInt8), ce = [.int .i64 st, .slice ao l.length cap] ∧ BAt W ao l ∧ (ao = none → l = [] ∧ cap = 0) ∧ l.length ≤ 140737488351232 := by
  match ce, hl with
  | [v0, v1], _ =>
    have h0 : Rd W 3 (([v0, v1].drop 0).take (Try.prog.cellsOf 3)) := h.struct Try.underlying26 0 _ rfl
    have h1 : Rd W 22 (([v0, v1].drop 1).take (Try.prog.cellsOf 22)) := h.struct Try.underlying26 1 _ rfl
    rw [cellsTI] at h0
    rw [cellsTB] at h1
    obtain ⟨n0, e0, _⟩ := h0.int Try.underlying3
    obtain ⟨ao, cap, l, e1, hb, hn, hz⟩ := h1.bytes
    simp at e0 e1
    subst e0 e1
    exact ⟨n0, ao, cap, l, rfl, hb, hn, hz⟩
end Go.Proofs.Ytghdefhbncejjaa
