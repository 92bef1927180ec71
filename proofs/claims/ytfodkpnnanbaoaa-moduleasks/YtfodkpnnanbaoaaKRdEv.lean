/-
  How an environment that came in as an argument is read. No Go in it.
-/
import Derived.Test.YtfodkpnnanbaoaaRdCls
import Derived.Test.YtfodkpnnanbaoaaKRdTy
import Derived.Test.YtfodkpnnanbaoaaKSg1
namespace Go.Proofs.Ytfodkpnnanbaoaa
open Go.ChangeShapes Go.WideShapes Go.ChangeAt Go.RowKit

theorem cellsPs : Try.prog.cellsOf 55 = 1 := by kernel_rfl
theorem cellsSg : Try.prog.cellsOf 57 = 2 := by kernel_rfl
theorem bytesSg : Try.prog.bytesOf 57 = 32 := by kernel_rfl
theorem cellsCs : Try.prog.cellsOf 28 = 1 := by kernel_rfl
theorem Rd.sig {W : World} {ce : List Value} (h : Rd W 57 ce) (hl : ce.length = 2) : ∃ x : Sg, ce = [.slice x.po x.ps.length x.pc, .int .u8 (x.rt : Int)] ∧ SgOk W x := by
  match ce, hl with
  | [v0, v1], _ =>
    have h0 : Rd W 55 (([v0, v1].drop 0).take (Try.prog.cellsOf 55)) := h.struct Try.underlying57 0 _ rfl
    have h1 : Rd W 42 (([v0, v1].drop 1).take (Try.prog.cellsOf 42)) := h.struct Try.underlying57 1 _ rfl
    rw [cellsPs] at h0
    rw [cellsT] at h1
    obtain ⟨po, pc, ps, e0, hp, hn, hb, hz⟩ := h0.types
    obtain ⟨t, e1, ht⟩ := h1.type
    simp at e0 e1
    subst e0 e1
    exact ⟨⟨po, pc, ps, t⟩, rfl, hp, hn, hb, hz, ht⟩
end Go.Proofs.Ytfodkpnnanbaoaa
