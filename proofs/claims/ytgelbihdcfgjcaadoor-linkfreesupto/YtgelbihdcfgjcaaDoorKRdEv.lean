/-
  How an environment that came in as an argument is read. No Go in it.
-/
import Derived.Test.YtgelbihdcfgjcaaDoorRdCls
import Derived.Test.YtgelbihdcfgjcaaDoorKRdTy
import Derived.Test.YtgelbihdcfgjcaaDoorKSg1
namespace Go.Proofs.YtgelbihdcfgjcaaDoor
open Go.ChangeShapes Go.WideShapes Go.ChangeAt Go.RowKit
set_option maxRecDepth 20000

theorem cellsPs : Tryd.prog.cellsOf 34 = 1 := by kernel_rfl
theorem cellsSg : Tryd.prog.cellsOf 37 = 2 := by kernel_rfl
theorem bytesSg : Tryd.prog.bytesOf 37 = 32 := by kernel_rfl
theorem cellsCs : Tryd.prog.cellsOf 22 = 1 := by kernel_rfl
theorem Rd.sig {W : World} {ce : List Value} (h : Rd W 37 ce) (hl : ce.length = 2) : ∃ x : Sg, ce = [.slice x.po x.ps.length x.pc, .int .u8 (x.rt : Int)] ∧ SgOk W x := by
  match ce, hl with
  | [v0, v1], _ =>
    have h0 : Rd W 34 (([v0, v1].drop 0).take (Tryd.prog.cellsOf 34)) := h.struct Tryd.underlying37 0 _ rfl
    have h1 : Rd W 35 (([v0, v1].drop 1).take (Tryd.prog.cellsOf 35)) := h.struct Tryd.underlying37 1 _ rfl
    rw [cellsPs] at h0
    rw [cellsT] at h1
    obtain ⟨po, pc, ps, e0, hp, hn, hb, hz⟩ := h0.types
    obtain ⟨t, e1, ht⟩ := h1.type
    simp at e0 e1
    subst e0 e1
    exact ⟨⟨po, pc, ps, t⟩, rfl, hp, hn, hb, hz, ht⟩
end Go.Proofs.YtgelbihdcfgjcaaDoor
