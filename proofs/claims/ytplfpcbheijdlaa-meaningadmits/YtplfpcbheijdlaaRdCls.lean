/-
  How a table of classes that came in as an argument is read. No Go in it.
-/
import Derived.Test.YtplfpcbheijdlaaRd
import Derived.Test.YtplfpcbheijdlaaCls
namespace Go.Proofs.Ytplfpcbheijdlaa
open Go.ChangeShapes Go.WideShapes Go.ChangeAt Go.RowKit

theorem cellsI : Try.prog.cellsOf 3 = 1 := by kernel_rfl
theorem cellsS : Try.prog.cellsOf 9 = 1 := by kernel_rfl
theorem cellsT : Try.prog.cellsOf 23 = 1 := by kernel_rfl
theorem Rd.type {W : World} {cs : List Value} (h : Rd W 23 cs) : ∃ t : Nat, cs = [.int .u8 (t : Int)] ∧ t < 256 := by
  obtain ⟨n, rfl, hw⟩ := h.int Try.underlying23
  have hb := u8_bounds hw
  exact ⟨n.toNat, by rw [Int.toNat_of_nonneg hb.1], by omega⟩

theorem i64_bounds {n : Int} (h : (Lit.int .i64 n).wf = true) : -9223372036854775808 ≤ n ∧ n ≤ 9223372036854775807 := bounds_i64 h
end Go.Proofs.Ytplfpcbheijdlaa
