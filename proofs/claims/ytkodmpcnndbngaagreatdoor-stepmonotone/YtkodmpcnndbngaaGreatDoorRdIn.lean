/-
  How an instruction that came in as an argument is read. No Go in it.
-/
import Derived.Test.YtkodmpcnndbngaaGreatDoorRd
namespace Go.Proofs.YtkodmpcnndbngaaGreatDoor
open Go.ChangeShapes Go.WideShapes Go.ChangeAt Go.RowKit
set_option maxRecDepth 20000

theorem cellsIn1 : Tryz.prog.cellsOf 3 = 1 := by kernel_rfl
theorem cellsIn8 : Tryz.prog.cellsOf 5 = 1 := by kernel_rfl
theorem Rd.instr {W : World} {ce : List Value} (h : Rd W 31 ce) (hl : ce.length = 4) : ∃ (p : Int) (op : Nat) (a b : Int), ce = [.int .i64 p, .int .u8 (op : Int), .int .i64 a, .int .i64 b] ∧ op < 256 ∧ (-9223372036854775808 ≤ a ∧ a ≤ 9223372036854775807) ∧ (-9223372036854775808 ≤ b ∧ b ≤ 9223372036854775807) := by
  have h0 : Rd W 3 ((ce.drop 0).take (Tryz.prog.cellsOf 3)) := h.struct Tryz.underlying31 0 _ rfl
  have h1 : Rd W 5 ((ce.drop 1).take (Tryz.prog.cellsOf 5)) := h.struct Tryz.underlying31 1 _ rfl
  have h2 : Rd W 3 ((ce.drop 2).take (Tryz.prog.cellsOf 3)) := h.struct Tryz.underlying31 2 _ rfl
  have h3 : Rd W 3 ((ce.drop 3).take (Tryz.prog.cellsOf 3)) := h.struct Tryz.underlying31 3 _ rfl
  rw [cellsIn1] at h0 h2 h3
  rw [cellsIn8] at h1
  obtain ⟨p, e0, hp⟩ := h0.int Tryz.underlying3
  obtain ⟨o, e1, ho⟩ := h1.int Tryz.underlying5
  obtain ⟨a, e2, ha⟩ := h2.int Tryz.underlying3
  obtain ⟨b, e3, hb⟩ := h3.int Tryz.underlying3
  have hb8 := u8_bounds ho
  refine ⟨p, o.toNat, a, b, ?_, by omega, bounds_i64 ha, bounds_i64 hb⟩
  rw [Int.toNat_of_nonneg hb8.1]
  match ce, hl with
  | [x, y, z, u], _ =>
    simp at e0 e1 e2 e3
    rw [e0, e1, e2, e3]
end Go.Proofs.YtkodmpcnndbngaaGreatDoor
