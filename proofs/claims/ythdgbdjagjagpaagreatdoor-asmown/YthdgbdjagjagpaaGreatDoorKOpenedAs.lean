/-
  What the row's condition on asm's five variables gives: widths, words, the powers of ten; and a heap that meets it.
-/
import Derived.Test.YthdgbdjagjagpaaGreatDoorOpenedWW
import Derived.Test.YthdgbdjagjagpaaGreatDoorKWalkAsmPrints
namespace Go.Proofs.YthdgbdjagjagpaaGreatDoor
open Go.ChangeShapes Go.WideShapes Go.ChangeAt Go.WideMaps Go.WideElems Go.RowKit
set_option maxRecDepth 20000

def laidAs : List (String × DataW Unit) := [("math/bits.deBruijn32tab", Rows.laid_math_bits_deBruijn32tab), ("math/bits.deBruijn64tab", Rows.laid_math_bits_deBruijn64tab), ("internal/strconv.uint64pow10", Rows.laid_internal_strconv_uint64pow10), ("proviso/code.widths", Rows.laid_proviso_code_widths), ("proviso/code.words", Rows.laid_proviso_code_words)]
theorem gPw : Tryz.prog.globalNamed "internal/strconv.uint64pow10" = some 3 := by kernel_rfl
theorem tPw : (Tryz.prog.globals[3]?).map (·.type) = some 183 := by kernel_rfl
theorem door_metAs (os : Os) (args : Array Value) : laidMetH Tryz.prog laidAs ((World.doorLaid Tryz.prog 400 os).forCall (fun _ _ => 0) ⟨#[], args, []⟩).memory :=
  laidMetH_of_parts3 (fuel := 8) (laidMet_of_run' 8 (by kernel_rfl) (by kernel_rfl)) (by kernel_rfl) (by kernel_rfl)
theorem pw_eq : (Rows.laid_internal_strconv_uint64pow10 : DataW Unit) = Lib.tabData .u64 Lib.pow10Tab := by rfl
theorem of_laidAs {W : World} (h : laidMetH Tryz.prog laidAs W) : LdA W := by
  rw [MakeChecks.laidMetH_plain _ _ _ (by kernel_rfl)] at h
  obtain ⟨ps, ⟨g0, t0, cs0, f0, p0, q0, _, _, _, _, ⟨g1, t1, cs1, f1, p1, q1, _, _, _, _, ⟨g2, t2, cs2, f2, p2, q2, hg2, ht2, hv2, hd2, ⟨g3, t3, cs3, f3, p3, q3, hg3, ht3, hv3, hd3, ⟨g4, t4, cs4, f4, p4, q4, hg4, ht4, hv4, hd4, _⟩, _⟩, _⟩, _⟩, _⟩, _⟩ := h
  refine ⟨wid_of hg3 ht3 hv3 hd3, wrd_of hg4 ht4 hv4 hd4, ?_⟩
  obtain rfl := Option.some.inj (gPw.symm.trans hg2)
  obtain rfl := Option.some.inj (tPw.symm.trans ht2)
  unfold PwT Lib.TabIs
  rw [pw_eq] at hd2
  rw [hv2, ← Lib.cells_of_tab Tryz.underlying183 Tryz.underlying166 (by kernel_rfl) (by kernel_rfl) hd2]
end Go.Proofs.YthdgbdjagjagpaaGreatDoor
