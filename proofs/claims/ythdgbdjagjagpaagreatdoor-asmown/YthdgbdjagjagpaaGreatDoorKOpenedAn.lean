/-
  What the rows' condition on the text layer's variables gives: widths, words, the powers of ten, strconv's error of range; of bytealg.MaxLen the world's shape tells that it is a number; and a heap that meets it.
-/
import Derived.Test.YthdgbdjagjagpaaGreatDoorKOpenedAs
import Derived.Test.YthdgbdjagjagpaaGreatDoorShAnd
import Derived.Lay
import Derived.Test.YthdgbdjagjagpaaGreatDoorJNU
namespace Go.Proofs.YthdgbdjagjagpaaGreatDoor
open Go.ChangeShapes Go.WideShapes Go.ChangeAt Go.WideMaps Go.WideElems Go.RowKit
set_option maxRecDepth 20000

structure LdN (W : World) : Prop where
  a : LdA W
  r : RgAt W
  m : MlAt W
  g : 10 ≤ W.heap.size
theorem LdN.below {w w' : World} (h : LdN w) (hb : Below w.heap.size w w') : LdN w' := ⟨h.a.below hb, h.r.below hb, h.m.below hb, Nat.le_trans h.g hb.size⟩
def laidAn : List (String × DataW Unit) := [("math/bits.deBruijn32tab", Rows.laid_math_bits_deBruijn32tab), ("math/bits.deBruijn64tab", Rows.laid_math_bits_deBruijn64tab), ("internal/strconv.uint64pow10", Rows.laid_internal_strconv_uint64pow10), ("unicode/utf8.acceptRanges", Rows.laid_unicode_utf8_acceptRanges), ("strconv.ErrRange", Rows.laid_strconv_ErrRange), ("strconv.ErrSyntax", Rows.laid_strconv_ErrSyntax), ("proviso/code.widths", Rows.laid_proviso_code_widths), ("proviso/code.words", Rows.laid_proviso_code_words), ("unicode/utf8.first", Rows.laid_unicode_utf8_first)]
theorem gRgN : Tryz.prog.globalNamed "strconv.ErrRange" = some 7 := by kernel_rfl
theorem tRgN : (Tryz.prog.globals[7]?).map (·.type) = some 76 := by kernel_rfl
theorem gsz : Tryz.prog.globals.size = 10 := by kernel_rfl
theorem ml_of_shape {W : World} (h : W.ShapedOpen Tryz.prog) : MlAt W :=
  cell_of_shapedOpen_int (t := 3) (zero := #[.int .i64 0]) (g := 2) h (by rw [gsz]; decide) (by kernel_rfl) (by kernel_rfl) (by kernel_rfl) (by kernel_rfl) Tryz.underlying3
theorem last_row : (((begin Tryz.prog (fun _ _ => 0) default).world.heap[10 - 1]?).bind Obj.row?).isSome = true := by kernel_rfl
theorem ng_of_shape {W : World} (h : W.ShapedOpen Tryz.prog) : 10 ≤ W.heap.size := by
  obtain ⟨⟨z, t⟩, hz⟩ := Option.isSome_iff_exists.1 last_row
  obtain ⟨cs, hh, _⟩ := h.1 (10 - 1) z t (by rw [gsz]; decide) hz
  have := (Array.getElem?_eq_some_iff.1 hh).1
  omega
theorem door_metAn (os : Os) (args : Array Value) : laidMetH Tryz.prog laidAn ((World.laidAll Tryz.prog os laidAn).forCall (fun _ _ => 0) ⟨#[], args, []⟩).memory := by
  rw [MakeChecks.laidMetH_plain _ _ _ (by kernel_rfl)]
  exact laidMet_laidAll _ (by kernel_rfl) (by kernel_rfl)
theorem of_laidAn {W : World} (h : laidMetH Tryz.prog laidAn W) (hsh : W.ShapedOpen Tryz.prog) : LdN W := by
  rw [MakeChecks.laidMetH_plain _ _ _ (by kernel_rfl)] at h
  obtain ⟨ps, ⟨g0, t0, cs0, f0, p0, q0, _, _, _, _, ⟨g1, t1, cs1, f1, p1, q1, _, _, _, _, ⟨g2, t2, cs2, f2, p2, q2, hg2, ht2, hv2, hd2, ⟨g3, t3, cs3, f3, p3, q3, _, _, _, _, ⟨g4, t4, cs4, f4, p4, q4, hg4, ht4, hv4, hd4, ⟨g5, t5, cs5, f5, p5, q5, _, _, _, _, ⟨g6, t6, cs6, f6, p6, q6, hg6, ht6, hv6, hd6, ⟨g7, t7, cs7, f7, p7, q7, hg7, ht7, hv7, hd7, _⟩, _⟩, _⟩, _⟩, _⟩, _⟩, _⟩, _⟩, _⟩ := h
  refine ⟨⟨wid_of hg6 ht6 hv6 hd6, wrd_of hg7 ht7 hv7 hd7, ?_⟩, ?_, ml_of_shape hsh, ng_of_shape hsh⟩
  · obtain rfl := Option.some.inj (gPw.symm.trans hg2)
    obtain rfl := Option.some.inj (tPw.symm.trans ht2)
    unfold PwT Lib.TabIs
    rw [pw_eq] at hd2
    rw [hv2, ← Lib.cells_of_tab Tryz.underlying183 Tryz.underlying166 (by kernel_rfl) (by kernel_rfl) hd2]
  · obtain rfl := Option.some.inj (gRgN.symm.trans hg4)
    obtain rfl := Option.some.inj (tRgN.symm.trans ht4)
    have hc := World.var?_cell hg4 hv4 0
    rcases trod_ifaceS ⟨_, Tryz.underlying76⟩ hd4 with h1 | ⟨u, v, h1⟩
    · refine ⟨.nilIface, ?_, Or.inl rfl⟩
      rw [hc, ← Array.getElem?_toList, h1]
      rfl
    · refine ⟨.iface u v, ?_, Or.inr ⟨u, v, rfl⟩⟩
      rw [hc, ← Array.getElem?_toList, h1]
      rfl
end Go.Proofs.YthdgbdjagjagpaaGreatDoor
