/-
  What the row's condition on the package's variable gives: its six words lie in its cells; and a heap that meets it.
-/
import Derived.Test.YtbbfnampjbdnbaaDoorKWords
import Derived.ProofKit
import Derived.LaidMore
import Derived.OpenShut
import Derived.Stop.Joined
namespace Go.Proofs.YtbbfnampjbdnbaaDoor
open Go.ChangeShapes Go.WideShapes Go.ChangeAt Go.WideMaps Go.WideElems Go.RowKit
set_option maxRecDepth 20000

def laid1 : List (String × DataW Unit) := [("proviso/types.words", Rows.laid_proviso_types_words)]
theorem gWords : Tryd.prog.globalNamed "proviso/types.words" = some 0 := by kernel_rfl
theorem tWords : (Tryd.prog.globals[0]?).map (·.type) = some 114 := by kernel_rfl

theorem door_met (os : Os) (args : Array Value) : laidMetH Tryd.prog laid1 ((World.doorLaid Tryd.prog 400 os).forCall (fun _ _ => 0) ⟨#[], args, []⟩).memory :=
  laidMetH_of_parts3 (fuel := 8) (laidMet_of_run' 8 (by kernel_rfl) (by kernel_rfl)) (by kernel_rfl) (by kernel_rfl)

theorem words_at : ∀ j, j < 6 → ([.lit (.string [116, 111, 112]), .lit (.string [105, 110, 116]), .lit (.string [98, 111, 111, 108]), .lit (.string [110, 117, 108, 108]), .lit (.string [105, 110, 116, 115]), .lit (.string [97, 110, 121])] : List (DataW Unit))[j]? = some (.lit (.string (wordD j).data.toList)) := by
  intro j hj
  rcases (show j = 0 ∨ j = 1 ∨ j = 2 ∨ j = 3 ∨ j = 4 ∨ j = 5 by omega) with rfl | rfl | rfl | rfl | rfl | rfl <;> rfl
theorem of_laid {W : World} (h : laidMetH Tryd.prog laid1 W) : WordsAt W := by
  rw [MakeChecks.laidMetH_plain _ _ _ (by kernel_rfl)] at h
  obtain ⟨ps, ⟨g0, t0, cs0, f0, p0, q0, hg0, ht0, hv0, hd0, _, _⟩, _, _⟩ := h
  obtain rfl := Option.some.inj (gWords.symm.trans hg0)
  obtain rfl := Option.some.inj (tWords.symm.trans ht0)
  obtain ⟨xs, m1, rfl, hx1, hlen, hn3, hel⟩ := DataW.trod_array Tryd.underlying114 hd0
  have c9 : Tryd.prog.cellsOf 9 = 1 := by kernel_rfl
  simp only [Prod.mk.injEq] at hx1
  have hl := DataW.agg.inj hx1.1
  intro j hj
  have hcell := World.var?_cell hg0 hv0 j
  have hjl : j < xs.length := by omega
  have h0 := hel j (by omega)
  rw [List.getElem?_eq_getElem hjl, c9] at h0
  obtain ⟨s, e1, e2, _⟩ := DataW.trod_string Tryd.underlying9 h0
  have hw := words_at j hj
  rw [hl, List.getElem?_map, List.getElem?_eq_getElem hjl, e2] at hw
  simp at hw
  have hs : s = wordD j := bytes_inj (by simpa using hw)
  subst hs
  rw [hcell]
  have hjc : j < cs0.toList.length := by
    have c32 : Tryd.prog.cellsOf 114 = 6 := by kernel_rfl
    rw [hlen, c32]
    exact hj
  have := congrArg List.head? e1
  simp [List.head?_take, List.head?_drop] at this
  simpa using this
end Go.Proofs.YtbbfnampjbdnbaaDoor
