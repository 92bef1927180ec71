/-
  What the row's condition on the package's variables gives: the handle of the type error and the words of types lie in their cells; and a heap that meets it.
-/
import Derived.Test.YtibgfdjopikafaaGreatDoorJFT
import Derived.Test.YtibgfdjopikafaaGreatDoorKWords
import Derived.ProofKit
import Derived.LaidMore
import Derived.LaidHandle
import Derived.OpenShut
import Derived.Stop.Joined
namespace Go.Proofs.YtibgfdjopikafaaGreatDoor
open Go.ChangeShapes Go.WideShapes Go.ChangeAt Go.WideMaps Go.WideElems Go.RowKit
set_option maxRecDepth 20000

def laidEW : List (String × DataW Unit) := [("errors.errorType", Rows.laid_errors_errorType), ("proviso/types.words", Rows.laid_proviso_types_words)]
theorem etEW : Tryz.prog.globalNamed "errors.errorType" = some 0 := by kernel_rfl
theorem rtEW : (Tryz.prog.cutTypes.find? (·.1 == "internal/reflectlite.rtype")).map (·.2) = some 151 := by kernel_rfl
theorem oneRowEW : ((List.range Tryz.prog.types.size).filter fun t => Tryz.prog.rowNamed t [101, 114, 114, 111, 114]) = [61] := by kernel_rfl
theorem gWordsT : Tryz.prog.globalNamed "proviso/types.words" = some 1 := by kernel_rfl
theorem tWordsT : (Tryz.prog.globals[1]?).map (·.type) = some 186 := by kernel_rfl
theorem words_atT : ∀ j, j < 6 → ([.lit (.string [116, 111, 112]), .lit (.string [105, 110, 116]), .lit (.string [98, 111, 111, 108]), .lit (.string [110, 117, 108, 108]), .lit (.string [105, 110, 116, 115]), .lit (.string [97, 110, 121])] : List (DataW Unit))[j]? = some (.lit (.string (wordD j).data.toList)) := by
  intro j hj
  rcases (show j = 0 ∨ j = 1 ∨ j = 2 ∨ j = 3 ∨ j = 4 ∨ j = 5 by omega) with rfl | rfl | rfl | rfl | rfl | rfl <;> rfl
theorem words_ofT {W : World} {g0 : Nat} {t0 : TypeId} {cs0 : Array Value} {f0 : Nat} {p0 : List MemPlace} (hg0 : Tryz.prog.globalNamed "proviso/types.words" = some g0) (ht0 : (Tryz.prog.globals[g0]?).map (·.type) = some t0) (hv0 : W.var? Tryz.prog "proviso/types.words" = some cs0)
    (hd0 : DataW.trod (fun _ => ()) Tryz.prog W 0 (fun _ => true) false f0 t0 cs0.toList = some (Rows.laid_proviso_types_words, p0)) : WordsAt W := by
  obtain rfl := Option.some.inj (gWordsT.symm.trans hg0)
  obtain rfl := Option.some.inj (tWordsT.symm.trans ht0)
  obtain ⟨xs, m1, rfl, hx1, hlen, hn3, hel⟩ := DataW.trod_array Tryz.underlying186 hd0
  have c9 : Tryz.prog.cellsOf 9 = 1 := by kernel_rfl
  simp only [Prod.mk.injEq] at hx1
  have hl := DataW.agg.inj hx1.1
  intro j hj
  have hcell := World.var?_cell hg0 hv0 j
  have hjl : j < xs.length := by omega
  have h0 := hel j (by omega)
  rw [List.getElem?_eq_getElem hjl, c9] at h0
  obtain ⟨s, e1, e2, _⟩ := DataW.trod_string Tryz.underlying9 h0
  have hw := words_atT j hj
  rw [hl, List.getElem?_map, List.getElem?_eq_getElem hjl, e2] at hw
  simp at hw
  have hs : s = wordD j := bytes_inj (by simpa using hw)
  subst hs
  rw [hcell]
  have hjc : j < cs0.toList.length := by
    have c32 : Tryz.prog.cellsOf 186 = 6 := by kernel_rfl
    rw [hlen, c32]
    exact hj
  have := congrArg List.head? e1
  simp [List.head?_take, List.head?_drop] at this
  simpa using this
theorem door_metEW (os : Os) (args : Array Value) : laidMetH Tryz.prog laidEW ((World.doorLaid Tryz.prog 400 os).forCall (fun _ _ => 0) ⟨#[], args, []⟩).memory :=
  laidMetH_of_parts3 (fuel := 8) (laidMet_of_run' 8 (by kernel_rfl) (by kernel_rfl)) (by kernel_rfl) (by kernel_rfl)
theorem of_laidEW {W : World} (h : laidMetH Tryz.prog laidEW W) : WordsAt W ∧ ErrAt W := by
  have h' : laidMet Tryz.prog [("proviso/types.words", Rows.laid_proviso_types_words)] W ∧ handlesMet Tryz.prog [("errors.errorType", Rows.laid_errors_errorType)] W := h
  obtain ⟨hl, hh⟩ := h'
  obtain ⟨ps, ⟨g1, t1, cs1, f1, p1, q1, hg1, ht1, hv1, hd1, _⟩, _⟩ := hl
  refine ⟨words_ofT hg1 ht1 hv1 hd1, ?_⟩
  obtain ⟨name, u, ty, e1, e2, e3, e4, e5⟩ := hh _ List.mem_cons_self
  have en : name = [101, 114, 114, 111, 114] := (Option.some.inj e1).symm
  subst en
  obtain rfl := Option.some.inj (rtEW.symm.trans e2)
  have hm : ty ∈ (List.range Tryz.prog.types.size).filter fun t => Tryz.prog.rowNamed t [101, 114, 114, 111, 114] := List.mem_filter.2 ⟨List.mem_range.2 e3, e4⟩
  rw [oneRowEW] at hm
  obtain rfl := List.mem_singleton.1 hm
  have hh : typeHandle Tryz.prog 61 = .pointer (some ⟨2, 61, none⟩) := by kernel_rfl
  rw [hh] at e5
  simpa [ErrAt] using World.var?_cell etEW e5 0
end Go.Proofs.YtibgfdjopikafaaGreatDoor
