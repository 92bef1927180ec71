/-
  What the row's condition on the package's variables gives: the widths and the words of types lie in their cells; and a heap that meets it.
-/
import Derived.Test.YtkodmpcnndbngaaGreatDoorIn
import Derived.Test.YtkodmpcnndbngaaGreatDoorKWords
import Derived.ProofKit
import Derived.LaidMore
import Derived.OpenShut
import Derived.Stop.Joined
namespace Go.Proofs.YtkodmpcnndbngaaGreatDoor
open Go.ChangeShapes Go.WideShapes Go.ChangeAt Go.WideMaps Go.WideElems Go.RowKit
set_option maxRecDepth 20000

def laidTW : List (String × DataW Unit) := [("proviso/code.widths", Rows.laid_proviso_code_widths), ("proviso/types.words", Rows.laid_proviso_types_words)]
theorem gWidT : Tryz.prog.globalNamed "proviso/code.widths" = some 0 := by kernel_rfl
theorem tWidT : (Tryz.prog.globals[0]?).map (·.type) = some 115 := by kernel_rfl
theorem gWordsT : Tryz.prog.globalNamed "proviso/types.words" = some 1 := by kernel_rfl
theorem tWordsT : (Tryz.prog.globals[1]?).map (·.type) = some 138 := by kernel_rfl
theorem door_metTW (os : Os) (args : Array Value) : laidMetH Tryz.prog laidTW ((World.doorLaid Tryz.prog 400 os).forCall (fun _ _ => 0) ⟨#[], args, []⟩).memory :=
  laidMetH_of_parts3 (fuel := 8) (laidMet_of_run' 8 (by kernel_rfl) (by kernel_rfl)) (by kernel_rfl) (by kernel_rfl)
def widLT : List (DataW Unit) := (List.range 34).map fun j => .agg [.lit (.int .i64 (wA j : Int)), .lit (.int .i64 (wB j : Int))]
theorem wid_eqT : (Rows.laid_proviso_code_widths : DataW Unit) = .agg widLT := by rfl
theorem list_twoT {α : Type} {l : List α} (h : l.length = 2) : ∃ u v, l = [u, v] := by
  match l, h with
  | [u, v], _ => exact ⟨u, v, rfl⟩
theorem wid_ofT {W : World} {g0 : Nat} {t0 : TypeId} {cs0 : Array Value} {f0 : Nat} {p0 : List MemPlace} (hg0 : Tryz.prog.globalNamed "proviso/code.widths" = some g0) (ht0 : (Tryz.prog.globals[g0]?).map (·.type) = some t0) (hv0 : W.var? Tryz.prog "proviso/code.widths" = some cs0)
    (hd0 : DataW.trod (fun _ => ()) Tryz.prog W 0 (fun _ => true) false f0 t0 cs0.toList = some (Rows.laid_proviso_code_widths, p0)) : WidAt W := by
  obtain rfl := Option.some.inj (gWidT.symm.trans hg0)
  obtain rfl := Option.some.inj (tWidT.symm.trans ht0)
  obtain ⟨xs, m1, rfl, hx1, hlen, hn3, hel⟩ := DataW.trod_array Tryz.underlying115 hd0
  have c49 : Tryz.prog.cellsOf 114 = 2 := by kernel_rfl
  have c1 : Tryz.prog.cellsOf 3 = 1 := by kernel_rfl
  have c50 : Tryz.prog.cellsOf 115 = 68 := by kernel_rfl
  simp only [Prod.mk.injEq] at hx1
  have hl := DataW.agg.inj (wid_eqT.symm.trans hx1.1)
  intro op ho
  have hjl : op < xs.length := by omega
  have h0 := hel op ho
  rw [List.getElem?_eq_getElem hjl, c49] at h0
  obtain ⟨ys, n, _, e2, _, hy, hfs⟩ := DataW.trod_struct Tryz.underlying114 h0
  have hy2 : ys.length = 2 := hy
  have a0 : _ = ys[0]? := hfs 0 _ rfl
  have a1 : _ = ys[1]? := hfs 1 _ rfl
  rw [List.getElem?_eq_getElem (show 0 < ys.length by omega)] at a0
  rw [List.getElem?_eq_getElem (show 1 < ys.length by omega)] at a1
  obtain ⟨n0, e01, e02, _⟩ := DataW.trod_int Tryz.underlying3 a0
  obtain ⟨n1, e11, e12, _⟩ := DataW.trod_int Tryz.underlying3 a1
  have hw : widLT[op]? = some (.agg [.lit (.int .i64 (wA op : Int)), .lit (.int .i64 (wB op : Int))]) := by
    unfold widLT
    rw [List.getElem?_map, List.getElem?_range ho]
    rfl
  rw [hl, List.getElem?_map, List.getElem?_eq_getElem hjl, e2] at hw
  obtain ⟨u, v, rfl⟩ : ∃ u v, ys = [u, v] := list_twoT hy2
  simp only [List.getElem_cons_zero, List.getElem_cons_succ] at e02 e12
  subst e02 e12
  simp at hw
  obtain ⟨rfl, rfl⟩ := hw
  have hcl : cs0.toList.length = 68 := by rw [hlen, c50]
  have k0 := World.var?_cell hg0 hv0 (op * 2)
  have k1 := World.var?_cell hg0 hv0 (op * 2 + 1)
  have q0 := congrArg (fun l : List Value => l[0]?) e01
  have q1 := congrArg (fun l : List Value => l[0]?) e11
  simp [c1, List.getElem?_drop] at q0 q1
  exact ⟨by rw [k0]; simpa using q0, by rw [k1]; simpa using q1⟩
theorem words_atT : ∀ j, j < 6 → ([.lit (.string [116, 111, 112]), .lit (.string [105, 110, 116]), .lit (.string [98, 111, 111, 108]), .lit (.string [110, 117, 108, 108]), .lit (.string [105, 110, 116, 115]), .lit (.string [97, 110, 121])] : List (DataW Unit))[j]? = some (.lit (.string (wordD j).data.toList)) := by
  intro j hj
  rcases (show j = 0 ∨ j = 1 ∨ j = 2 ∨ j = 3 ∨ j = 4 ∨ j = 5 by omega) with rfl | rfl | rfl | rfl | rfl | rfl <;> rfl
theorem words_ofT {W : World} {g0 : Nat} {t0 : TypeId} {cs0 : Array Value} {f0 : Nat} {p0 : List MemPlace} (hg0 : Tryz.prog.globalNamed "proviso/types.words" = some g0) (ht0 : (Tryz.prog.globals[g0]?).map (·.type) = some t0) (hv0 : W.var? Tryz.prog "proviso/types.words" = some cs0)
    (hd0 : DataW.trod (fun _ => ()) Tryz.prog W 0 (fun _ => true) false f0 t0 cs0.toList = some (Rows.laid_proviso_types_words, p0)) : WordsAt W := by
  obtain rfl := Option.some.inj (gWordsT.symm.trans hg0)
  obtain rfl := Option.some.inj (tWordsT.symm.trans ht0)
  obtain ⟨xs, m1, rfl, hx1, hlen, hn3, hel⟩ := DataW.trod_array Tryz.underlying138 hd0
  have c9 : Tryz.prog.cellsOf 9 = 1 := by kernel_rfl
  simp only [Prod.mk.injEq] at hx1
  have hl := DataW.agg.inj hx1.1
  intro j hj
  have hcell := World.var?_cell hg0 hv0 j
  have hjl : j < xs.length := by omega
  have h0 := hel j (by omega)
  rw [List.getElem?_eq_getElem hjl, c9] at h0
  obtain ⟨s, e1, e2, _⟩ := DataW.trod_string Tryz.underlying9 h0
  have hw := words_atT j hj
  rw [hl, List.getElem?_map, List.getElem?_eq_getElem hjl, e2] at hw
  simp at hw
  have hs : s = wordD j := bytes_inj (by simpa using hw)
  subst hs
  rw [hcell]
  have hjc : j < cs0.toList.length := by
    have c32 : Tryz.prog.cellsOf 138 = 6 := by kernel_rfl
    rw [hlen, c32]
    exact hj
  have := congrArg List.head? e1
  simp [List.head?_take, List.head?_drop] at this
  simpa using this
theorem of_laidTW {W : World} (h : laidMetH Tryz.prog laidTW W) : WordsAt W ∧ WidAt W := by
  rw [MakeChecks.laidMetH_plain _ _ _ (by kernel_rfl)] at h
  obtain ⟨ps, ⟨g0, t0, cs0, f0, p0, q0, hg0, ht0, hv0, hd0, ⟨g1, t1, cs1, f1, p1, q1, hg1, ht1, hv1, hd1, _⟩, _⟩, _⟩ := h
  exact ⟨words_ofT hg1 ht1 hv1 hd1, wid_ofT hg0 ht0 hv0 hd0⟩
end Go.Proofs.YtkodmpcnndbngaaGreatDoor
