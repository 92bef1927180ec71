/-
  What the row's condition on the package's variables gives: the widths and the words lie in their cells; and a heap that meets it.
-/
import Derived.Test.YthdgbdjagjagpaaGreatDoorOpenedW
import Derived.Test.YthdgbdjagjagpaaGreatDoorWd1
namespace Go.Proofs.YthdgbdjagjagpaaGreatDoor
open Go.ChangeShapes Go.WideShapes Go.ChangeAt Go.WideMaps Go.WideElems Go.RowKit
set_option maxRecDepth 20000

def laidA : List (String × DataW Unit) := [("proviso/code.widths", Rows.laid_proviso_code_widths), ("proviso/code.words", Rows.laid_proviso_code_words)]
def laidB : List (String × DataW Unit) := [("proviso/code.words", Rows.laid_proviso_code_words), ("proviso/code.widths", Rows.laid_proviso_code_widths)]
theorem gWrd : Tryz.prog.globalNamed "proviso/code.words" = some 0 := by kernel_rfl
theorem tWrd : (Tryz.prog.globals[0]?).map (·.type) = some 124 := by kernel_rfl
theorem door_metA (os : Os) (args : Array Value) : laidMetH Tryz.prog laidA ((World.doorLaid Tryz.prog 400 os).forCall (fun _ _ => 0) ⟨#[], args, []⟩).memory :=
  laidMetH_of_parts3 (fuel := 8) (laidMet_of_run' 8 (by kernel_rfl) (by kernel_rfl)) (by kernel_rfl) (by kernel_rfl)
theorem door_metB (os : Os) (args : Array Value) : laidMetH Tryz.prog laidB ((World.doorLaid Tryz.prog 400 os).forCall (fun _ _ => 0) ⟨#[], args, []⟩).memory :=
  laidMetH_of_parts3 (fuel := 8) (laidMet_of_run' 8 (by kernel_rfl) (by kernel_rfl)) (by kernel_rfl) (by kernel_rfl)
def wordD34 : List (DataW Unit) := wordsL.map fun s => .lit (.string s.data.toList)
theorem words_eq : (Rows.laid_proviso_code_words : DataW Unit) = .agg wordD34 := by rfl
theorem data_inj {s t : ByteArray} (h : s.data.toList = t.data.toList) : s = t := by
  cases s; cases t
  simp only at h
  rw [Array.toList_inj] at h
  rw [h]

theorem wid_of {W : World} {g0 : Nat} {t0 : TypeId} {cs0 : Array Value} {f0 : Nat} {p0 : List MemPlace} (hg0 : Tryz.prog.globalNamed "proviso/code.widths" = some g0) (ht0 : (Tryz.prog.globals[g0]?).map (·.type) = some t0) (hv0 : W.var? Tryz.prog "proviso/code.widths" = some cs0)
    (hd0 : DataW.trod (fun _ => ()) Tryz.prog W 0 (fun _ => true) false f0 t0 cs0.toList = some (Rows.laid_proviso_code_widths, p0)) : WidAt W := by
  obtain rfl := Option.some.inj (gWid.symm.trans hg0)
  obtain rfl := Option.some.inj (tWid.symm.trans ht0)
  obtain ⟨xs, m1, rfl, hx1, hlen, hn3, hel⟩ := DataW.trod_array Tryz.underlying136 hd0
  have c49 : Tryz.prog.cellsOf 135 = 2 := by kernel_rfl
  have c1 : Tryz.prog.cellsOf 3 = 1 := by kernel_rfl
  have c50 : Tryz.prog.cellsOf 136 = 68 := by kernel_rfl
  simp only [Prod.mk.injEq] at hx1
  have hl := DataW.agg.inj (wid_eq.symm.trans hx1.1)
  intro op ho
  have hjl : op < xs.length := by omega
  have h0 := hel op ho
  rw [List.getElem?_eq_getElem hjl, c49] at h0
  obtain ⟨ys, n, _, e2, _, hy, hfs⟩ := DataW.trod_struct Tryz.underlying135 h0
  have hy2 : ys.length = 2 := hy
  have a0 : _ = ys[0]? := hfs 0 _ rfl
  have a1 : _ = ys[1]? := hfs 1 _ rfl
  rw [List.getElem?_eq_getElem (show 0 < ys.length by omega)] at a0
  rw [List.getElem?_eq_getElem (show 1 < ys.length by omega)] at a1
  obtain ⟨n0, e01, e02, _⟩ := DataW.trod_int Tryz.underlying3 a0
  obtain ⟨n1, e11, e12, _⟩ := DataW.trod_int Tryz.underlying3 a1
  have hw : widL[op]? = some (.agg [.lit (.int .i64 (wA op : Int)), .lit (.int .i64 (wB op : Int))]) := by
    unfold widL
    rw [List.getElem?_map, List.getElem?_range ho]
    rfl
  rw [hl, List.getElem?_map, List.getElem?_eq_getElem hjl, e2] at hw
  obtain ⟨u, v, rfl⟩ : ∃ u v, ys = [u, v] := list_two hy2
  simp only [List.getElem_cons_zero, List.getElem_cons_succ] at e02 e12
  subst e02 e12
  simp at hw
  obtain ⟨rfl, rfl⟩ := hw
  have hcl : cs0.toList.length = 68 := by rw [hlen, c50]
  have k0 := World.var?_cell hg0 hv0 (op * 2)
  have k1 := World.var?_cell hg0 hv0 (op * 2 + 1)
  have q0 := congrArg (fun l : List Value => l[0]?) e01
  have q1 := congrArg (fun l : List Value => l[0]?) e11
  simp [c1, List.getElem?_drop] at q0 q1
  exact ⟨by rw [k0]; simpa using q0, by rw [k1]; simpa using q1⟩

theorem wrd_of {W : World} {g0 : Nat} {t0 : TypeId} {cs0 : Array Value} {f0 : Nat} {p0 : List MemPlace} (hg0 : Tryz.prog.globalNamed "proviso/code.words" = some g0) (ht0 : (Tryz.prog.globals[g0]?).map (·.type) = some t0) (hv0 : W.var? Tryz.prog "proviso/code.words" = some cs0)
    (hd0 : DataW.trod (fun _ => ()) Tryz.prog W 0 (fun _ => true) false f0 t0 cs0.toList = some (Rows.laid_proviso_code_words, p0)) : WordsC W := by
  obtain rfl := Option.some.inj (gWrd.symm.trans hg0)
  obtain rfl := Option.some.inj (tWrd.symm.trans ht0)
  obtain ⟨xs, m1, rfl, hx1, hlen, hn3, hel⟩ := DataW.trod_array Tryz.underlying124 hd0
  have c9 : Tryz.prog.cellsOf 9 = 1 := by kernel_rfl
  have c34 : Tryz.prog.cellsOf 124 = 34 := by kernel_rfl
  simp only [Prod.mk.injEq] at hx1
  have hl := DataW.agg.inj (words_eq.symm.trans hx1.1)
  have hcl : cs0.toList.length = 34 := by rw [hlen, c34]
  have hcells : ∀ j, j < 34 → cs0[j]? = some (.string (wC j)) := fun j hj => by
    have hjl : j < xs.length := by omega
    have h0 := hel j hj
    rw [List.getElem?_eq_getElem hjl, c9] at h0
    obtain ⟨s, e1, e2, _⟩ := DataW.trod_string Tryz.underlying9 h0
    have hw : wordD34[j]? = some (.lit (.string (wC j).data.toList)) := by
      have hlw : wordsL.length = 34 := rfl
      unfold wordD34 wC
      rw [List.getElem?_map, List.getElem?_eq_getElem (by omega), List.getD_eq_getElem?_getD, List.getElem?_eq_getElem (by omega)]
      rfl
    rw [hl, List.getElem?_map, List.getElem?_eq_getElem hjl, e2] at hw
    simp at hw
    have hs : s = wC j := data_inj (by simpa using hw)
    subst hs
    have := congrArg List.head? e1
    simp [List.head?_take, List.head?_drop] at this
    simpa using this
  have hA : cs0 = wA34 := by
    refine Array.ext_getElem? fun j => ?_
    by_cases hj : j < 34
    · rw [hcells j hj, wA34_at j hj]
    · have h1 : cs0.size = 34 := by simpa using hcl
      have h2 : wA34.size = 34 := rfl
      rw [Array.getElem?_eq_none (by omega), Array.getElem?_eq_none (by omega)]
  subst hA
  simp only [World.var?, hg0, Option.bind_some] at hv0
  split at hv0
  · rename_i cs t fr hh
    injection hv0 with hv0
    subst hv0
    exact ⟨t, fr, hh⟩
  · cases hv0
theorem of_laidA {W : World} (h : laidMetH Tryz.prog laidA W) : WidAt W ∧ WordsC W := by
  rw [MakeChecks.laidMetH_plain _ _ _ (by kernel_rfl)] at h
  obtain ⟨ps, ⟨g0, t0, cs0, f0, p0, q0, hg0, ht0, hv0, hd0, ⟨g1, t1, cs1, f1, p1, q1, hg1, ht1, hv1, hd1, _⟩, _⟩, _⟩ := h
  exact ⟨wid_of hg0 ht0 hv0 hd0, wrd_of hg1 ht1 hv1 hd1⟩
theorem of_laidB {W : World} (h : laidMetH Tryz.prog laidB W) : WidAt W ∧ WordsC W := by
  rw [MakeChecks.laidMetH_plain _ _ _ (by kernel_rfl)] at h
  obtain ⟨ps, ⟨g0, t0, cs0, f0, p0, q0, hg0, ht0, hv0, hd0, ⟨g1, t1, cs1, f1, p1, q1, hg1, ht1, hv1, hd1, _⟩, _⟩, _⟩ := h
  exact ⟨wid_of hg1 ht1 hv1 hd1, wrd_of hg0 ht0 hv0 hd0⟩
end Go.Proofs.YthdgbdjagjagpaaGreatDoor
