/-
  What the row's condition on the package's variable gives: the widths lie in its cells; and a heap that meets it.
-/
import Derived.Test.YtgelbihdcfgjcaaDoorJIN
import Derived.ProofKit
import Derived.LaidMore
import Derived.OpenShut
import Derived.Stop.Joined
namespace Go.Proofs.YtgelbihdcfgjcaaDoor
open Go.ChangeShapes Go.WideShapes Go.ChangeAt Go.WideMaps Go.WideElems Go.RowKit
set_option maxRecDepth 20000

def laid1 : List (String × DataW Unit) := [("proviso/code.widths", Rows.laid_proviso_code_widths)]
theorem gWid : Tryd.prog.globalNamed "proviso/code.widths" = some 0 := by kernel_rfl
theorem tWid : (Tryd.prog.globals[0]?).map (·.type) = some 87 := by kernel_rfl

theorem door_met (os : Os) (args : Array Value) : laidMetH Tryd.prog laid1 ((World.doorLaid Tryd.prog 400 os).forCall (fun _ _ => 0) ⟨#[], args, []⟩).memory :=
  laidMetH_of_parts3 (fuel := 8) (laidMet_of_run' 8 (by kernel_rfl) (by kernel_rfl)) (by kernel_rfl) (by kernel_rfl)

def widL : List (DataW Unit) := (List.range 34).map fun j => .agg [.lit (.int .i64 (wA j : Int)), .lit (.int .i64 (wB j : Int))]
theorem wid_eq : (Rows.laid_proviso_code_widths : DataW Unit) = .agg widL := by rfl
theorem list_two {α : Type} {l : List α} (h : l.length = 2) : ∃ u v, l = [u, v] := by
  match l, h with
  | [u, v], _ => exact ⟨u, v, rfl⟩
theorem of_laid {W : World} (h : laidMetH Tryd.prog laid1 W) : WidAt W := by
  rw [MakeChecks.laidMetH_plain _ _ _ (by kernel_rfl)] at h
  obtain ⟨ps, ⟨g0, t0, cs0, f0, p0, q0, hg0, ht0, hv0, hd0, _, _⟩, _, _⟩ := h
  obtain rfl := Option.some.inj (gWid.symm.trans hg0)
  obtain rfl := Option.some.inj (tWid.symm.trans ht0)
  obtain ⟨xs, m1, rfl, hx1, hlen, hn3, hel⟩ := DataW.trod_array Tryd.underlying87 hd0
  have c49 : Tryd.prog.cellsOf 86 = 2 := by kernel_rfl
  have c1 : Tryd.prog.cellsOf 3 = 1 := by kernel_rfl
  have c50 : Tryd.prog.cellsOf 87 = 68 := by kernel_rfl
  simp only [Prod.mk.injEq] at hx1
  have hl := DataW.agg.inj (wid_eq.symm.trans hx1.1)
  intro op ho
  have hjl : op < xs.length := by omega
  have h0 := hel op ho
  rw [List.getElem?_eq_getElem hjl, c49] at h0
  obtain ⟨ys, n, _, e2, _, hy, hfs⟩ := DataW.trod_struct Tryd.underlying86 h0
  have hy2 : ys.length = 2 := hy
  have a0 : _ = ys[0]? := hfs 0 _ rfl
  have a1 : _ = ys[1]? := hfs 1 _ rfl
  rw [List.getElem?_eq_getElem (show 0 < ys.length by omega)] at a0
  rw [List.getElem?_eq_getElem (show 1 < ys.length by omega)] at a1
  obtain ⟨n0, e01, e02, _⟩ := DataW.trod_int Tryd.underlying3 a0
  obtain ⟨n1, e11, e12, _⟩ := DataW.trod_int Tryd.underlying3 a1
  have hw : widL[op]? = some (.agg [.lit (.int .i64 (wA op : Int)), .lit (.int .i64 (wB op : Int))]) := by
    unfold widL
    rw [List.getElem?_map, List.getElem?_range ho]
    rfl
  rw [hl, List.getElem?_map, List.getElem?_eq_getElem hjl, e2] at hw
  obtain ⟨u, v, rfl⟩ : ∃ u v, ys = [u, v] := list_two hy2
  simp only [List.getElem_cons_zero, List.getElem_cons_succ] at e02 e12
  subst e02 e12
  simp at hw
  obtain ⟨rfl, rfl⟩ := hw
  have hcl : cs0.toList.length = 68 := by rw [hlen, c50]
  have k0 := World.var?_cell hg0 hv0 (op * 2)
  have k1 := World.var?_cell hg0 hv0 (op * 2 + 1)
  have q0 := congrArg (fun l : List Value => l[0]?) e01
  have q1 := congrArg (fun l : List Value => l[0]?) e11
  simp [c1, List.getElem?_drop] at q0 q1
  exact ⟨by rw [k0]; simpa using q0, by rw [k1]; simpa using q1⟩
end Go.Proofs.YtgelbihdcfgjcaaDoor
