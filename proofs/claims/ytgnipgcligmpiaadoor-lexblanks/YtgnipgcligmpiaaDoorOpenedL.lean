/-
  What the row's condition on the package's variable gives: its fifty texts lie in its cells; and a heap that meets it.
-/
import Derived.Test.YtgnipgcligmpiaaDoorLw1
import Derived.ProofKit
import Derived.LaidMore
import Derived.OpenShut
import Derived.Stop.Joined
namespace Go.Proofs.YtgnipgcligmpiaaDoor
open Go.ChangeShapes Go.WideShapes Go.ChangeAt Go.WideMaps Go.WideElems Go.RowKit
set_option maxRecDepth 20000

def laidL : List (String × DataW Unit) := [("proviso/lex.spelt", Rows.laid_proviso_lex_spelt)]
theorem gSp : Tryd.prog.globalNamed "proviso/lex.spelt" = some 0 := by kernel_rfl
theorem tSp : (Tryd.prog.globals[0]?).map (·.type) = some 58 := by kernel_rfl
theorem data_injL {a b : ByteArray} (h : a.data.toList = b.data.toList) : a = b := by
  cases a; cases b
  simp at h
  rw [h]
def spD : List (DataW Unit) := spL.map fun s => .lit (.string s.data.toList)
theorem sp_eq : (Rows.laid_proviso_lex_spelt : DataW Unit) = .agg spD := rfl

theorem door_met (os : Os) (args : Array Value) : laidMetH Tryd.prog laidL ((World.doorLaid Tryd.prog 400 os).forCall (fun _ _ => 0) ⟨#[], args, []⟩).memory :=
  laidMetH_of_parts3 (fuel := 8) (laidMet_of_run' 8 (by kernel_rfl) (by kernel_rfl)) (by kernel_rfl) (by kernel_rfl)

theorem of_laid {W : World} (h : laidMetH Tryd.prog laidL W) : SpAt W := by
  rw [MakeChecks.laidMetH_plain _ _ _ (by kernel_rfl)] at h
  obtain ⟨ps, ⟨g0, t0, cs0, f0, p0, q0, hg0, ht0, hv0, hd0, _, _⟩, _, _⟩ := h
  obtain rfl := Option.some.inj (gSp.symm.trans hg0)
  obtain rfl := Option.some.inj (tSp.symm.trans ht0)
  obtain ⟨xs, m1, rfl, hx1, hlen, hn3, hel⟩ := DataW.trod_array Tryd.underlying58 hd0
  have c9 : Tryd.prog.cellsOf 9 = 1 := by kernel_rfl
  have c50 : Tryd.prog.cellsOf 58 = 50 := by kernel_rfl
  simp only [Prod.mk.injEq] at hx1
  have hl := DataW.agg.inj (sp_eq.symm.trans hx1.1)
  have hcl : cs0.toList.length = 50 := by rw [hlen, c50]
  have hcells : ∀ j, j < 50 → cs0[j]? = some (.string (wK j)) := fun j hj => by
    have hjl : j < xs.length := by omega
    have h0 := hel j hj
    rw [List.getElem?_eq_getElem hjl, c9] at h0
    obtain ⟨s, e1, e2, _⟩ := DataW.trod_string Tryd.underlying9 h0
    have hw : spD[j]? = some (.lit (.string (wK j).data.toList)) := by
      have hlw : spL.length = 50 := rfl
      unfold spD wK
      rw [List.getElem?_map, List.getElem?_eq_getElem (by omega), List.getD_eq_getElem?_getD, List.getElem?_eq_getElem (by omega)]
      rfl
    rw [hl, List.getElem?_map, List.getElem?_eq_getElem hjl, e2] at hw
    simp at hw
    have hs : s = wK j := data_injL (by simpa using hw)
    subst hs
    have := congrArg List.head? e1
    simp [List.head?_take, List.head?_drop] at this
    simpa using this
  have hA : cs0 = wA50 := by
    refine Array.ext_getElem? fun j => ?_
    by_cases hj : j < 50
    · rw [hcells j hj, wA50_at j hj]
    · have h1 : cs0.size = 50 := by simpa using hcl
      have h2 : wA50.size = 50 := rfl
      rw [Array.getElem?_eq_none (by omega), Array.getElem?_eq_none (by omega)]
  subst hA
  simp only [World.var?, hg0, Option.bind_some] at hv0
  split at hv0
  · rename_i cs t fr hh
    injection hv0 with hv0
    subst hv0
    exact ⟨t, fr, hh⟩
  · cases hv0
end Go.Proofs.YtgnipgcligmpiaaDoor
