/-
  What the row's condition on four variables gives: lex.spelt's fifty texts, the powers of ten; and a heap that meets it. How a row of numbers without a sign is read.
-/
import Derived.Test.YtgnipgcligmpiaaDoorOpenedL
import Derived.Test.YtgnipgcligmpiaaDoorLx21
import Derived.Test.YtgnipgcligmpiaaDoorRd
namespace Go.Proofs.YtgnipgcligmpiaaDoor
open Go.ChangeShapes Go.WideShapes Go.ChangeAt Go.WideMaps Go.WideElems Go.RowKit
set_option maxRecDepth 20000

def laid4 : List (String × DataW Unit) := [("math/bits.deBruijn32tab", Rows.laid_math_bits_deBruijn32tab), ("math/bits.deBruijn64tab", Rows.laid_math_bits_deBruijn64tab), ("internal/strconv.uint64pow10", Rows.laid_internal_strconv_uint64pow10), ("proviso/lex.spelt", Rows.laid_proviso_lex_spelt)]
theorem gPw : Tryd.prog.globalNamed "internal/strconv.uint64pow10" = some 1 := by kernel_rfl
theorem tPw : (Tryd.prog.globals[1]?).map (·.type) = some 71 := by kernel_rfl
theorem door_met4 (os : Os) (args : Array Value) : laidMetH Tryd.prog laid4 ((World.doorLaid Tryd.prog 400 os).forCall (fun _ _ => 0) ⟨#[], args, []⟩).memory :=
  laidMetH_of_parts3 (fuel := 8) (laidMet_of_run' 8 (by kernel_rfl) (by kernel_rfl)) (by kernel_rfl) (by kernel_rfl)
theorem pw_eq : (Rows.laid_internal_strconv_uint64pow10 : DataW Unit) = Lib.tabData .u64 Lib.pow10Tab := by rfl
theorem sp_of {W : World} {g0 : Nat} {t0 : TypeId} {cs0 : Array Value} {f0 : Nat} {p0 : List MemPlace} (hg0 : Tryd.prog.globalNamed "proviso/lex.spelt" = some g0) (ht0 : (Tryd.prog.globals[g0]?).map (·.type) = some t0) (hv0 : W.var? Tryd.prog "proviso/lex.spelt" = some cs0)
    (hd0 : DataW.trod (fun _ => ()) Tryd.prog W 0 (fun _ => true) false f0 t0 cs0.toList = some (Rows.laid_proviso_lex_spelt, p0)) : SpAt W := by
  obtain rfl := Option.some.inj (gSp.symm.trans hg0)
  obtain rfl := Option.some.inj (tSp.symm.trans ht0)
  obtain ⟨xs, m1, rfl, hx1, hlen, hn3, hel⟩ := DataW.trod_array Tryd.underlying58 hd0
  have c9 : Tryd.prog.cellsOf 9 = 1 := by kernel_rfl
  have c50 : Tryd.prog.cellsOf 58 = 50 := by kernel_rfl
  simp only [Prod.mk.injEq] at hx1
  have hl := DataW.agg.inj (sp_eq.symm.trans hx1.1)
  have hcl : cs0.toList.length = 50 := by rw [hlen, c50]
  have hcells : ∀ j, j < 50 → cs0[j]? = some (.string (wK j)) := fun j hj => by
    have hjl : j < xs.length := by omega
    have h0 := hel j hj
    rw [List.getElem?_eq_getElem hjl, c9] at h0
    obtain ⟨s, e1, e2, _⟩ := DataW.trod_string Tryd.underlying9 h0
    have hw : spD[j]? = some (.lit (.string (wK j).data.toList)) := by
      have hlw : spL.length = 50 := rfl
      unfold spD wK
      rw [List.getElem?_map, List.getElem?_eq_getElem (by omega), List.getD_eq_getElem?_getD, List.getElem?_eq_getElem (by omega)]
      rfl
    rw [hl, List.getElem?_map, List.getElem?_eq_getElem hjl, e2] at hw
    simp at hw
    have hs : s = wK j := data_injL (by simpa using hw)
    subst hs
    have := congrArg List.head? e1
    simp [List.head?_take, List.head?_drop] at this
    simpa using this
  have hA : cs0 = wA50 := by
    refine Array.ext_getElem? fun j => ?_
    by_cases hj : j < 50
    · rw [hcells j hj, wA50_at j hj]
    · have h1 : cs0.size = 50 := by simpa using hcl
      have h2 : wA50.size = 50 := rfl
      rw [Array.getElem?_eq_none (by omega), Array.getElem?_eq_none (by omega)]
  subst hA
  simp only [World.var?, hg0, Option.bind_some] at hv0
  split at hv0
  · rename_i cs t fr hh
    injection hv0 with hv0
    subst hv0
    exact ⟨t, fr, hh⟩
  · cases hv0
theorem of_laid4 {W : World} (h : laidMetH Tryd.prog laid4 W) : SpAt W ∧ PwAt W := by
  rw [MakeChecks.laidMetH_plain _ _ _ (by kernel_rfl)] at h
  obtain ⟨ps, ⟨g0, t0, cs0, f0, p0, q0, _, _, _, _, ⟨g1, t1, cs1, f1, p1, q1, _, _, _, _, ⟨g2, t2, cs2, f2, p2, q2, hg2, ht2, hv2, hd2, ⟨g3, t3, cs3, f3, p3, q3, hg3, ht3, hv3, hd3, _⟩, _⟩, _⟩, _⟩, _⟩ := h
  refine ⟨sp_of hg3 ht3 hv3 hd3, ?_⟩
  obtain rfl := Option.some.inj (gPw.symm.trans hg2)
  obtain rfl := Option.some.inj (tPw.symm.trans ht2)
  unfold PwAt Lib.TabIs
  rw [pw_eq] at hd2
  rw [hv2, ← Lib.cells_of_tab Tryd.underlying71 Tryd.underlying62 (by kernel_rfl) (by kernel_rfl) hd2]
theorem cellsUr : Tryd.prog.cellsOf 37 = 1 := by kernel_rfl
theorem bytesUr : Tryd.prog.bytesOf 37 = 8 := by kernel_rfl
theorem Rd.uints {W : World} {cs : List Value} (h : Rd W 39 cs) : ∃ ao cap l, cs = [.slice ao (l : List Int).length cap] ∧ UsAt W ao l ∧ l.length ≤ 17592186043904 := by
  rcases h.slice Tryd.underlying39 with rfl | ⟨a, len, cap, rfl, hl, hb, hel⟩
  · exact ⟨none, 0, [], rfl, fun i t ht => by simp at ht, by simp⟩
  · rw [bytesUr] at hb
    have : ∀ i, i < len → ∃ t : Int, W.cell? (a.add i) = some (.int .u64 t) ∧ (0 ≤ t ∧ t ≤ 18446744073709551615) := by
      intro i hi
      obtain ⟨ce, h1, h2, h3⟩ := hel i hi
      obtain ⟨n, rfl, hw⟩ := h3.int Tryd.underlying37
      have h4 := h2 0 (by rw [cellsUr]; omega)
      rw [cellsUr, show i * 1 + 0 = i from by omega] at h4
      exact ⟨n, h4, bounds_u64 hw⟩
    obtain ⟨l, hll, hp⟩ := choose_below this
    subst hll
    refine ⟨some a, cap, l, rfl, ?_, by omega⟩
    intro i t ht
    have hi := (List.getElem?_eq_some_iff.1 ht).1
    obtain ⟨x, h1, h2, h3⟩ := hp i hi
    obtain ⟨x0, h10, h20, _⟩ := hp 0 (by omega)
    have ha : a = ⟨a.block, a.off, none⟩ := by
      have := plain_addr h20
      simpa [Addr.add] using this
    rw [ht] at h1
    injection h1 with h1
    subst h1
    refine ⟨a.block, a.off, by rw [← ha], ?_, h3⟩
    rw [ha, Addr.add_lit] at h2
    exact h2
end Go.Proofs.YtgnipgcligmpiaaDoor
