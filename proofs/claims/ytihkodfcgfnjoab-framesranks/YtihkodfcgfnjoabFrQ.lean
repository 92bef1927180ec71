/-
  The contract of provisoref03.Sub: what the plain function 'subF' says; nothing old is turned. Conditions: the table may be.
-/
import Derived.Test.YtihkodfcgfnjoabFrN
import Derived.Test.YtihkodfcgfnjoabRefSub
namespace Go.Proofs.Ytihkodfcgfnjoab
open Go.RowKit

theorem getD_some {l : List Nat} {i x : Nat} (h : l[i]? = some x) : l.getD i 0 = x := by rw [List.getD_eq_getElem?_getD, h]; rfl
theorem good_valid {n : Nat} {f : Fr} (hf : FrOk f) (h : chkF n f = 0) {i x : Nat} (hi : i < nF f) (hx : f.sl[i]? = some x) : validD n x = true := by
  obtain ⟨hs, _, hv⟩ := check_good h
  exact (all_iff (by rw [hf.len]; exact shape_n hs)).1 hv i x hi hx
theorem good_zero {n : Nat} {f : Fr} (hf : FrOk f) (h : chkF n f = 0) {i : Nat} (hi : nF f ≤ i) (h24 : i < 24) : f.sl[i]? = some 0 := by
  obtain ⟨hs, hq, _⟩ := check_good h
  exact (trim_iff hf hs).1 hq i hi h24
theorem subF_no1 {T : List Cl} {a b : Fr} (h : chkF T.length a ≠ 0) : subF T a b = false := by
  unfold subF mergeF
  rw [if_pos h, beq_eq_false_iff_ne.2 h]
  rfl
theorem subF_no2 {T : List Cl} {a b : Fr} (h0 : chkF T.length a = 0) (h : chkF T.length b ≠ 0) : subF T a b = false := by
  unfold subF mergeF
  rw [if_neg (by rw [h0]; simp), if_pos h, beq_eq_false_iff_ne.2 h]
  rfl
theorem subF_no3 {T : List Cl} {a b : Fr} (h0 : chkF T.length a = 0) (h1 : chkF T.length b = 0) (h : a.lo ≠ b.lo ∨ a.he ≠ b.he) : subF T a b = false := by
  unfold subF mergeF
  rw [if_neg (by rw [h0]; simp), if_neg (by rw [h1]; simp), if_pos h]
  rfl
theorem subF_iff {T : List Cl} {a b : Fr} (ha : FrOk a) (hb : FrOk b) (h0 : chkF T.length a = 0) (h1 : chkF T.length b = 0) (h2 : a.lo = b.lo) (h3 : a.he = b.he) :
    subF T a b = true ↔ ∀ i x y, i < nF a → a.sl[i]? = some x → b.sl[i]? = some y → subD T x y = true := by
  have hn : nF a = nF b := by unfold nF; rw [h2, h3]
  have hm : mergeF T a b = (⟨a.lo, a.he, mergeTo T a.sl b.sl (nF a)⟩, 0) := by
    unfold mergeF
    rw [if_neg (by rw [h0]; simp), if_neg (by rw [h1]; simp), if_neg (by simp [h2, h3])]
  have h24 : nF a ≤ 24 := shape_n (check_good h0).1
  unfold subF
  rw [hm]
  simp only [beq_self_eq_true, Bool.true_and]
  rw [frEq_iff]
  constructor
  · intro h i x y hi hx hy
    have hs : mergeTo T a.sl b.sl (nF a) = b.sl := congrArg Fr.sl h
    have hg := mergeTo_get T a.sl b.sl (nF a) i hi (by rw [ha.len]; omega)
    rw [hs, hy, getD_some hx, getD_some hy] at hg
    injection hg with hg
    rw [merge_sub (good_valid ha h0 hi hx) (good_valid hb h1 (by omega) hy)]
    exact decide_eq_true hg.symm
  · intro h
    have hs : mergeTo T a.sl b.sl (nF a) = b.sl := by
      apply List.ext_getElem?
      intro i
      by_cases hi : i < nF a
      · have la : i < a.sl.length := by rw [ha.len]; omega
        have lb : i < b.sl.length := by rw [hb.len]; omega
        have hx := List.getElem?_eq_getElem la
        have hy := List.getElem?_eq_getElem lb
        rw [mergeTo_get T a.sl b.sl (nF a) i hi la, getD_some hx, getD_some hy, hy]
        have := h i _ _ hi hx hy
        rw [merge_sub (good_valid ha h0 hi hx) (good_valid hb h1 (by omega) hy)] at this
        rw [of_decide_eq_true this]
      · rw [mergeTo_same T a.sl b.sl (nF a) i (by omega)]
        by_cases h24' : i < 24
        · rw [good_zero ha h0 (by omega) h24', good_zero hb h1 (by omega) h24']
        · rw [List.getElem?_eq_none (by rw [ha.len]; omega), List.getElem?_eq_none (by rw [hb.len]; omega)]
    rw [hs, h2, h3]

end Go.Proofs.Ytihkodfcgfnjoab
