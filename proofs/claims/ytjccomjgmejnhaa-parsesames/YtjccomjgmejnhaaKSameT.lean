/-
  A table and its copy answer alike. No Go in it.
-/
import Derived.Test.YtjccomjgmejnhaaKRefRank
import Derived.Test.YtjccomjgmejnhaaKPlain2
namespace Go.Proofs.Ytjccomjgmejnhaa
open Go.RowKit

/-! ### A table and its copy answer alike -/
theorem SameT.par {T G : List Cl} (h : SameT T G) (c : Nat) : parD G c = parD T c := by
  unfold parD
  by_cases hc : c < T.length
  · have hx := List.getElem?_eq_getElem hc
    have hy := List.getElem?_eq_getElem (show c < G.length by have := h.1; omega)
    rw [hx, hy]
    exact (h.2 c _ _ hx hy).par
  · rw [List.getElem?_eq_none (show T.length ≤ c by omega), List.getElem?_eq_none (show G.length ≤ c by have := h.1; omega)]
theorem lineB_congr {T G : List Cl} (h : ∀ c, parD G c = parD T c) : ∀ (n bel : Nat) (c : Int), bel ≤ n → lineB G bel c = lineB T bel c
  | 0, bel, c, hn => by rw [lineB_out (by omega), lineB_out (by omega)]
  | n + 1, bel, c, hn => by
    by_cases hc : 0 ≤ c ∧ c < (bel : Int)
    · obtain ⟨k, rfl⟩ : ∃ k : Nat, c = (k : Int) := ⟨c.toNat, by omega⟩
      rw [lineB_in (by omega), lineB_in (by omega), h k, lineB_congr h n k _ (by omega)]
    · rw [lineB_out hc, lineB_out hc]
theorem SameT.line {T G : List Cl} (h : SameT T G) (c : Int) : lineB G G.length c = lineB T T.length c := by
  rw [h.1]
  exact lineB_congr h.par _ _ c (Nat.le_refl _)
theorem SameT.sub {T G : List Cl} (h : SameT T G) (a b : Nat) : subD G a b = subD T a b := by
  unfold subD inLineD
  rw [h.line, h.1]
theorem SameT.merge {T G : List Cl} (h : SameT T G) (a b : Nat) : mergeD G a b = mergeD T a b := by
  unfold mergeD
  rw [h.line, h.1, h.sub a b, h.sub b a]
  simp only [h.sub]
theorem SameT.high {T G : List Cl} (h : SameT T G) : ∀ k : Nat, highN G k = highN T k
  | 0 => rfl
  | k + 1 => by unfold highN; rw [h.high k, h.line]
theorem SameT.rank {T G : List Cl} (h : SameT T G) (t : Nat) : rankD G t = rankD T t := by
  unfold rankD rankP
  rw [h.line, h.1, h.high]
theorem SameT.print {T G : List Cl} (h : SameT T G) (t : Nat) : printD G t = printD T t := by
  unfold printD
  by_cases hc : t - 16 < T.length
  · have hx := List.getElem?_eq_getElem hc
    have hy := List.getElem?_eq_getElem (show t - 16 < G.length by have := h.1; omega)
    rw [hx, hy]
    simp only
    rw [(h.2 _ _ _ hx hy).nm]
  · rw [List.getElem?_eq_none (show T.length ≤ t - 16 by omega), List.getElem?_eq_none (show G.length ≤ t - 16 by have := h.1; omega)]

theorem SameT.fsd {T G : List Cl} (h : SameT T G) (c : Nat) : fsD G c = fsD T c := by
  unfold fsD
  by_cases hc : c < T.length
  · have hx := List.getElem?_eq_getElem hc
    have hy := List.getElem?_eq_getElem (show c < G.length by have := h.1; omega)
    rw [hx, hy]
    exact (h.2 c _ _ hx hy).fs
  · rw [List.getElem?_eq_none (show T.length ≤ c by omega), List.getElem?_eq_none (show G.length ≤ c by have := h.1; omega)]
theorem SameT.fields {T G : List Cl} (h : SameT T G) (c : Int) : fieldsB G c = fieldsB T c := by
  unfold fieldsB
  rw [h.line]
  congr 1
  funext k
  exact h.fsd k
theorem SameT.names {T G : List Cl} (h : SameT T G) : G.map Cl.nm = T.map Cl.nm := by
  apply List.ext_getElem?
  intro i
  rw [List.getElem?_map, List.getElem?_map]
  by_cases hc : i < T.length
  · have hx := List.getElem?_eq_getElem hc
    have hy := List.getElem?_eq_getElem (show i < G.length by have := h.1; omega)
    rw [hx, hy]
    simp only [Option.map_some]
    rw [(h.2 i _ _ hx hy).nm]
  · rw [List.getElem?_eq_none (show T.length ≤ i by omega), List.getElem?_eq_none (show G.length ≤ i by have := h.1; omega)]
theorem SameT.parse {T G : List Cl} (h : SameT T G) (ws : List ByteArray) (s : ByteArray) : parseD ws G s = parseD ws T s := by
  unfold parseD
  rw [h.names]
theorem fields_all {T : List Cl} (hm : madeD T = true) (c : Int) : fieldsD T c = fieldsB T c := by
  by_cases hc : c < (T.length : Int)
  · exact fields_same hm hc
  · unfold fieldsD fieldsB lineD
    rw [lineR_out _ (by omega), lineB_out (by omega)]
theorem fields_len {T : List Cl} (hm : madeD T = true) (c : Int) : (fieldsB T c).length ≤ 32 := by
  by_cases hc : c < (T.length : Int)
  · exact fieldsB_le hm hc
  · unfold fieldsB
    rw [lineB_out (by omega)]
    simp
end Go.Proofs.Ytjccomjgmejnhaa
