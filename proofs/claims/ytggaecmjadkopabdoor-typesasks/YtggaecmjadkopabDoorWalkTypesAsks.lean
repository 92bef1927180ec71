/-
  The walk of the law TypesAsks: it returns true for every table and every two types, and writes nothing that was there. Conditions: the package's words lie there.
-/
import Derived.Test.YtggaecmjadkopabDoorRefRank
import Derived.Test.YtggaecmjadkopabDoorRefMerge
import Derived.Test.YtggaecmjadkopabDoorPlain2
namespace Go.Proofs.YtggaecmjadkopabDoor
open Go.RowKit

/-! ### A table and its copy answer alike -/
theorem SameT.par {T G : List Cl} (h : SameT T G) (c : Nat) : parD G c = parD T c := by
  unfold parD
  by_cases hc : c < T.length
  · have hx := List.getElem?_eq_getElem hc
    have hy := List.getElem?_eq_getElem (show c < G.length by have := h.1; omega)
    rw [hx, hy]
    exact (h.2 c _ _ hx hy).par
  · rw [List.getElem?_eq_none (show T.length ≤ c by omega), List.getElem?_eq_none (show G.length ≤ c by have := h.1; omega)]
theorem lineB_congr {T G : List Cl} (h : ∀ c, parD G c = parD T c) : ∀ (n bel : Nat) (c : Int), bel ≤ n → lineB G bel c = lineB T bel c
  | 0, bel, c, hn => by rw [lineB_out (by omega), lineB_out (by omega)]
  | n + 1, bel, c, hn => by
    by_cases hc : 0 ≤ c ∧ c < (bel : Int)
    · obtain ⟨k, rfl⟩ : ∃ k : Nat, c = (k : Int) := ⟨c.toNat, by omega⟩
      rw [lineB_in (by omega), lineB_in (by omega), h k, lineB_congr h n k _ (by omega)]
    · rw [lineB_out hc, lineB_out hc]
theorem SameT.line {T G : List Cl} (h : SameT T G) (c : Int) : lineB G G.length c = lineB T T.length c := by
  rw [h.1]
  exact lineB_congr h.par _ _ c (Nat.le_refl _)
theorem SameT.sub {T G : List Cl} (h : SameT T G) (a b : Nat) : subD G a b = subD T a b := by
  unfold subD inLineD
  rw [h.line, h.1]
theorem SameT.merge {T G : List Cl} (h : SameT T G) (a b : Nat) : mergeD G a b = mergeD T a b := by
  unfold mergeD
  rw [h.line, h.1, h.sub a b, h.sub b a]
  simp only [h.sub]
theorem SameT.high {T G : List Cl} (h : SameT T G) : ∀ k : Nat, highN G k = highN T k
  | 0 => rfl
  | k + 1 => by unfold highN; rw [h.high k, h.line]
theorem SameT.rank {T G : List Cl} (h : SameT T G) (t : Nat) : rankD G t = rankD T t := by
  unfold rankD rankP
  rw [h.line, h.1, h.high]
theorem SameT.print {T G : List Cl} (h : SameT T G) (t : Nat) : printD G t = printD T t := by
  unfold printD
  by_cases hc : t - 16 < T.length
  · have hx := List.getElem?_eq_getElem hc
    have hy := List.getElem?_eq_getElem (show t - 16 < G.length by have := h.1; omega)
    rw [hx, hy]
    simp only
    rw [(h.2 _ _ _ hx hy).nm]
  · rw [List.getElem?_eq_none (show T.length ≤ t - 16 by omega), List.getElem?_eq_none (show G.length ≤ t - 16 by have := h.1; omega)]

/-- A world in which a table, its copy and the words lie still. -/
structure AS (w W : World) (ao ga : Option Addr) (T G : List Cl) : Prop where
  tab : TabAt W ao T
  cop : TabAt W ga G
  wds : WordsAt W
  bel : Below w.heap.size w W
theorem AS.below {w W W' : World} {ao ga : Option Addr} {T G : List Cl} (h : AS w W ao ga T G) (hb : Below W.heap.size W W') : AS w W' ao ga T G := ⟨h.tab.below hb, h.cop.below hb, h.wds.below hb, h.bel.trans (hb.mono h.bel.size)⟩

set_option maxHeartbeats 1000000 in
theorem walkTypesAsks {w : World} (hW : WordsAt w) (ao : Option Addr) (cap : Nat) (T : List Cl) (hT : TabAt w ao T) (hz : T.length * 48 ≤ 140737488351232) (a : Nat) (ha : a < 256) (b : Nat) (hb : b < 256) :
    Calls Tryd.prog 4 #[.slice ao T.length cap, .int .u8 (a : Int), .int .u8 (b : Int)] w fun e w' => e = .returned (.bool true) ∧ Below w.heap.size w w' := by
  have HW := hide hW
  have HT := hide hT
  have HZ := hide hz
  clear hT hz hW
  go_enter Tryd.func4, Tryd.ntmps4
  go_wp2_with fail
  with_reducible refine (IsRef_any a _).mono ?_
  rintro e w1 ⟨rfl, rfl⟩
  go_wp2_with fail
  with_reducible refine (refIsRef_any a _).mono ?_
  rintro e w2 ⟨rfl, rfl⟩
  have e1 : (isRefD a != isRefD a) = false := by simp
  generalize isRefD a = r at e1 ⊢
  go_wp2_with fail
  with_reducible refine (Made_any ao cap T _ (unhide HT) (unhide HZ)).mono ?_
  rintro e w3 ⟨rfl, hB⟩
  have HB3 := hide hB
  have HT3 := hide ((unhide HT).below hB)
  have HW3 := hide ((unhide HW).below hB)
  clear hB HT HW e1
  by_cases hm : madeD T = true
  · have HM := hide hm
    rw [hm]
    clear hm
    go_wp2_with fail
    with_reducible refine (Classes_any ao cap T _ (unhide HT3) (unhide HZ)).mono ?_
    rintro e w4 ⟨ga, gc, G, rfl, hG, hS, hB⟩
    have H4 : Hid (AS w2 w4 ao ga T G) := hide ⟨(unhide HT3).below hB, hG, (unhide HW3).below hB, (unhide HB3).trans (hB.mono (unhide HB3).size)⟩
    have HS := hide hS
    have HGz : Hid (G.length * 48 ≤ 140737488351232) := hide (by rw [hS.1]; exact unhide HZ)
    have HGl := hide hS.1
    have hb4 := hide hB
    clear hG hS hB HT3 HW3 HB3
    go_wp2_with fail
    with_reducible refine (Valid_any ga G.length gc a _ ha).mono ?_
    rintro e w5 ⟨rfl, rfl⟩
    go_wp2_with fail
    with_reducible refine (refValid_any ao cap T.length a _ ha).mono ?_
    rintro e w6 ⟨rfl, rfl⟩
    have e0 : validD G.length a = validD T.length a := by rw [unhide HGl]
    rw [e0]
    clear e0
    have e2 : (validD T.length a == validD T.length a) = true := by simp
    generalize validD T.length a = q1 at e2 ⊢
    go_wp2_with fail
    with_reducible refine (Rank_any ga gc G a _ (unhide H4).cop (unhide HGz) ha).mono ?_
    rintro e w7 ⟨rfl, hB⟩
    have H7 := hide ((unhide H4).below hB)
    clear hB H4
    rw [(unhide HS).rank a]
    go_wp2_with fail
    with_reducible refine (refRank_any ao cap T a _ (unhide H7).tab (unhide HZ) (unhide HM) ha).mono ?_
    rintro e w8 ⟨rfl, hB⟩
    have H8 := hide ((unhide H7).below hB)
    clear hB H7
    have e3 : (((rankD T a : Nat) : Int) == ((rankD T a : Nat) : Int)) = true := by simp
    generalize rankD T a = q2 at e3 ⊢
    go_wp2_with fail
    with_reducible refine (Sub_any ga gc G a b _ (unhide H8).cop ha hb).mono ?_
    rintro e w9 ⟨rfl, hB⟩
    have H9 := hide ((unhide H8).below hB)
    clear hB H8
    rw [(unhide HS).sub a b]
    go_wp2_with fail
    with_reducible refine (refSub_any ao cap T a b _ (unhide H9).tab (unhide HZ) (unhide HM) ha hb).mono ?_
    rintro e w10 ⟨rfl, hB⟩
    have H10 := hide ((unhide H9).below hB)
    clear hB H9
    have e4 : (subD T a b == subD T a b) = true := by simp
    generalize subD T a b = q3 at e4 ⊢
    go_wp2_with fail
    with_reducible refine (Merge_any ga gc G a b _ (unhide H10).cop ha hb).mono ?_
    rintro e w11 ⟨rfl, hB⟩
    have H11 := hide ((unhide H10).below hB)
    clear hB H10
    rw [(unhide HS).merge a b]
    go_wp2_with fail
    with_reducible refine (refMerge_any ao cap T a b _ (unhide H11).tab (unhide HZ) (unhide HM) ha hb).mono ?_
    rintro e w12 ⟨rfl, hB⟩
    have H12 := hide ((unhide H11).below hB)
    clear hB H11
    have e5 : (((mergeD T a b : Nat) : Int) == ((mergeD T a b : Nat) : Int)) = true := by simp
    generalize mergeD T a b = q4 at e5 ⊢
    go_wp2_with fail
    with_reducible refine (Print_any ga gc G a _ (unhide H12).cop (unhide H12).wds ha).mono ?_
    rintro e w13 ⟨rfl, rfl⟩
    rw [(unhide HS).print a]
    go_wp2_with fail
    with_reducible refine (refPrint_any ao cap T a _ (unhide H12).tab ha).mono ?_
    rintro e w14 ⟨rfl, rfl⟩
    have e6 : ((printD T a).toList == (printD T a).toList) = true := by simp
    generalize printD T a = q5 at e6 ⊢
    have hSm := Same_yes ga ao gc cap T G w14 (unhide H12).cop (unhide H12).tab (unhide HS) (unhide HZ)
    have HSm := hide hSm
    clear hSm
    go_wp2_with fail
    with_reducible refine (unhide HSm).mono ?_
    rintro e w15 ⟨rfl, k, rfl⟩
    go_wp2
    go_ret
    exact ⟨by simp, belowD (unhide H12).bel k⟩
  · have hm' : madeD T = false := by simpa using hm
    rw [hm']
    clear hm hm'
    go_wp2
    go_ret
    exact ⟨rfl, unhide HB3⟩
end Go.Proofs.YtggaecmjadkopabDoor
