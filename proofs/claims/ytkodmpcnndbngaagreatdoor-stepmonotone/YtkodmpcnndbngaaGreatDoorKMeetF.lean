/-
  What frames' Merge is, plainly: the least frame above two. No Go in it.
-/
import Derived.Test.YtkodmpcnndbngaaGreatDoorKFrQ
namespace Go.Proofs.YtkodmpcnndbngaaGreatDoor
open Go.RowKit
set_option maxRecDepth 20000

theorem chk_ok {n : Nat} {f : Fr} (hf : FrOk f) (hs : shapeD f = true) (hz : ∀ j, nF f ≤ j → j < 24 → f.sl[j]? = some 0) (hv : ∀ j t, j < nF f → f.sl[j]? = some t → validD n t = true) : chkF n f = 0 := by
  unfold chkF
  rw [if_neg (by rw [hs]; simp), if_neg (by rw [(trim_iff hf hs).2 hz]; simp), if_pos ((all_iff (by rw [hf.len]; exact shape_n hs)).2 hv)]
structure Meet (T : List Cl) (a b M : Fr) : Prop where
  ab : mergeF T a b = (M, 0)
  ba : mergeF T b a = (M, 0)
  aa : mergeF T a a = (a, 0)
  chk : chkF T.length M = 0
  ok : FrOk M
  le : subF T a M = true
  re : subF T b M = true
  least : ∀ c, FrOk c → subF T a c = true → subF T b c = true → subF T M c = true
theorem slot_of {f : Fr} (hf : FrOk f) {i : Nat} (h : i < 24) : ∃ x, f.sl[i]? = some x := ⟨_, List.getElem?_eq_getElem (by rw [hf.len]; exact h)⟩
theorem subF_parts {T : List Cl} {a b : Fr} (h : subF T a b = true) : chkF T.length a = 0 ∧ chkF T.length b = 0 ∧ a.lo = b.lo ∧ a.he = b.he := by
  by_cases h1 : chkF T.length a = 0
  · by_cases h2 : chkF T.length b = 0
    · by_cases h3 : a.lo = b.lo
      · by_cases h4 : a.he = b.he
        · exact ⟨h1, h2, h3, h4⟩
        · rw [subF_no3 h1 h2 (Or.inr h4)] at h; cases h
      · rw [subF_no3 h1 h2 (Or.inl h3)] at h; cases h
    · rw [subF_no2 h1 h2] at h; cases h
  · rw [subF_no1 h1] at h; cases h
theorem meetF {T : List Cl} {a b : Fr} (ha : FrOk a) (hb : FrOk b) (h0 : chkF T.length a = 0) (h1 : chkF T.length b = 0) (h2 : a.lo = b.lo) (h3 : a.he = b.he) :
    Meet T a b ⟨a.lo, a.he, mergeTo T a.sl b.sl (nF a)⟩ := by
  have hn : nF a = nF b := by unfold nF; rw [h2, h3]
  have h24 : nF a ≤ 24 := shape_n (check_good h0).1
  have get : ∀ {l m : List Nat} {i x y : Nat}, i < nF a → l.length = 24 → l[i]? = some x → m[i]? = some y → (mergeTo T l m (nF a))[i]? = some (mergeD T x y) := by
    intro l m i x y hi hl hx hy
    rw [mergeTo_get T l m (nF a) i hi (by omega), getD_some hx, getD_some hy]
  have out : ∀ {l m : List Nat} {i : Nat}, nF a ≤ i → (mergeTo T l m (nF a))[i]? = l[i]? := fun h => mergeTo_same T _ _ _ _ h
  have comm : mergeTo T a.sl b.sl (nF a) = mergeTo T b.sl a.sl (nF a) := by
    apply List.ext_getElem?
    intro i
    by_cases hi : i < nF a
    · obtain ⟨x, hx⟩ := slot_of ha (show i < 24 by omega)
      obtain ⟨y, hy⟩ := slot_of hb (show i < 24 by omega)
      rw [get hi ha.len hx hy, get hi hb.len hy hx, merge_comm (good_valid ha h0 hi hx) (good_valid hb h1 (by omega) hy)]
    · rw [out (by omega), out (by omega)]
      by_cases h : i < 24
      · rw [good_zero ha h0 (by omega) h, good_zero hb h1 (by omega) h]
      · rw [List.getElem?_eq_none (by rw [ha.len]; omega), List.getElem?_eq_none (by rw [hb.len]; omega)]
  have idem : mergeTo T a.sl a.sl (nF a) = a.sl := by
    apply List.ext_getElem?
    intro i
    by_cases hi : i < nF a
    · obtain ⟨x, hx⟩ := slot_of ha (show i < 24 by omega)
      rw [get hi ha.len hx hx, hx, merge_idem (good_valid ha h0 hi hx)]
    · rw [out (by omega)]
  have ok : FrOk ⟨a.lo, a.he, mergeTo T a.sl b.sl (nF a)⟩ := mergeTo_ok ha hb _
  have nM : nF ⟨a.lo, a.he, mergeTo T a.sl b.sl (nF a)⟩ = nF a := rfl
  have chk : chkF T.length ⟨a.lo, a.he, mergeTo T a.sl b.sl (nF a)⟩ = 0 := by
    refine chk_ok ok (check_good h0).1 (fun j hj h => ?_) (fun j t hj ht => ?_)
    · show (mergeTo T a.sl b.sl (nF a))[j]? = some 0
      rw [out hj]
      exact good_zero ha h0 hj h
    · have ht' : (mergeTo T a.sl b.sl (nF a))[j]? = some t := ht
      have hj' : j < nF a := hj
      obtain ⟨x, hx⟩ := slot_of ha (show j < 24 by omega)
      obtain ⟨y, hy⟩ := slot_of hb (show j < 24 by omega)
      rw [get hj' ha.len hx hy] at ht'
      injection ht' with ht'
      rw [← ht']
      exact merge_valid (good_valid ha h0 hj' hx) (good_valid hb h1 (by omega) hy)
  refine ⟨?_, ?_, ?_, chk, ok, ?_, ?_, ?_⟩
  · unfold mergeF
    rw [if_neg (by rw [h0]; simp), if_neg (by rw [h1]; simp), if_neg (by simp [h2, h3])]
  · unfold mergeF
    rw [if_neg (by rw [h1]; simp), if_neg (by rw [h0]; simp), if_neg (by simp [h2, h3]), ← hn, comm, h2, h3]
  · unfold mergeF
    rw [if_neg (by rw [h0]; simp), if_neg (by rw [h0]; simp), if_neg (by simp), idem]
  · refine (subF_iff ha ok h0 chk rfl rfl).2 (fun i x z hi hx hz => ?_)
    obtain ⟨y, hy⟩ := slot_of hb (show i < 24 by omega)
    have hz' : (mergeTo T a.sl b.sl (nF a))[i]? = some z := hz
    rw [get hi ha.len hx hy] at hz'
    injection hz' with hz'
    rw [← hz']
    exact subD_iff.2 (mergeD_lub (good_valid ha h0 hi hx) (good_valid hb h1 (by omega) hy)).left
  · refine (subF_iff hb ok h1 chk h2.symm h3.symm).2 (fun i y z hi hy hz => ?_)
    have hi' : i < nF a := by omega
    obtain ⟨x, hx⟩ := slot_of ha (show i < 24 by omega)
    have hz' : (mergeTo T a.sl b.sl (nF a))[i]? = some z := hz
    rw [get hi' ha.len hx hy] at hz'
    injection hz' with hz'
    rw [← hz']
    exact subD_iff.2 (mergeD_lub (good_valid ha h0 hi' hx) (good_valid hb h1 hi hy)).right
  · intro c hc k1 k2
    obtain ⟨_, hcc, q1, q2⟩ := subF_parts k1
    obtain ⟨_, _, p1, p2⟩ := subF_parts k2
    have i1 := (subF_iff ha hc h0 hcc q1 q2).1 k1
    have i2 := (subF_iff hb hc h1 hcc p1 p2).1 k2
    refine (subF_iff ok hc chk hcc q1 q2).2 (fun i m z hi hm hz => ?_)
    have hi' : i < nF a := hi
    obtain ⟨x, hx⟩ := slot_of ha (show i < 24 by omega)
    obtain ⟨y, hy⟩ := slot_of hb (show i < 24 by omega)
    have hm' : (mergeTo T a.sl b.sl (nF a))[i]? = some m := hm
    rw [get hi' ha.len hx hy] at hm'
    injection hm' with hm'
    rw [← hm']
    exact subD_iff.2 ((mergeD_lub (good_valid ha h0 hi' hx) (good_valid hb h1 (by omega) hy)).least z (subD_iff.1 (i1 i x z hi' hx hz)) (subD_iff.1 (i2 i y z (by omega) hy hz)))
end Go.Proofs.YtkodmpcnndbngaaGreatDoor
