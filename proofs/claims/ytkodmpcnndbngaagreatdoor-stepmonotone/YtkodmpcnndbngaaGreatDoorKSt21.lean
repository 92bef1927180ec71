/-
  The height behind an instruction; the frame behind it can be: plain.
-/
import Derived.Test.YtkodmpcnndbngaaGreatDoorKSt20
namespace Go.Proofs.YtkodmpcnndbngaaGreatDoor
open Go.RowKit
set_option maxRecDepth 20000

theorem push_is {n : Nat} {f : Fr} (hf : FrIs n f) {t : Nat} (ht : validD n t = true) (hb : t < 256) (h : (pushD f t).2 = 0) : FrIs n (pushD f t).1 ∧ (pushD f t).1.he = f.he + 1 ∧ (pushD f t).1.lo = f.lo ∧ nF f < 24 ∧ (pushD f t).1.sl = f.sl.set (nF f) t := by
  have ok := push_ok hf.ok hb h
  have h1 := nF_shape hf.shape
  unfold pushD at h ok ⊢
  rw [hf.shape, if_neg (by decide)] at h ok ⊢
  by_cases h2 : nF f = 24
  · rw [if_pos h2] at h; exact absurd h (by decide)
  rw [if_neg h2, hf.trim] at ok ⊢
  have hn : nF (⟨f.lo, f.he + 1, f.sl.set (nF f) t⟩ : Fr) = nF f + 1 := by
    have e1 : nF (⟨f.lo, f.he + 1, f.sl.set (nF f) t⟩ : Fr) = (f.lo + (f.he + 1)).toNat := rfl
    have e2 : nF f = (f.lo + f.he).toNat := rfl
    omega
  have hll : (f.sl.set (nF f) t).length = 24 := by rw [List.length_set]; exact hf.ok.len
  refine ⟨⟨ok, ?_, ?_, ?_⟩, rfl, rfl, by omega, rfl⟩
  · refine shapeD_iff.2 ?_
    have := shapeD_iff.1 hf.shape
    show 0 ≤ f.lo ∧ f.lo ≤ 16 ∧ 0 ≤ f.he + 1 ∧ f.he + 1 ≤ 24 - f.lo
    omega
  · rw [hn]
    show trimL (nF f + 1) (f.sl.set (nF f) t) = f.sl.set (nF f) t
    apply List.ext_getElem?
    intro j
    by_cases hj : j < nF f + 1
    · exact trimL_get hj (by rw [hll]; omega)
    · by_cases hj2 : j < 24
      · rw [trimL_get0 (by omega) (by rw [hll]; omega) hj2, List.getElem?_set_ne (by omega)]
        have := trimL_get0 (l := f.sl) (show nF f ≤ j by omega) (by rw [hf.ok.len]; omega) hj2
        rw [hf.trim] at this
        exact this.symm
      · rw [List.getElem?_eq_none (by rw [trimL_length hll (by omega)]; omega), List.getElem?_eq_none (by rw [hll]; omega)]
  · intro j u hj hu
    rw [hn] at hj
    have hu2 : (f.sl.set (nF f) t)[j]? = some u := hu
    by_cases e : j = nF f
    · rw [e, List.getElem?_set_self (by rw [hf.ok.len]; omega)] at hu2
      injection hu2 with hu2
      rw [← hu2]; exact ht
    · rw [List.getElem?_set_ne (by omega)] at hu2
      exact hf.valid j u (by omega) hu2
theorem pushA_is {n : Nat} : ∀ (l : List Nat) (f g : Fr), FrIs n f → (∀ t ∈ l, validD n t = true ∧ t < 256) → pushA f l = (g, 0) → FrIs n g ∧ g.he = f.he + (l.length : Int) ∧ g.lo = f.lo
  | [], f, g, hf, _, h => by
    have e : f = g := congrArg Prod.fst h
    rw [← e]
    exact ⟨hf, by simp, rfl⟩
  | t :: l, f, g, hf, hl, h => by
    unfold pushA at h
    by_cases h0 : (pushD f t).2 = 0
    · rw [if_pos h0] at h
      obtain ⟨h1, h2, h3, -, -⟩ := push_is hf (hl t List.mem_cons_self).1 (hl t List.mem_cons_self).2 h0
      obtain ⟨k1, k2, k3⟩ := pushA_is l _ g h1 (fun x hx => hl x (List.mem_cons_of_mem _ hx)) h
      refine ⟨k1, ?_, by rw [k3, h3]⟩
      rw [k2, h2]
      simp
      omega
    · rw [if_neg h0] at h
      exact absurd (congrArg Prod.snd h) h0
theorem frS_he (s : Sp) (hf : FrIs s.T.length s.f) (hm : missD s = 0) (hle : ((tkD s).length : Int) ≤ s.f.he) : (frS s).he = s.f.he - ((tkD s).length : Int) ∧ (frS s).lo = s.f.lo := by
  unfold frS
  by_cases h5 : s.op = 5
  · rw [if_pos h5]
    have hm2 := hm
    unfold missD at hm2
    rw [if_pos (Or.inr h5)] at hm2
    rw [store_in (popK_is hf hle) ⟨(load_good hm2).2.1, (load_good hm2).2.2⟩]
    exact ⟨rfl, rfl⟩
  · rw [if_neg h5]; exact ⟨rfl, rfl⟩
/-- What is known where an instruction is taken. -/
structure Took (s : Sp) (g : Fr) : Prop where
  miss : missD s = 0
  le : ((tkD s).length : Int) ≤ s.f.he
  ok : (allO s.T (takenD s.f (tkD s).length) (tkD s) && alD s (takenD s.f (tkD s).length)) = true
  res : ¬ (s.op = 22 ∧ 0 < (popK s.f (tkD s).length).he)
  push : pushA (frS s) (gvD s (takenD s.f (tkD s).length)) = (g, 0)
theorem took_of {s : Sp} {g : Fr} (h : applyS s = (g, 0)) : Took s g := by
  unfold applyS at h
  by_cases h1 : missD s = 0
  rotate_left
  · rw [if_pos h1] at h; exact absurd (congrArg Prod.snd h) h1
  rw [if_neg (by simpa using h1)] at h
  by_cases h2 : s.f.he < ((tkD s).length : Int)
  · rw [if_pos h2] at h; exact absurd (congrArg Prod.snd h) (by simp)
  rw [if_neg h2] at h
  by_cases h3 : (allO s.T (takenD s.f (tkD s).length) (tkD s) && alD s (takenD s.f (tkD s).length)) = false
  · rw [if_pos h3] at h; exact absurd (congrArg Prod.snd h) (by simp)
  rw [if_neg h3] at h
  by_cases h4 : s.op = 22 ∧ 0 < (popK s.f (tkD s).length).he
  · rw [if_pos h4] at h; exact absurd (congrArg Prod.snd h) (by simp)
  rw [if_neg h4] at h
  exact ⟨h1, by omega, by simpa using h3, h4, h⟩
theorem took_to {s : Sp} {g : Fr} (h : Took s g) : applyS s = (g, 0) := by
  unfold applyS
  rw [if_neg (by rw [h.miss]; simp), if_neg (by have := h.le; omega), if_neg (by rw [h.ok]; decide), if_neg h.res]
  exact h.push
theorem took_valid {s : Sp} {g : Fr} (hf : FrIs s.T.length s.f) (h : Took s g) : ∀ t ∈ takenD s.f (tkD s).length, validD s.T.length t = true := fun t ht => by
  obtain ⟨i, hi, rfl⟩ := List.mem_iff_getElem.1 ht
  exact (taken_valid hf h.le (List.getElem?_eq_getElem hi)).1
theorem took_is {s : Sp} {g : Fr} (hc : Can s.T s.L s.fn) (hf : FrIs s.T.length s.f) (h : Took s g) : FrIs s.T.length g ∧ g.he = s.f.he - ((tkD s).length : Int) + ((gvD s (takenD s.f (tkD s).length)).length : Int) ∧ g.lo = s.f.lo := by
  have hu := miss_unk h.miss
  have hv := took_valid hf h
  obtain ⟨h1, h2⟩ := frS_he s hf h.miss h.le
  have hg : ∀ t ∈ gvD s (takenD s.f (tkD s).length), validD s.T.length t = true ∧ t < 256 := fun t ht => by
    have := gv_valid s hc hf hv s.op (unk_op hu) hu t ht
    exact ⟨this, valid_byte hc.made this⟩
  obtain ⟨k1, k2, k3⟩ := pushA_is _ _ g (frS_is s hf h.miss h.le hv) hg h.push
  exact ⟨k1, by rw [k2, h1], by rw [k3, h2]⟩
theorem gv_count (s : Sp) (X : Fr) (l m : List Nat) : ∀ op, op < 34 → (gvO { s with f := X } l op).length = (gvO s m op).length :=
  cases34 (p := fun op => (gvO { s with f := X } l op).length = (gvO s m op).length) rfl rfl rfl rfl rfl rfl rfl rfl rfl rfl rfl rfl rfl rfl rfl rfl rfl rfl rfl rfl rfl rfl rfl rfl rfl rfl rfl rfl rfl rfl rfl rfl rfl rfl
theorem tk_count (s : Sp) (X : Fr) (op : Nat) : tkO { s with f := X } op = tkO s op := rfl
theorem unk_count (s : Sp) (X : Fr) : unkD { s with f := X } = unkD s := rfl
/-- P7.5, P7.6: the height behind is that ahead, less what is taken, plus what is given; as many locals; the frame can be. -/
theorem heights {s : Sp} {g : Fr} (hc : canD s.T s.L s.fn = true) (hf : FrIs s.T.length s.f) (h : applyS s = (g, 0)) : cntD { s with f := frZ } = ((tkD s).length, (gvD s (takenD s.f (tkD s).length)).length, 0) ∧ g.he = s.f.he - ((tkD s).length : Int) + ((gvD s (takenD s.f (tkD s).length)).length : Int) ∧ g.lo = s.f.lo ∧ chkF s.T.length g = 0 := by
  have ht := took_of h
  have hu := miss_unk ht.miss
  obtain ⟨h1, h2, h3⟩ := took_is (canD_all hc) hf ht
  refine ⟨?_, h2, h3, frIs_chk h1⟩
  unfold cntD
  rw [if_neg (by show ¬ canD s.T s.L s.fn = false; rw [hc]; decide), unk_count, if_neg (by omega)]
  congr 2
  exact gv_count s frZ _ _ s.op (unk_op hu)
end Go.Proofs.YtkodmpcnndbngaaGreatDoor
