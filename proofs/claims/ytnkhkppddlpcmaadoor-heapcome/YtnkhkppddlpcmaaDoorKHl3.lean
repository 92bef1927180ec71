/-
  HeapCome's plain part: the names of what is come to are the roots and what the fields of it name.
-/
import Derived.Test.YtnkhkppddlpcmaaDoorKHl2
namespace Go.Proofs.YtnkhkppddlpcmaaDoor
open Go.RowKit
set_option maxRecDepth 20000

/-- The names that the fields of an object hold, of objects that are there. -/
def nmZ (h : Hm) : List Bool → List Int → List Int
  | b :: bs, v :: vs => if b = true ∧ v ∈ h.O.map Ob.ref then v :: nmZ h bs vs else nmZ h bs vs
  | _, _ => []
theorem mem_nmZ {h : Hm} {v : Int} : ∀ {bs : List Bool} {vs : List Int}, v ∈ nmZ h bs vs ↔ v ∈ h.O.map Ob.ref ∧ ∃ j : Nat, bs[j]? = some true ∧ vs[j]? = some v
  | [], vs => by simp [nmZ]
  | b :: bs, [] => by simp [nmZ]
  | b :: bs, x :: vs => by
    have ih := @mem_nmZ h v bs vs
    have key : (∃ j : Nat, (b :: bs)[j]? = some true ∧ (x :: vs)[j]? = some v) ↔ (b = true ∧ x = v) ∨ ∃ j : Nat, bs[j]? = some true ∧ vs[j]? = some v := by
      constructor
      · rintro ⟨j, h1, h2⟩
        cases j with
        | zero => simp at h1 h2; exact Or.inl ⟨h1, h2⟩
        | succ j => simp at h1 h2; exact Or.inr ⟨j, h1, h2⟩
      · rintro (⟨h1, h2⟩ | ⟨j, h1, h2⟩)
        · exact ⟨0, by simp [h1], by simp [h2]⟩
        · exact ⟨j + 1, by simpa using h1, by simpa using h2⟩
    rw [key, nmZ]
    by_cases hb : b = true ∧ x ∈ h.O.map Ob.ref
    · rw [if_pos hb, List.mem_cons, ih]
      constructor
      · rintro (e | ⟨h1, h2⟩)
        · exact ⟨by rw [e]; exact hb.2, Or.inl ⟨hb.1, e.symm⟩⟩
        · exact ⟨h1, Or.inr h2⟩
      · rintro ⟨h1, ⟨_, e⟩ | h2⟩
        · exact Or.inl e.symm
        · exact Or.inr ⟨h1, h2⟩
    · rw [if_neg hb, ih]
      constructor
      · rintro ⟨h1, h2⟩
        exact ⟨h1, Or.inr h2⟩
      · rintro ⟨h1, ⟨hb1, e⟩ | h2⟩
        · exact absurd ⟨hb1, by rw [e]; exact h1⟩ hb
        · exact ⟨h1, h2⟩
def nmO (h : Hm) (o : Ob) : List Int := nmZ h (ldOf h o.cls).bs o.ps
/-- All that is named: the roots, and what the fields of the first n that are come to hold. -/
def nmd (h : Hm) (R : List Int) (O : List Ob) : List Int := R ++ O.flatMap (nmO h)
theorem come_names {h : Hm} {R : List Int} {C : List Bool} (hC : ComIs h R C) (hs : ∀ r ∈ R, ∃ o ∈ h.O, o.ref = r) (r : Int) : r ∈ nmd h R (keepO h.O C) ↔ r ∈ sel h.O C := by
  unfold nmd
  rw [List.mem_append, List.mem_flatMap, mem_sel]
  constructor
  · rintro (hr | ⟨o, ho, hn⟩)
    · obtain ⟨o, ho, e⟩ := hs r hr
      obtain ⟨i, hi, ei⟩ := List.mem_iff_getElem.1 ho
      have hx : h.O[i]? = some o := by rw [← ei]; exact List.getElem?_eq_getElem hi
      exact ⟨i, o, hx, (hC.2 i).2 (.root hx (by rw [e]; exact hr)), e⟩
    · obtain ⟨hl, j, h1, h2⟩ := mem_nmZ.1 hn
      obtain ⟨i, hi, hc⟩ := mem_keep.1 ho
      obtain ⟨o', ho', e⟩ := List.mem_map.1 hl
      obtain ⟨t, ht, et⟩ := List.mem_iff_getElem.1 ho'
      have hx : h.O[t]? = some o' := by rw [← et]; exact List.getElem?_eq_getElem ht
      exact ⟨t, o', hx, (hC.2 t).2 (.step ((hC.2 i).1 hc) hi h1 h2 hx e), e⟩
  · rintro ⟨i, o, ho, hc, e⟩
    have hr := (hC.2 i).1 hc
    cases hr with
    | root h1 h2 =>
      rw [ho] at h1
      injection h1 with h1
      subst h1
      exact Or.inl (e ▸ h2)
    | step hk ho1 h1 h2 ht e2 =>
      rw [ho] at ht
      injection ht with ht
      subst ht
      refine Or.inr ⟨_, mem_keep.2 ⟨_, ho1, (hC.2 _).2 hk⟩, mem_nmZ.2 ⟨List.mem_map.2 ⟨o, List.mem_of_getElem? ho, e⟩, _, h1, ?_⟩⟩
      rw [h2, ← e2, e]
theorem nmd_step (h : Hm) (R : List Int) (O : List Ob) (o : Ob) : nmd h R (O ++ [o]) = nmd h R O ++ nmO h o := by
  unfold nmd
  rw [List.flatMap_append, List.append_assoc]
  simp
end Go.Proofs.YtnkhkppddlpcmaaDoor
