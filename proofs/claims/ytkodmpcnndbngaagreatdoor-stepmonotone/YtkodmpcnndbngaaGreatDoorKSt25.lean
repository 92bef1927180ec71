/-
  What the document's apply answers, in its own words, is what step's answers: plain.
-/
import Derived.Test.YtkodmpcnndbngaaGreatDoorKSt24
namespace Go.Proofs.YtkodmpcnndbngaaGreatDoor
open Go.RowKit
set_option maxRecDepth 20000

theorem allR_no {T : List Cl} {tk ws : List Nat} {j a b : Nat} (ha : tk[j]? = some a) (hb : ws[j]? = some b) (h : wantD T a b = false) : allR T tk ws = false := by
  unfold allR
  rw [List.all_eq_false]
  refine ⟨(a, b), ?_, by simp [h]⟩
  refine List.mem_of_getElem? (i := j) ?_
  rw [List.getElem?_zip_eq_some]
  exact ⟨ha, hb⟩
theorem allR_yes {T : List Cl} {tk ws : List Nat} (h : ∀ (i a b : Nat), tk[i]? = some a → ws[i]? = some b → wantD T a b = true) : allR T tk ws = true := by
  unfold allR
  rw [List.all_eq_true]
  rintro ⟨a, b⟩ hx
  obtain ⟨i, hi⟩ := List.mem_iff_getElem?.1 hx
  rw [List.getElem?_zip_eq_some] at hi
  exact h i a b hi.1 hi.2
theorem lit256 {l : List Nat} (h : l.all (fun t => decide (t < 256)) = true) : ∀ t ∈ l, t < 256 := fun t ht => by
  rw [List.all_eq_true] at h
  simpa using h t ht
theorem tkR_byte (s : Sp) (hc : Can s.T s.L s.fn) : ∀ op, op < 34 → unkO s op = 0 → ∀ t ∈ tkR s op, t < 256 :=
  cases34 (p := fun op => unkO s op = 0 → ∀ t ∈ tkR s op, t < 256) (fun _ => lit256 rfl) (fun _ => lit256 rfl) (fun _ => lit256 rfl) (fun _ => lit256 rfl) (fun _ => lit256 rfl) (fun _ => lit256 rfl) (fun _ => lit256 rfl) (fun _ => lit256 rfl) (fun _ => lit256 rfl) (fun _ => lit256 rfl) (fun _ => lit256 rfl) (fun _ => lit256 rfl) (fun _ => lit256 rfl) (fun _ => lit256 rfl) (fun _ => lit256 rfl) (fun _ => lit256 rfl) (fun _ => lit256 rfl) (fun _ => lit256 rfl) (fun _ => lit256 rfl) (fun _ => lit256 rfl) (fun _ => lit256 rfl) (fun hu t ht => valid_byte hc.made (tk_valid s hc 21 (by decide) hu t ht)) (fun hu t ht => valid_byte hc.made (tk_valid s hc 22 (by decide) hu t ht)) (fun _ => lit256 rfl) (fun hu t ht => valid_byte hc.made (tk_valid s hc 24 (by decide) hu t ht)) (fun hu t ht => valid_byte hc.made (tk_valid s hc 25 (by decide) hu t ht)) (fun _ => lit256 rfl) (fun _ => lit256 rfl) (fun _ => lit256 rfl) (fun _ => lit256 rfl) (fun _ => lit256 rfl) (fun _ => lit256 rfl) (fun _ => lit256 rfl) (fun _ => lit256 rfl)
/-- What the document's apply answers where nothing is amiss. -/
theorem applyS_ref (s : Sp) (hc : Can s.T s.L s.fn) (hf : FrIs s.T.length s.f) (hm : missD s = 0) {tn : Nat} (hn : (tkR s s.op).length = tn) :
    applyS s = if s.f.he < (tn : Int) then (frZ, 30)
      else if (allR s.T (takenD s.f tn) (tkR s s.op) && alR s (takenD s.f tn) s.op) = false then (frZ, 70)
      else if s.op = 22 ∧ 0 < (popK s.f tn).he then (frZ, 73)
      else pushA (frS s) (gvD s (takenD s.f tn)) := by
  have hu := miss_unk hm
  have h34 := unk_op hu
  have hl : (tkD s).length = tn := by rw [← hn]; exact (tkR_len s s.op h34).symm
  unfold applyS
  rw [if_neg (by omega), hl]
  by_cases hh : s.f.he < (tn : Int)
  · rw [if_pos hh, if_pos hh]
  rw [if_neg hh, if_neg hh]
  have htl := taken_len hf (k := tn) (by omega)
  have hok := ok_same s hc (tk := takenD s.f tn) (fun t ht => by
    obtain ⟨i, hi⟩ := List.mem_iff_getElem?.1 ht
    exact (taken_valid hf (by omega) hi).1) s.op h34 hu (by rw [htl]; exact hl.symm)
  unfold SameOK at hok
  rw [hok]
  rfl
end Go.Proofs.YtkodmpcnndbngaaGreatDoor
