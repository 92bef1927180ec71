/-
  The contract of frames.Merge: what the plain function 'mergeF' says; nothing old is turned. Conditions: the table lies there.
-/
import Derived.Test.YtkodmpcnndbngaaGreatDoorKFrL
import Derived.Test.YtkodmpcnndbngaaGreatDoorJFR
import Derived.Test.YtkodmpcnndbngaaGreatDoorJTY
namespace Go.Proofs.YtkodmpcnndbngaaGreatDoor
open Go.RowKit
set_option maxRecDepth 20000

def mergeTo (T : List Cl) (l m : List Nat) : Nat → List Nat
  | 0 => l
  | k + 1 => (mergeTo T l m k).set k (mergeD T (l.getD k 0) (m.getD k 0))
theorem mergeTo_length (T : List Cl) (l m : List Nat) : ∀ k, (mergeTo T l m k).length = l.length
  | 0 => rfl
  | k + 1 => by unfold mergeTo; rw [List.length_set, mergeTo_length T l m k]
theorem mergeTo_byte {T : List Cl} {l m : List Nat} (hl : ∀ t ∈ l, t < 256) (hm : ∀ t ∈ m, t < 256) : ∀ k, ∀ t ∈ mergeTo T l m k, t < 256
  | 0, t, ht => hl t ht
  | k + 1, t, ht => by
    unfold mergeTo at ht
    have g : ∀ (l : List Nat), (∀ t ∈ l, t < 256) → l.getD k 0 < 256 := fun l hl => by
      rw [List.getD_eq_getElem?_getD]
      cases h : l[k]? with
      | none => simp
      | some x => exact hl x (List.mem_of_getElem? h)
    rcases List.mem_or_eq_of_mem_set ht with h | h
    · exact mergeTo_byte hl hm k t h
    · rw [h]; exact merge_lt (g l hl) (g m hm)
theorem mergeTo_ok {T : List Cl} {a b : Fr} (ha : FrOk a) (hb : FrOk b) (k : Nat) : FrOk ⟨a.lo, a.he, mergeTo T a.sl b.sl k⟩ :=
  ⟨by rw [mergeTo_length]; exact ha.len, mergeTo_byte ha.byte hb.byte k, ha.lo, ha.he⟩
theorem mergeTo_same (T : List Cl) (l m : List Nat) : ∀ k i, k ≤ i → (mergeTo T l m k)[i]? = l[i]?
  | 0, _, _ => rfl
  | k + 1, i, h => by
    unfold mergeTo
    rw [List.getElem?_set_ne (by omega), mergeTo_same T l m k i (by omega)]
theorem mergeTo_get (T : List Cl) (l m : List Nat) : ∀ k i, i < k → i < l.length → (mergeTo T l m k)[i]? = some (mergeD T (l.getD i 0) (m.getD i 0))
  | 0, _, h, _ => by omega
  | k + 1, i, h, hl => by
    unfold mergeTo
    by_cases e : i = k
    · subst e
      rw [List.getElem?_set_self (by rw [mergeTo_length]; exact hl)]
    · rw [List.getElem?_set_ne (by omega), mergeTo_get T l m k i (by omega) hl]
def mergeF (T : List Cl) (a b : Fr) : Fr × Int :=
  if chkF T.length a ≠ 0 then (frZ, chkF T.length a) else if chkF T.length b ≠ 0 then (frZ, chkF T.length b)
  else if a.lo ≠ b.lo ∨ a.he ≠ b.he then (frZ, 32) else (⟨a.lo, a.he, mergeTo T a.sl b.sl (nF a)⟩, 0)
theorem check_good {n : Nat} {f : Fr} (h : chkF n f = 0) : shapeD f = true ∧ frEq f (trimD f) = true ∧ (f.sl.take (nF f)).all (validD n) = true := by
  unfold chkF at h
  by_cases h1 : shapeD f = false
  · rw [if_pos h1] at h; cases h
  · rw [if_neg h1] at h
    by_cases h2 : frEq f (trimD f) = false
    · rw [if_pos h2] at h; cases h
    · rw [if_neg h2] at h
      by_cases h3 : (f.sl.take (nF f)).all (validD n) = true
      · exact ⟨by simpa using h1, by simpa using h2, h3⟩
      · rw [if_neg h3] at h; cases h
theorem merge_ok {T : List Cl} {a b : Fr} (ha : FrOk a) (hb : FrOk b) : FrOk (mergeF T a b).1 := by
  unfold mergeF
  by_cases h1 : chkF T.length a ≠ 0
  · rw [if_pos h1]; exact frZ_ok
  · rw [if_neg h1]
    by_cases h2 : chkF T.length b ≠ 0
    · rw [if_pos h2]; exact frZ_ok
    · rw [if_neg h2]
      by_cases h3 : a.lo ≠ b.lo ∨ a.he ≠ b.he
      · rw [if_pos h3]; exact frZ_ok
      · rw [if_neg h3]; exact mergeTo_ok ha hb _

end Go.Proofs.YtkodmpcnndbngaaGreatDoor
