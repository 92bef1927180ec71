/-
  The text of a frame, plainly; the contract of provisoref03.Print. Conditions: the table lies there, the frame is of bytes.
-/
import Derived.Test.YtelbajcfdecaoaaDoorTx1
import Derived.Test.YtelbajcfdecaoaaDoorRefMore
import Derived.Test.YtelbajcfdecaoaaDoorFrM
namespace Go.Proofs.YtelbajcfdecaoaaDoor
open Go.RowKit
set_option maxRecDepth 20000

theorem text_nil (T : List Cl) : textD T [] = [] := rfl
theorem text_snoc (T : List Cl) (es : List Nat) (t : Nat) : textD T (es ++ [t]) = textD T es ++ ((if es = [] then [] else [32]) ++ (printD T t).data.toList) := by
  unfold textD
  cases es with
  | nil => simp [Lib.join_one, Lib.join_nil]
  | cons x r =>
    simp only [List.cons_append, List.map_cons, List.map_append, List.map_nil, Lib.join_cons]
    unfold Lib.joinTail
    simp
/-- The text that lies there when so many entries were told. -/
def refTo (T : List Cl) (lo : Nat) (sl : List Nat) (k : Nat) : List UInt8 :=
  if k ≤ lo then [91] ++ textD T (sl.take k) else [91] ++ textD T (sl.take lo) ++ [32, 124, 32] ++ textD T ((sl.drop lo).take (k - lo))
/-- A frame's text. -/
def prF (T : List Cl) (lo he : Nat) (sl : List Nat) : List UInt8 := [91] ++ textD T (sl.take lo) ++ [32, 124, 32] ++ textD T ((sl.drop lo).take he) ++ [93]
theorem refTo_at (T : List Cl) (lo : Nat) (sl : List Nat) (k t : Nat) (h : sl[k]? = some t) (hk : k = lo) : refTo T lo sl (k + 1) = refTo T lo sl k ++ [32, 124, 32] ++ (printD T t).data.toList := by
  subst hk
  have hd : (sl.drop k).take 1 = [] ++ [t] := by
    have hl := (List.getElem?_eq_some_iff.1 h).1
    have e : sl[k] = t := by rw [List.getElem?_eq_getElem hl] at h; injection h
    rw [List.drop_eq_getElem_cons hl, e]; rfl
  unfold refTo
  rw [if_neg (by omega), if_pos (Nat.le_refl _), show k + 1 - k = 1 by omega, hd, text_snoc, text_nil]
  simp
theorem refTo_step (T : List Cl) (lo : Nat) (sl : List Nat) (k t : Nat) (h : sl[k]? = some t) (hk : k ≠ lo) : refTo T lo sl (k + 1) = refTo T lo sl k ++ ((if k = 0 then [] else [32]) ++ (printD T t).data.toList) := by
  have hl := (List.getElem?_eq_some_iff.1 h).1
  have e : sl[k] = t := by rw [List.getElem?_eq_getElem hl] at h; injection h
  unfold refTo
  by_cases hlo : k < lo
  · rw [if_pos (by omega), if_pos (by omega), List.take_succ_eq_append_getElem hl, e, text_snoc]
    have h0 : (sl.take k = []) ↔ k = 0 := by
      rw [List.take_eq_nil_iff]
      constructor
      · rintro (h | h)
        · exact h
        · rw [h] at hl; simp at hl
      · exact fun h => .inl h
    by_cases hk0 : k = 0
    · rw [if_pos (h0.2 hk0), if_pos hk0]; simp
    · rw [if_neg (fun h => hk0 (h0.1 h)), if_neg hk0]; simp
  · have hd : (sl.drop lo).take (k + 1 - lo) = (sl.drop lo).take (k - lo) ++ [t] := by
      have hl2 : k - lo < (sl.drop lo).length := by rw [List.length_drop]; omega
      rw [show k + 1 - lo = (k - lo) + 1 by omega, List.take_succ_eq_append_getElem hl2, List.getElem_drop]
      congr 2
      rw [← e]
      congr 1
      omega
    rw [if_neg (by omega), if_neg (by omega), hd, text_snoc]
    have hne : (sl.drop lo).take (k - lo) ≠ [] := fun h => by
      have := congrArg List.length h
      simp at this
      omega
    rw [if_neg hne, if_neg (by omega)]
    simp
theorem refTo_zero (T : List Cl) (lo : Nat) (sl : List Nat) : refTo T lo sl 0 = [91] := by
  unfold refTo
  rw [if_pos (by omega), List.take_zero, text_nil]
  rfl
theorem refTo_end (T : List Cl) (lo he : Nat) (sl : List Nat) : prF T lo he sl = (if he = 0 then refTo T lo sl (lo + he) ++ [32, 124, 32] else refTo T lo sl (lo + he)) ++ [93] := by
  unfold prF refTo
  by_cases h : he = 0
  · subst h
    rw [if_pos rfl, if_pos (by omega), List.take_zero, text_nil]
    simp
  · rw [if_neg h, if_neg (by omega), show lo + he - lo = he by omega]
end Go.Proofs.YtelbajcfdecaoaaDoor
