/-
  Contracts of provisoref02's Find and Parse: what the plain functions say; nothing old is turned. Conditions: the table may be.
-/
import Derived.Test.YtnkhkppddlpcmaaDoorKRefMore
namespace Go.Proofs.YtnkhkppddlpcmaaDoor
open Go.RowKit
set_option maxRecDepth 20000

/-! ### Parse -/
/-- The first of some types that is written so. -/
def parseR (T : List Cl) (s : ByteArray) : List Nat → Nat × Bool
  | [] => (0, false)
  | t :: l => if ((printD T t).toList == s.toList) = true then (t, true) else parseR T s l

theorem allD_eq (n : Nat) (hn : n ≤ 32) : allD n = [0, 1, 2, 3, 4, 5] ++ (List.range n).map (16 + ·) := by
  have h : ∀ m ∈ List.range 33, allD m = [0, 1, 2, 3, 4, 5] ++ (List.range m).map (16 + ·) := by decide +kernel
  exact h n (List.mem_range.2 (by omega))
def six : List ByteArray := [wordD 0, wordD 1, wordD 2, wordD 3, wordD 4, wordD 5]
theorem parse_classes {T : List Cl} {s : ByteArray} : ∀ (m k : Nat), k + m = T.length → parseR T s ((List.range' k m).map (16 + ·)) = match findN ((T.map Cl.nm).drop k) s k with | some c => (16 + c, true) | none => (0, false)
  | 0, k, h => by
    rw [List.drop_eq_nil_of_le (by simp; omega)]
    rfl
  | m + 1, k, h => by
    have hk : k < T.length := by omega
    rw [List.range'_succ, List.map_cons, parseR, List.drop_eq_getElem_cons (by simpa using hk), findN]
    have hp : printD T (16 + k) = T[k].nm := by
      unfold printD
      rw [if_neg (by omega), if_pos (by omega), show 16 + k - 16 = k from by omega, List.getElem?_eq_getElem hk]
    rw [hp, parse_classes m (k + 1) (by omega)]
    simp only [List.getElem_map]
    by_cases hb : (T[k].nm.toList == s.toList) = true
    · rw [if_pos hb, if_pos hb]
    · rw [if_neg hb, if_neg hb]
theorem parse_same {T : List Cl} (hn : T.length ≤ 32) (s : ByteArray) : parseR T s (allD T.length) = parseD six T s := by
  rw [allD_eq _ hn]
  have hc := parse_classes (T := T) (s := s) T.length 0 (by omega)
  rw [List.drop_zero, ← List.range_eq_range'] at hc
  have hp : ∀ t, t ≤ 5 → printD T t = wordD t := fun t ht => by unfold printD; rw [if_pos ht]
  unfold parseD six
  simp only [List.cons_append, List.nil_append, parseR, hp 0 (by omega), hp 1 (by omega), hp 2 (by omega), hp 3 (by omega), hp 4 (by omega), hp 5 (by omega), findN, hc]
  by_cases b0 : ((wordD 0).toList == s.toList) = true
  · rw [if_pos b0, if_pos b0]
  · rw [if_neg b0, if_neg b0]
    by_cases b1 : ((wordD 1).toList == s.toList) = true
    · rw [if_pos b1, if_pos b1]
    · rw [if_neg b1, if_neg b1]
      by_cases b2 : ((wordD 2).toList == s.toList) = true
      · rw [if_pos b2, if_pos b2]
      · rw [if_neg b2, if_neg b2]
        by_cases b3 : ((wordD 3).toList == s.toList) = true
        · rw [if_pos b3, if_pos b3]
        · rw [if_neg b3, if_neg b3]
          by_cases b4 : ((wordD 4).toList == s.toList) = true
          · rw [if_pos b4, if_pos b4]
          · rw [if_neg b4, if_neg b4]
            by_cases b5 : ((wordD 5).toList == s.toList) = true
            · rw [if_pos b5, if_pos b5]
            · rw [if_neg b5, if_neg b5]
              rfl
end Go.Proofs.YtnkhkppddlpcmaaDoor
