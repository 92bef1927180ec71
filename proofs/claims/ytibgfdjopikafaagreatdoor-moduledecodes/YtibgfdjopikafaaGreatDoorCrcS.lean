/-
  One byte that is another one turns the check sum: plainly (the same lemmas stand in Tk9, for talk). No Go in it.
-/
import Derived.Test.YtibgfdjopikafaaGreatDoorCrcW
namespace Go.Proofs.YtibgfdjopikafaaGreatDoor
open Go.RowKit
set_option maxRecDepth 20000
set_option linter.unusedVariables false

theorem xor_hi (a : Nat) (h : a < 2147483648) : 2147483648 ≤ a ^^^ 3988292384 := by
  have h1 : (a ^^^ 3988292384).testBit 31 = true := by
    rw [Nat.testBit_xor, Nat.testBit_lt_two_pow (by omega : a < 2 ^ 31)]
    decide
  exact Nat.ge_two_pow_of_testBit h1
theorem xor_cancel {a b c : Nat} (h : a ^^^ c = b ^^^ c) : a = b := by
  have : (a ^^^ c) ^^^ c = (b ^^^ c) ^^^ c := by rw [h]
  rw [Nat.xor_assoc, Nat.xor_self, Nat.xor_zero, Nat.xor_assoc, Nat.xor_self, Nat.xor_zero] at this
  exact this
theorem xor_cancel' {a b c : Nat} (h : c ^^^ a = c ^^^ b) : a = b := xor_cancel (c := c) (by rw [Nat.xor_comm a, Nat.xor_comm b]; exact h)
theorem rnd_inj {a b : Nat} (ha : a < 4294967296) (hb : b < 4294967296) (h : rnd a = rnd b) : a = b := by
  unfold rnd at h
  by_cases ea : a % 2 = 1
  · rw [if_pos ea] at h
    by_cases eb : b % 2 = 1
    · rw [if_pos eb] at h
      have := xor_cancel h
      omega
    · rw [if_neg eb] at h
      have := xor_hi (a / 2) (by omega)
      omega
  · rw [if_neg ea] at h
    by_cases eb : b % 2 = 1
    · rw [if_pos eb] at h
      have := xor_hi (b / 2) (by omega)
      omega
    · rw [if_neg eb] at h
      omega
theorem rndN_inj : ∀ (n : Nat) {a b : Nat}, a < 4294967296 → b < 4294967296 → rndN n a = rndN n b → a = b
  | 0, _, _, _, _, h => h
  | n + 1, _, _, ha, hb, h => rndN_inj n ha hb (rnd_inj (rndN_lt n ha) (rndN_lt n hb) h)
theorem eat_inj {a b : Nat} {x y : UInt8} (ha : a < 4294967296) (hb : b < 4294967296) (h : eat a x = eat b y) : a ^^^ x.toNat = b ^^^ y.toNat :=
  rndN_inj 8 (xor_lt ha (by have := x.toNat_lt; omega)) (xor_lt hb (by have := y.toNat_lt; omega)) h
theorem fold_inj : ∀ (l : List UInt8) {a b : Nat}, a < 4294967296 → b < 4294967296 → l.foldl eat a = l.foldl eat b → a = b
  | [], _, _, _, _, h => h
  | x :: l, a, b, ha, hb, h => xor_cancel (eat_inj ha hb (fold_inj l (eat_lt x ha) (eat_lt x hb) h))
theorem sumOf_fold (l : List UInt8) : sumOf l = l.foldl eat 4294967295 ^^^ 4294967295 := by unfold sumOf upTo; rw [List.take_length]
theorem fold_lt (l : List UInt8) : l.foldl eat 4294967295 < 4294967296 := by have := upTo_lt l l.length; unfold upTo at this; rw [List.take_length] at this; exact this
/-- One byte that is another one turns the sum. -/
theorem sum_set {l : List UInt8} {k : Nat} {x : UInt8} (hk : k < l.length) (h : sumOf (l.set k x) = sumOf l) : x = l.getD k 0 := by
  rw [sumOf_fold, sumOf_fold] at h
  have h1 := xor_cancel h
  have e1 : l = l.take k ++ l.getD k 0 :: l.drop (k + 1) := by
    rw [List.getD_eq_getElem?_getD, List.getElem?_eq_getElem hk, Option.getD_some, List.getElem_cons_drop, List.take_append_drop]
  have e2 : l.set k x = l.take k ++ x :: l.drop (k + 1) := List.set_eq_take_append_cons_drop .. |>.trans (by rw [if_pos hk])
  rw [e2] at h1
  generalize l.getD k 0 = y at e1 ⊢
  rw [e1] at h1
  have e3 : (l.take k ++ y :: l.drop (k + 1)).take k = l.take k := by rw [← e1]
  have e4 : (l.take k ++ y :: l.drop (k + 1)).drop (k + 1) = l.drop (k + 1) := by rw [← e1]
  rw [e3, e4, List.foldl_append, List.foldl_append] at h1
  have hp := fold_lt (l.take k)
  generalize (l.take k).foldl eat 4294967295 = p at h1 hp
  have h2 : (l.drop (k + 1)).foldl eat (eat p x) = (l.drop (k + 1)).foldl eat (eat p y) := h1
  have h3 := fold_inj _ (eat_lt x hp) (eat_lt y hp) h2
  have h4 := xor_cancel' (eat_inj hp hp h3)
  exact UInt8.toNat_inj.1 h4
end Go.Proofs.YtibgfdjopikafaaGreatDoor
