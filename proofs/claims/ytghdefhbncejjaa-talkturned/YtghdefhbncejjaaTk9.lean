/-
  One byte that is another one turns the check sum: plainly. So a frame with one byte that is another one is none; so is each beginning, and what has more behind. No Go in it.
-/
import Derived.Test.YtghdefhbncejjaaTk8
namespace Go.Proofs.Ytghdefhbncejjaa
open Go.RowKit
set_option linter.unusedVariables false

theorem xor_hi (a : Nat) (h : a < 2147483648) : 2147483648 ≤ a ^^^ 3988292384 := by
  have h1 : (a ^^^ 3988292384).testBit 31 = true := by
    rw [Nat.testBit_xor, Nat.testBit_lt_two_pow (by omega : a < 2 ^ 31)]
    decide
  exact Nat.ge_two_pow_of_testBit h1
theorem xor_cancel {a b c : Nat} (h : a ^^^ c = b ^^^ c) : a = b := by
  have : (a ^^^ c) ^^^ c = (b ^^^ c) ^^^ c := by rw [h]
  rw [Nat.xor_assoc, Nat.xor_self, Nat.xor_zero, Nat.xor_assoc, Nat.xor_self, Nat.xor_zero] at this
  exact this
theorem xor_cancel' {a b c : Nat} (h : c ^^^ a = c ^^^ b) : a = b := xor_cancel (c := c) (by rw [Nat.xor_comm a, Nat.xor_comm b]; exact h)
theorem rnd_inj {a b : Nat} (ha : a < 4294967296) (hb : b < 4294967296) (h : rnd a = rnd b) : a = b := by
  unfold rnd at h
  by_cases ea : a % 2 = 1
  · rw [if_pos ea] at h
    by_cases eb : b % 2 = 1
    · rw [if_pos eb] at h
      have := xor_cancel h
      omega
    · rw [if_neg eb] at h
      have := xor_hi (a / 2) (by omega)
      omega
  · rw [if_neg ea] at h
    by_cases eb : b % 2 = 1
    · rw [if_pos eb] at h
      have := xor_hi (b / 2) (by omega)
      omega
    · rw [if_neg eb] at h
      omega
theorem rndN_inj : ∀ (n : Nat) {a b : Nat}, a < 4294967296 → b < 4294967296 → rndN n a = rndN n b → a = b
  | 0, _, _, _, _, h => h
  | n + 1, _, _, ha, hb, h => rndN_inj n ha hb (rnd_inj (rndN_lt n ha) (rndN_lt n hb) h)
theorem eat_inj {a b : Nat} {x y : UInt8} (ha : a < 4294967296) (hb : b < 4294967296) (h : eat a x = eat b y) : a ^^^ x.toNat = b ^^^ y.toNat :=
  rndN_inj 8 (xor_lt ha (by have := x.toNat_lt; omega)) (xor_lt hb (by have := y.toNat_lt; omega)) h
theorem fold_inj : ∀ (l : List UInt8) {a b : Nat}, a < 4294967296 → b < 4294967296 → l.foldl eat a = l.foldl eat b → a = b
  | [], _, _, _, _, h => h
  | x :: l, a, b, ha, hb, h => xor_cancel (eat_inj ha hb (fold_inj l (eat_lt x ha) (eat_lt x hb) h))
theorem sumOf_fold (l : List UInt8) : sumOf l = l.foldl eat 4294967295 ^^^ 4294967295 := by unfold sumOf upTo; rw [List.take_length]
theorem fold_lt (l : List UInt8) : l.foldl eat 4294967295 < 4294967296 := by have := upTo_lt l l.length; unfold upTo at this; rw [List.take_length] at this; exact this
/-- One byte that is another one turns the sum. -/
theorem sum_set {l : List UInt8} {k : Nat} {x : UInt8} (hk : k < l.length) (h : sumOf (l.set k x) = sumOf l) : x = l.getD k 0 := by
  rw [sumOf_fold, sumOf_fold] at h
  have h1 := xor_cancel h
  have e1 : l = l.take k ++ l.getD k 0 :: l.drop (k + 1) := by
    rw [List.getD_eq_getElem?_getD, List.getElem?_eq_getElem hk, Option.getD_some, List.getElem_cons_drop, List.take_append_drop]
  have e2 : l.set k x = l.take k ++ x :: l.drop (k + 1) := List.set_eq_take_append_cons_drop .. |>.trans (by rw [if_pos hk])
  rw [e2] at h1
  generalize l.getD k 0 = y at e1 ⊢
  rw [e1] at h1
  have e3 : (l.take k ++ y :: l.drop (k + 1)).take k = l.take k := by rw [← e1]
  have e4 : (l.take k ++ y :: l.drop (k + 1)).drop (k + 1) = l.drop (k + 1) := by rw [← e1]
  rw [e3, e4, List.foldl_append, List.foldl_append] at h1
  have hp := fold_lt (l.take k)
  generalize (l.take k).foldl eat 4294967295 = p at h1 hp
  have h2 : (l.drop (k + 1)).foldl eat (eat p x) = (l.drop (k + 1)).foldl eat (eat p y) := h1
  have h3 := fold_inj _ (eat_lt x hp) (eat_lt y hp) h2
  have h4 := xor_cancel' (eat_inj hp hp h3)
  exact UInt8.toNat_inj.1 h4
/-- A frame with one byte that is another one. -/
theorem opE_set {H m : List UInt8} {mk : Int} {k : Nat} {x : UInt8} (hm : m.length ≤ 255) (h0 : at8 (frT H m) 0 = mk) (hk : k < (frT H m).length) :
    opE ((frT H m).set k x) mk (H.length + 1) = 0 ↔ x = (frT H m).getD k 0 := by
  obtain ⟨L, hL⟩ : ∃ L, L = frT H m := ⟨_, rfl⟩
  have hE := opE_frT H m mk hm h0
  have hN := opN_frT H m hm
  have hT := take_frT H m
  have hF : tsum (H ++ be (m.length : Int) 1 ++ m) = frT H m := rfl
  have hll := frT_len H m
  rw [← hL] at hE hN hT hF hk hll ⊢
  constructor
  · intro h
    obtain ⟨_, z2, z3⟩ := opE_zero h
    rw [List.length_set] at z2
    have z4 : (L.set k x).length = opN (L.set k x) (H.length + 1) + 4 := by rw [List.length_set]; exact z2
    have z5 := (sum_iff z4).1 z3
    have hN2 : opN (L.set k x) (H.length + 1) = H.length + 1 + m.length := by omega
    rw [hN2] at z5
    by_cases hkN : k < H.length + 1 + m.length
    · have e1 : (L.set k x).take (H.length + 1 + m.length) = (L.take (H.length + 1 + m.length)).set k x := by rw [List.take_set]
      rw [e1, hT] at z5
      unfold tsum at z5 hF
      generalize H ++ be (m.length : Int) 1 ++ m = P at z5 hF hT
      have hPl : P.length = H.length + 1 + m.length := by rw [← hT, List.length_take]; omega
      have e2 : L.set k x = (P.set k x) ++ be (sumOf P : Int) 4 := by rw [← hF, List.set_append_left _ _ (by omega)]
      rw [e2] at z5
      have z6 := List.append_cancel_left z5
      have z7 : sumOf (P.set k x) = sumOf P := by rw [← beN_be (sumOf (P.set k x)) (sumOf_lt _), z6, beN_be _ (sumOf_lt _)]
      have z8 := sum_set (by omega) z7
      rw [z8, ← hF, List.getD_eq_getElem?_getD, List.getD_eq_getElem?_getD, List.getElem?_append_left (by omega)]
    · have e1 : (L.set k x).take (H.length + 1 + m.length) = L.take (H.length + 1 + m.length) := by
        rw [List.take_set, List.set_eq_of_length_le (by rw [List.length_take]; omega)]
      rw [e1, hT, hF] at z5
      have : (L.set k x).getD k 0 = L.getD k 0 := by rw [← z5]
      rw [List.getD_eq_getElem?_getD, List.getElem?_set_self hk, Option.getD_some] at this
      exact this
  · intro h
    have : L.set k x = L := by
      rw [h, List.getD_eq_getElem?_getD, List.getElem?_eq_getElem hk, Option.getD_some]
      exact List.set_getElem_self hk
    rw [this]
    exact hE
theorem opE_take {H m : List UInt8} {mk : Int} {k : Nat} (hm : m.length ≤ 255) (hk : k < (frT H m).length) : opE ((frT H m).take k) mk (H.length + 1) ≠ 0 := by
  intro h
  obtain ⟨_, z2, _⟩ := opE_zero h
  have hN := opN_frT H m hm
  have hll := frT_len H m
  have z4 := opN_ge ((frT H m).take k) (H.length + 1)
  rw [List.length_take] at z2
  have : opN ((frT H m).take k) (H.length + 1) = opN (frT H m) (H.length + 1) := by
    unfold opN
    rw [Nat.add_sub_cancel, List.getD_eq_getElem?_getD, List.getD_eq_getElem?_getD, List.getElem?_take, if_pos (by omega)]
  omega
theorem opE_more {H m r : List UInt8} {mk : Int} (hm : m.length ≤ 255) (h0 : at8 (frT H m) 0 = mk) : opE (frT H m ++ r) mk (H.length + 1) = 0 ↔ r.length = 0 := by
  have hN := opN_frT H m hm
  have hll := frT_len H m
  constructor
  · intro h
    obtain ⟨_, z2, _⟩ := opE_zero h
    have : opN (frT H m ++ r) (H.length + 1) = opN (frT H m) (H.length + 1) := by
      unfold opN
      rw [Nat.add_sub_cancel, List.getD_eq_getElem?_getD, List.getD_eq_getElem?_getD, List.getElem?_append_left (by omega)]
    rw [List.length_append] at z2
    omega
  · intro h
    rw [List.eq_nil_of_length_eq_zero h, List.append_nil]
    exact opE_frT H m mk hm h0
end Go.Proofs.Ytghdefhbncejjaa
