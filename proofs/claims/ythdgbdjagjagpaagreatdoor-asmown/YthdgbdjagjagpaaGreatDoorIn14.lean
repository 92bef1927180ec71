/-
  The bytes of a number tell the number, and the number tells its bytes; what Decode makes of Encode's bytes, and Encode of what Decode made. No Go in it.
-/
import Derived.Test.YthdgbdjagjagpaaGreatDoorIn10
namespace Go.Proofs.YthdgbdjagjagpaaGreatDoor
open Go.RowKit
set_option maxRecDepth 20000

theorem byI_div (n : Int) (s i : Nat) (h : i < s) : byI n (s + 1 - 1 - i) = byI (n / 256) (s - 1 - i) := by
  unfold byI
  have e : (256 : Int) ^ (s + 1 - 1 - i) = 256 * 256 ^ (s - 1 - i) := by
    rw [show s + 1 - 1 - i = (s - 1 - i) + 1 from by omega, Int.pow_succ, Int.mul_comm]
  rw [e, ← Int.ediv_ediv_of_nonneg (by decide)]
theorem beI_snoc (n : Int) (s : Nat) : beI n (s + 1) = beI (n / 256) s ++ [byI n 0] := by
  unfold beI
  rw [List.range_succ, List.map_append]
  congr 1
  · refine List.map_congr_left fun i hi => ?_
    exact byI_div n s i (List.mem_range.1 hi)
  · simp
theorem beNI_beI (n : Int) (s : Nat) : (beNI (beI n s) : Int) = n % 256 ^ s := by
  induction s generalizing n with
  | zero => simp [beI, beNI]
  | succ s ih =>
    rw [beI_snoc, beNI_snoc]
    have h1 := ih (n / 256)
    have h2 := byI_eq n 0
    simp only [Int.pow_zero, Int.ediv_one] at h2
    have h3 : ((beNI (beI (n / 256) s) * 256 + (byI n 0).toNat : Nat) : Int) = (beNI (beI (n / 256) s) : Int) * 256 + ((byI n 0).toNat : Int) := by simp
    rw [h3, h1, h2]
    have hp : (0 : Int) < 256 ^ s := Int.pow_pos (by decide)
    have hm := Int.emod_nonneg (n / 256) (Int.ne_of_gt hp)
    have hm2 := Int.emod_lt_of_pos (n / 256) hp
    have h5 := Int.mul_ediv_add_emod (n / 256) (256 ^ s)
    rw [Int.pow_succ]
    generalize (n / 256) % 256 ^ s = r at h5 hm hm2 ⊢
    generalize n / 256 / 256 ^ s = q at h5
    generalize (256 : Int) ^ s = P at h5 hp hm2 ⊢
    have e1 : P * 256 * q = 256 * (P * q) := by rw [Int.mul_assoc, Int.mul_left_comm]
    have h6 : n = (r * 256 + n % 256) + P * 256 * q := by rw [e1]; omega
    have h7 : (r * 256 + n % 256) % (P * 256) = r * 256 + n % 256 := Int.emod_eq_of_lt (by omega) (by omega)
    have h8 : n % (P * 256) = ((r * 256 + n % 256) + P * 256 * q) % (P * 256) := by rw [← h6]
    rw [h8, Int.add_mul_emod_self_left, h7]
theorem byI_snoc (C : Nat) (x : UInt8) : byI ((C * 256 + x.toNat : Nat) : Int) 0 = x := by
  have h := byI_eq ((C * 256 + x.toNat : Nat) : Int) 0
  simp only [Int.pow_zero, Int.ediv_one] at h
  have hx := x.toNat_lt
  have e : (byI ((C * 256 + x.toNat : Nat) : Int) 0).toNat = x.toNat := by omega
  exact UInt8.toNat_inj.1 e
theorem beI_beNI_rev (l : List UInt8) : beI (beNI l.reverse : Int) l.length = l.reverse := by
  induction l with
  | nil => rfl
  | cons x l ih =>
    rw [List.reverse_cons, beNI_snoc, List.length_cons, beI_snoc, byI_snoc]
    have hx := x.toNat_lt
    rw [show ((beNI l.reverse * 256 + x.toNat : Nat) : Int) / 256 = (beNI l.reverse : Int) by omega, ih]
theorem beI_beNI (l : List UInt8) : beI (beNI l : Int) l.length = l := by
  have h := beI_beNI_rev l.reverse
  rwa [List.reverse_reverse, List.length_reverse] at h
theorem beI_mod (n : Int) (s : Nat) : beI (n % 256 ^ s) s = beI n s := by
  have h := beI_beNI (beI n s)
  rwa [beI_length, beNI_beI] at h
theorem beI_s32 (l : List UInt8) (h : l.length = 4) : beI (s32I (beNI l)) 4 = l := by
  have h1 := beI_beNI l
  rw [h] at h1
  unfold s32I
  split
  · exact h1
  · rw [← beI_mod, show ((beNI l : Int) - 4294967296) % 256 ^ 4 = (beNI l : Int) % 256 ^ 4 by omega, beI_mod]
    exact h1
theorem beI_of (l : List UInt8) (s : Nat) (h : l.length = s) : beI (beNI l : Int) s = l := by rw [← h]; exact beI_beNI l

/-- Encode of what Decode made: the bytes that stand there. -/
theorem enc_of_dec (x : UInt8) (t : List UInt8) (h34 : x.toNat < 34) (hl : wA x.toNat + wB x.toNat ≤ t.length) : encL x.toNat (dA x.toNat t) (dB x.toNat t) = (x :: t).take (sizeD x.toNat) := by
  have l1 : (t.take (wA x.toNat)).length = wA x.toNat := by rw [List.length_take]; omega
  have l2 : ((t.drop (wA x.toNat)).take (wB x.toNat)).length = wB x.toNat := by rw [List.length_take, List.length_drop]; omega
  have eA : beI (dA x.toNat t) (wA x.toNat) = t.take (wA x.toNat) := by
    unfold dA
    by_cases h : x.toNat = 1
    · have h4 := (wA_which x.toNat h34).2.2 h
      rw [if_pos h]
      rw [h4] at l1 ⊢
      exact beI_s32 _ l1
    · rw [if_neg h]
      exact beI_of _ _ l1
  have eB : beI (dB x.toNat t) (wB x.toNat) = (t.drop (wA x.toNat)).take (wB x.toNat) := by
    unfold dB
    exact beI_of _ _ l2
  unfold encL sizeD
  rw [if_pos h34, eA, eB, show 1 + wA x.toNat + wB x.toNat = (wA x.toNat + wB x.toNat) + 1 by omega, List.take_succ_cons, List.take_add]
  simp

theorem nat_of_fit (a : Int) (k : Nat) (hk : k = 0 ∨ k = 1 ∨ k = 2) (h : fitD a k = true) : a % 256 ^ k = a := by
  rcases hk with rfl | rfl | rfl <;> simp [fitD] at h <;> omega
/-- Decode of Encode's bytes, with anything behind them. -/
theorem dec_of_enc (op : Nat) (a b : Int) (h34 : op < 34) (hin : inD op a b = true) (r : List UInt8) :
    (UInt8.ofNat op).toNat = op ∧ dA op (beI a (wA op) ++ beI b (wB op) ++ r) = a ∧ dB op (beI a (wA op) ++ beI b (wB op) ++ r) = b := by
  have e0 : (UInt8.ofNat op).toNat = op := UInt8.toNat_ofNat_of_lt' (by show op < 256; omega)
  rw [inD_fits op h34, Bool.and_eq_true, Bool.and_eq_true] at hin
  obtain ⟨⟨f1, f2⟩, _⟩ := hin
  have t1 : (beI a (wA op) ++ beI b (wB op) ++ r).take (wA op) = beI a (wA op) := by
    rw [List.append_assoc, List.take_append_of_le_length (by rw [beI_length]; omega), List.take_of_length_le (by rw [beI_length]; omega)]
  have t2 : ((beI a (wA op) ++ beI b (wB op) ++ r).drop (wA op)).take (wB op) = beI b (wB op) := by
    rw [List.append_assoc, List.drop_append_of_le_length (by rw [beI_length]; omega), List.drop_eq_nil_of_le (by rw [beI_length]; omega), List.nil_append, List.take_append_of_le_length (by rw [beI_length]; omega), List.take_of_length_le (by rw [beI_length]; omega)]
  refine ⟨e0, ?_, ?_⟩
  · unfold dA
    rw [t1]
    by_cases h : op = 1
    · have h4 := (wA_which op h34).2.2 h
      rw [if_pos h, h4]
      rw [h4] at f1
      have h5 := beNI_beI a 4
      simp [fitD] at f1
      unfold s32I
      split <;> omega
    · have h4 : wA op ≠ 4 := fun e => h ((wA_which op h34).2.1 e)
      rw [if_neg h, beNI_beI]
      refine nat_of_fit a _ ?_ f1
      rcases (wA_which op h34).1 with h | h | h | h <;> omega
  · unfold dB
    rw [t2, beNI_beI]
    refine nat_of_fit b _ ?_ f2
    rcases wB_which op h34 with h | h <;> omega
end Go.Proofs.YthdgbdjagjagpaaGreatDoor
