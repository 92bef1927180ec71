/-
  The walk of the law CodeForm: it returns true for all bytes and every number, and writes nothing that was there.
-/
import Derived.Test.YtihkodfcgfnjoacDoorIn13
import Derived.Test.YtihkodfcgfnjoacDoorIn14
namespace Go.Proofs.YtihkodfcgfnjoacDoor
open Go.RowKit

theorem dE_zero {x : UInt8} {t : List UInt8} (h : dE (x :: t) = 0) : x.toNat < 34 ∧ sizeD x.toNat ≤ t.length + 1 ∧ inD x.toNat (dA x.toNat t) (dB x.toNat t) = true := by
  unfold dE at h
  simp only [] at h
  by_cases h34 : x.toNat < 34
  · rw [if_pos h34] at h
    by_cases hs : (x :: t).length < sizeD x.toNat
    · rw [if_pos hs] at h; omega
    · rw [if_neg hs] at h
      cases hi : inD x.toNat (dA x.toNat t) (dB x.toNat t)
      · rw [hi] at h; simp at h
      · exact ⟨h34, by simp at hs; omega, rfl⟩
  · rw [if_neg h34] at h; omega

theorem dV_bad (p : Int) (l : List UInt8) (h : ¬ dE l = 0) : dV p l = #[.int .i64 0, .int .u8 0, .int .i64 0, .int .i64 0] := by
  unfold dV
  cases l with
  | nil => rfl
  | cons x t => simp only []; rw [if_neg h]
theorem arr4 {q q' a a' b b' : Int} {op op' : Nat} (h : (#[.int .i64 q, .int .u8 (op : Int), .int .i64 a, .int .i64 b] : Array Value) = #[.int .i64 q', .int .u8 (op' : Int), .int .i64 a', .int .i64 b']) : q = q' ∧ op = op' ∧ a = a' ∧ b = b' := by
  simp at h
  omega

set_option maxHeartbeats 2000000 in
theorem walkCodeForm {w : World} (hW : WidAt w) (ao : Option Addr) (c : Nat) (l : List UInt8) (hl : BAt w ao l) (hn : ao = none → l = []) (hb : l.length ≤ 140737488351232) (hc : l.length ≤ c) (p : Int) (hp : (Lit.int .u64 p).wf = true) :
    Calls Tryd.prog 5 #[.slice ao l.length c, .int .u64 p] w fun e w' => e = .returned (.bool true) ∧ Below w.heap.size w w' := by
  have hp' := bounds_u64 hp
  have h0 : (((l.length : Int) + 1) == 0) = false := beq_f (by omega)
  have HL := hide hl
  have HW := hide hW
  clear hl hW hp
  go_enter Tryd.func5, Tryd.ntmps5
  go_wp2_with fail
  obtain ⟨k, hk, hkl⟩ : ∃ k : Nat, wrap64 (p % ((l.length : Int) + 1)) = (k : Int) ∧ k ≤ l.length := by
    have h1 : 0 ≤ p % ((l.length : Int) + 1) := Int.emod_nonneg _ (by omega)
    have h2 : p % ((l.length : Int) + 1) < (l.length : Int) + 1 := Int.emod_lt_of_pos _ (by omega)
    generalize p % ((l.length : Int) + 1) = z at h1 h2
    refine ⟨z.toNat, ?_, by omega⟩
    simp only [wrap64]
    omega
  rw [hk]
  clear hk hp' h0
  have D := Decode_any ao c l (k : Int) w (unhide HL) (unhide HW) (by omega) hc
  have e1 : dcE l (k : Int) = dE (l.drop k) := by unfold dcE; rw [if_neg (by omega)]; simp
  have e2 : dcV l (k : Int) = dV (k : Int) (l.drop k) := by unfold dcV; rw [if_neg (by omega)]; simp
  obtain ⟨q, op, a, b, hop, hV⟩ := dV_shape (k : Int) (l.drop k)
  rw [e1, e2, hV] at D
  have HV := hide hV
  clear e1 e2 hV
  obtain ⟨er, HER⟩ : ∃ er, Hid (dE (l.drop k) = er) := ⟨_, hide rfl⟩
  rw [unhide HER] at D
  with_reducible refine D.mono ?_
  clear D
  rintro e w1 ⟨rfl, hB1⟩
  have hal : Below w1.heap.size w1 (w1.alloc (.cells #[.int .i64 q, .int .u8 (op : Int), .int .i64 a, .int .i64 b] 37)) := (Below.refl _ _).alloc (Nat.le_refl _) _
  have HI2 : Hid (IAt (w1.alloc (.cells #[.int .i64 q, .int .u8 (op : Int), .int .i64 a, .int .i64 b] 37)) w1.heap.size q op a b) := hide (heap_alloc_new w1 _)
  have HB2 : Hid (Below w.heap.size w (w1.alloc (.cells #[.int .i64 q, .int .u8 (op : Int), .int .i64 a, .int .i64 b] 37))) := hide (hB1.trans (hal.mono hB1.size))
  have HL2 : Hid (BAt (w1.alloc (.cells #[.int .i64 q, .int .u8 (op : Int), .int .i64 a, .int .i64 b] 37)) ao l) := hide (((unhide HL).below' hB1).below' hal)
  have HW2 : Hid (WidAt (w1.alloc (.cells #[.int .i64 q, .int .u8 (op : Int), .int .i64 a, .int .i64 b] 37))) := hide (((unhide HW).below hB1).below hal)
  clear hal hB1 HL HW
  go_wp2_with fail
  generalize (w1.alloc (.cells #[.int .i64 q, .int .u8 (op : Int), .int .i64 a, .int .i64 b] 37)) = w2 at HI2 HB2 HL2 HW2 ⊢
  generalize w1.heap.size = g at HI2 ⊢
  clear w1
  have E := Encode_any 0 33 0 0 w2 (unhide HW2) (by omega)
  rw [show eL 33 0 0 = [33] from by decide, show eE 33 0 0 = 0 from by decide, show (((33 : Nat) : Int)) = 33 from rfl] at E
  with_reducible refine E.mono ?_
  clear E
  rintro e w3 ⟨v, rfl, hO3, hB3⟩
  have HI3 := hide ((unhide HI2).below hB3)
  have HB3 := hide ((unhide HB2).trans (hB3.mono (unhide HB2).size))
  have HL3 := hide ((unhide HL2).below' hB3)
  have HW3 := hide ((unhide HW2).below hB3)
  obtain ⟨a1, p1, rfl, hb1⟩ := hO3.at
  have HA1 := hide hb1
  clear hO3 hb1 hB3 HI2 HB2 HL2 HW2
  have hal : Below w3.heap.size w3 (w3.alloc (.cells #[.int .u8 33] 5)) := (Below.refl _ _).alloc (Nat.le_refl _) _
  have HI4 := hide ((unhide HI3).below hal)
  have HB4 := hide ((unhide HB3).trans (hal.mono (unhide HB3).size))
  have HL4 := hide ((unhide HL3).below' hal)
  have HW4 := hide ((unhide HW3).below hal)
  have HE4 := hide (Equal_any a1 (some ⟨w3.heap.size, 0, none⟩) p1 1 [33] [33] _ ((unhide HA1).below' hal) (BAt.one w3 33 33 rfl 5) (by decide) (by decide))
  clear hal HI3 HB3 HL3 HW3 HA1
  simp only [List.length_cons, List.length_nil, Nat.zero_add] at HE4 ⊢
  go_wp2_with fail
  with_reducible refine (unhide HE4).mono ?_
  rintro e w5 ⟨rfl, k1, rfl⟩
  have HI5 : Hid (IAt ((w3.alloc (.cells #[.int .u8 33] 5)).drewN k1) g q op a b) := hide (unhide HI4)
  have HB5 : Hid (Below w.heap.size w ((w3.alloc (.cells #[.int .u8 33] 5)).drewN k1)) := hide (belowD (unhide HB4) _)
  have HL5 : Hid (BAt ((w3.alloc (.cells #[.int .u8 33] 5)).drewN k1) ao l) := hide (unhide HL4)
  have HW5 : Hid (WidAt ((w3.alloc (.cells #[.int .u8 33] 5)).drewN k1)) := hide (unhide HW4)
  generalize (w3.alloc (.cells #[.int .u8 33] 5)).drewN k1 = w5 at HI5 HB5 HL5 HW5 ⊢
  generalize w3.heap.size = g3
  clear HI4 HB4 HL4 HW4 HE4 k1 w3
  rw [show (([33] : List UInt8) == [33]) = true from by decide]
  by_cases h0 : er = 0
  rotate_left
  · obtain ⟨rfl, rfl, rfl, rfl⟩ : q = 0 ∧ op = 0 ∧ a = 0 ∧ b = 0 := arr4 ((unhide HV).symm.trans (dV_bad _ _ (by rw [unhide HER]; exact h0)))
    have b1 : (er != 0) = true := bne_t h0
    obtain ⟨c1, c2, c3⟩ := (unhide HI5).c
    have c0 := (unhide HI5).c0
    clear h0
    go_wp2
    go_ret
    exact ⟨ret_bool (by simp), unhide HB5⟩
  subst h0
  cases hd : l.drop k with
  | nil =>
    have := unhide HER
    rw [hd] at this
    exact absurd this (by decide)
  | cons x t =>
    have hz := unhide HER
    rw [hd] at hz
    obtain ⟨h34, hsz, hin⟩ := dE_zero hz
    have hlen : l.length - k = t.length + 1 := by have := congrArg List.length hd; simpa using this
    obtain ⟨rfl, rfl, rfl, rfl⟩ : q = (k : Int) ∧ op = x.toNat ∧ a = dA x.toNat t ∧ b = dB x.toNat t := arr4 ((unhide HV).symm.trans (by
      rw [hd]; unfold dV; simp only []; rw [if_pos hz]))
    have hsz' : sizeD x.toNat = 1 + wA x.toNat + wB x.toNat := by unfold sizeD; rw [if_pos h34]
    have heE : eE x.toNat (dA x.toNat t) (dB x.toNat t) = 0 := by unfold eE; rw [if_pos h34, if_pos hin]
    have heL : eL x.toNat (dA x.toNat t) (dB x.toNat t) = (x :: t).take (sizeD x.toNat) := by
      unfold eL; rw [if_pos heE]; exact enc_of_dec x t h34 (by omega)
    have E := Encode_any (k : Int) x.toNat (dA x.toNat t) (dB x.toNat t) w5 (unhide HW5) (by omega)
    rw [heE, heL] at E
    obtain ⟨b0, off, rfl, _⟩ := (unhide HL5).head (by omega)
    have hml : ((x :: t).take (sizeD x.toNat)).length = sizeD x.toNat := by simp; omega
    have HM5 : Hid (BAt w5 (some ⟨b0, off + k, none⟩) ((x :: t).take (sizeD x.toNat))) := hide (by
      have h := (unhide HL5).dropAt k
      rw [hd] at h
      exact BAt.part h 0 _ rfl)
    have HSz := hide (fun W h => Size_any x.toNat W h (by omega))
    generalize dA x.toNat t = va at HI5 E ⊢
    generalize dB x.toNat t = vb at HI5 E ⊢
    generalize sizeD x.toNat = n at hsz hsz' E hml HM5 HSz
    generalize (x :: t).take n = m at E hml HM5
    generalize x.toNat = op at *
    obtain ⟨c1, c2, c3⟩ := (unhide HI5).c
    have c0 := (unhide HI5).c0
    clear hz hin heE heL HV HER hd
    subst hml
    go_wp2_with fail
    with_reducible refine E.mono ?_
    clear E
    rintro e w6 ⟨v, rfl, hO6, hB6⟩
    have HI6 := hide ((unhide HI5).below hB6)
    have HB6 := hide ((unhide HB5).trans (hB6.mono (unhide HB5).size))
    have HW6 := hide ((unhide HW5).below hB6)
    have HM6 := hide ((unhide HM5).below' hB6)
    obtain ⟨a2, p2, rfl, hb2⟩ := hO6.at
    have HE := hide (Equal_any a2 (some ⟨b0, off + k, none⟩) p2 (c - k) m m w6 hb2 (unhide HM6) (by unfold maxLen; omega) (by unfold maxLen; omega))
    have HS := hide (fun q => unhide HSz (w6.drewN q) ((unhide HW6).drewN q))
    clear hO6 hB6 hb2 HI5 HB5 HL5 HW5 HM5 HM6 HW6 HSz c0 c1 c2 c3
    obtain ⟨c1, c2, c3⟩ := (unhide HI6).c
    have c0 := (unhide HI6).c0
    have i1 : (k : Int) + (m.length : Int) ≤ (l.length : Int) := by omega
    have i2 : ¬ c = k := by omega
    have i3 : (k : Int) + (m.length : Int) ≤ (c : Int) := by omega
    have i4 : (k : Int) ≤ (k : Int) + (m.length : Int) := by omega
    have i5 : k + m.length - k = m.length := by omega
    have hmm : (m == m) = true := by simp
    clear hsz'
    go_wp2_with (first | (go_at_call 10; with_reducible refine (unhide HE).mono ?_; rintro e w4 ⟨rfl, q1, rfl⟩) | (go_at_call 18; with_reducible refine (unhide HS _).mono ?_; rintro e w5 ⟨rfl, q2, rfl⟩))
    go_ret
    exact ⟨ret_bool (by simp), by simpa using belowD (unhide HB6) _⟩
end Go.Proofs.YtihkodfcgfnjoacDoor
