/-
  Contracts of the document's word, Summed, Pack and Answered: the same frames as talk's. Conditions: lengths fit.
-/
import Derived.Test.YtghdefhbncejjaaTk1
namespace Go.Proofs.Ytghdefhbncejjaa
open Go.RowKit

theorem lit_ownT {w : World} (xs : List UInt8) (cs : Array Value) (hc : cs.toList = bvals xs) (hx : xs.length ≤ 100) : OwnB (w.alloc (.cells cs 5)) w.heap.size (.slice (some ⟨w.heap.size, 0, none⟩) xs.length xs.length) xs :=
  ⟨by rw [bvals_length, Nat.mul_one], Or.inr ⟨w.heap.size, xs.length, cs, rfl, Nat.le_refl _, heap_alloc_new w _, Nat.le_refl _, by unfold maxLen; omega, by rw [← Array.length_toList, hc, bvals_length, Nat.mul_one], by rw [hc, Nat.mul_one, List.take_of_length_le (by rw [bvals_length]; exact Nat.le_refl _)]⟩⟩
theorem be2_cells {n : Nat} (h : n ≤ 65535) : (#[Value.int .u8 ((n : Int) / 256), Value.int .u8 ((n : Int) % 256)]).toList = bvals (be (n : Int) 2) := by
  have e : be (n : Int) 2 = [byteOf (n : Int) 1, byteOf (n : Int) 0] := by unfold be; rfl
  have h1 : ((byteOf (n : Int) 1).toNat : Int) = (n : Int) / 256 := by rw [byteOf_eq]; omega
  have h0 : ((byteOf (n : Int) 0).toNat : Int) = (n : Int) % 256 := by rw [byteOf_eq]; omega
  rw [e]
  unfold bvals
  simp [h1, h0]
theorem be1_cells {n : Nat} (h : n ≤ 255) : (#[Value.int .u8 (n : Int)]).toList = bvals (be (n : Int) 1) := by
  have e : be (n : Int) 1 = [byteOf (n : Int) 0] := by unfold be; rfl
  have h0 : ((byteOf (n : Int) 0).toNat : Int) = (n : Int) := by rw [byteOf_eq]; omega
  rw [e]
  unfold bvals
  simp [h0]
theorem be4_cells {n : Nat} (h : n < 4294967296) : (#[Value.int .u8 ((n : Int) / 16777216), Value.int .u8 ((n : Int) / 65536 % 256), Value.int .u8 ((n : Int) / 256 % 256), Value.int .u8 ((n : Int) % 256)]).toList = bvals (be (n : Int) 4) := by
  have e : be (n : Int) 4 = [byteOf (n : Int) 3, byteOf (n : Int) 2, byteOf (n : Int) 1, byteOf (n : Int) 0] := by unfold be; rfl
  have h3 : ((byteOf (n : Int) 3).toNat : Int) = (n : Int) / 16777216 := by rw [byteOf_eq]; omega
  have h2 : ((byteOf (n : Int) 2).toNat : Int) = (n : Int) / 65536 % 256 := by rw [byteOf_eq]; omega
  have h1 : ((byteOf (n : Int) 1).toNat : Int) = (n : Int) / 256 % 256 := by rw [byteOf_eq]; omega
  have h0 : ((byteOf (n : Int) 0).toNat : Int) = (n : Int) % 256 := by rw [byteOf_eq]; omega
  rw [e]
  unfold bvals
  simp [h3, h2, h1, h0]

set_option maxHeartbeats 1000000 in
theorem wordT_any {w : World} {B : Nat} {v : Value} {l : List UInt8} (n : Nat) (hn : n ≤ 65535) (hO : OwnB w B v l) (hB : B ≤ w.heap.size) (hl : l.length ≤ 1000) :
    Calls Try.prog 32 #[v, .int .i64 (n : Int)] w fun e w' => ∃ v', e = .returned v' ∧ OwnB w' B v' (l ++ be (n : Int) 2) ∧ Below B w w' := by
  obtain ⟨a, c, hv, -⟩ := hO.at
  subst hv
  have h256 : (n : Int) / 256 % 256 = (n : Int) / 256 := by omega
  have hal : Below w.heap.size w (w.alloc (.cells #[.int .u8 ((n : Int) / 256), .int .u8 ((n : Int) % 256)] 5)) := (Below.refl _ _).alloc (Nat.le_refl _) _
  have HL5 : Hid (OwnB (w.alloc (.cells #[.int .u8 ((n : Int) / 256), .int .u8 ((n : Int) % 256)] 5)) w.heap.size (.slice (some ⟨w.heap.size, 0, none⟩) 2 2) (be (n : Int) 2)) := hide (lit_ownT (be (n : Int) 2) _ (be2_cells hn) (by rw [be_length]; omega))
  have HO5 := hide (hO.below hal)
  have HB5 := hide (hal.mono hB)
  clear hal hO
  go_enter Try.func32, Try.ntmps32
  go_wp2_with (at_builtin; refine wpList_appendB rfl (.tmp 5) (.tmp 12) rfl B (.slice a l.length c) l rfl (unhide HO5) (.slice (some ⟨w.heap.size, 0, none⟩) 2 2) (be (n : Int) 2) rfl (unhide HL5).src ?z6 ?z4 ?_)
  case z6 => rw [be_length]; omega
  try (case z4 => have := (unhide HB5).size; omega)
  intro v6 w6 hO6 hG6 hF6 hF7
  have HB6 := hide ((unhide HB5).grown hG6 (by have := (unhide HB5).size; omega) (fun q e => (World.ownsRow.lt (unhide HO5) q e).1))
  have HO6 := hide hO6
  clear hO6 hG6 hF6 hF7 HB5 HO5 HL5
  go_wp2
  go_ret
  exact ⟨v6, rfl, unhide HO6, unhide HB6⟩
set_option maxHeartbeats 1000000 in
theorem summed_any (ao : Option Addr) (c : Nat) (l : List UInt8) (w : World) (hb : BAt w ao l) (hn : ao = none → l = [] ∧ c = 0) (hl : l.length ≤ 140737488351232) :
    Calls Try.prog 33 #[.slice ao l.length c] w fun e w' => ∃ v', e = .returned v' ∧ OwnB w' w.heap.size v' (tsum l) ∧ Below w.heap.size w w' := by
  have HS := hide (refSum_any ao c l w hb (by omega))
  have HSr := hide (srcT hb hn)
  obtain ⟨C, hC⟩ : ∃ C, C = sumOf l := ⟨_, rfl⟩
  have hlt : C < 4294967296 := by rw [hC]; exact sumOf_lt l
  rw [← hC] at HS
  have HC := hide hC
  have HON : Hid (OwnB w w.heap.size (.slice none 0 0) []) := hide (World.ownsRow_nil _ _ _ _)
  clear hb hn hC
  go_enter Try.func33, Try.ntmps33
  go_wp2_with (first | (go_at_call 44; refine (unhide HS).mono ?_; rintro e W ⟨rfl, rfl⟩) | (at_builtin; refine wpList_appendB rfl (.const (.slice none 0 0)) (.tmp 6) rfl W.heap.size (.slice none 0 0) [] rfl (unhide HON) (.slice ao l.length c) l rfl (unhide HSr) ?z6 (Nat.le_refl _) ?_))
  case z6 => simp; omega
  intro v6 w6 hO6 hG6 hF6 hF7
  have HB6 := hide (below_grown hG6 (Nat.le_refl _) (fun k e => by cases e))
  have HO6 := hide hO6
  obtain ⟨a6, c6, hv6, -⟩ := hO6.at
  subst hv6
  have h256 : (C : Int) / 16777216 % 256 = (C : Int) / 16777216 := by omega
  have hal : Below w6.heap.size w6 (w6.alloc (.cells #[.int .u8 ((C : Int) / 16777216), .int .u8 ((C : Int) / 65536 % 256), .int .u8 ((C : Int) / 256 % 256), .int .u8 ((C : Int) % 256)] 5)) := (Below.refl _ _).alloc (Nat.le_refl _) _
  have HL7 : Hid (OwnB (w6.alloc (.cells #[.int .u8 ((C : Int) / 16777216), .int .u8 ((C : Int) / 65536 % 256), .int .u8 ((C : Int) / 256 % 256), .int .u8 ((C : Int) % 256)] 5)) w6.heap.size (.slice (some ⟨w6.heap.size, 0, none⟩) 4 4) (be (C : Int) 4)) := hide (lit_ownT (be (C : Int) 4) _ (be4_cells hlt) (by rw [be_length]; omega))
  have HO7 := hide ((unhide HO6).below hal)
  have HB7 := hide ((unhide HB6).trans (hal.mono (unhide HB6).size))
  clear hal hO6 hG6 hF6 hF7 HO6 HB6
  go_wp2_with (at_builtin; refine wpList_appendB rfl (.tmp 7) (.tmp 23) rfl W.heap.size (.slice a6 l.length c6) l rfl (unhide HO7) (.slice (some ⟨w6.heap.size, 0, none⟩) 4 4) (be (C : Int) 4) rfl (unhide HL7).src ?z7 ?z4 ?_)
  case z7 => rw [be_length]; omega
  try (case z4 => exact (unhide HB7).size)
  intro v8 w8 hO8 hG8 hF8 hF9
  have HB8 := hide ((unhide HB7).grown hG8 (unhide HB7).size (fun q e => (World.ownsRow.lt (unhide HO7) q e).1))
  have HO8 := hide hO8
  clear hO8 hG8 hF8 hF9 HO7 HB7 HL7
  go_wp2
  go_ret
  exact ⟨v8, rfl, by unfold tsum; rw [← unhide HC]; exact unhide HO8, unhide HB8⟩

set_option maxHeartbeats 4000000 in
theorem refPack_any (cm nu : Int) (ao : Option Addr) (c : Nat) (m : List UInt8) (w : World) (hd : BAt w ao m) (hn : ao = none → m = [] ∧ c = 0) (hm : m.length ≤ 140737488355328) :
    Calls Try.prog 10 #[.agg #[.int .i64 cm, .int .i64 nu, .slice ao m.length c]] w (PkPost w (rqE cm nu m) (rqL cm nu m)) := by
  have HBX : Hid (Bx (w.alloc (.cells #[.int .i64 cm, .int .i64 nu, .slice ao m.length c] 24)) w.heap.size 24 #[.int .i64 cm, .int .i64 nu, .slice ao m.length c]) := hide (heap_alloc_new w _)
  have HA : Hid (Below w.heap.size w (w.alloc (.cells #[.int .i64 cm, .int .i64 nu, .slice ao m.length c] 24))) := hide ((Below.refl _ w).alloc (Nat.le_refl _) _)
  have HD := hide (hd.below' (unhide HA))
  have HNN := hide hn
  clear hd hn
  by_cases hlo0 : cm < 0
  · have HE := hide (show rqE cm nu m = 5 by unfold rqE; rw [if_pos (by omega)])
    have HL := hide (show rqL cm nu m = [] by unfold rqL; rw [unhide HE]; rfl)
    go_enter Try.func10, Try.ntmps10
    go_upto_region 1 with fail
    generalize (w.alloc (.cells #[.int .i64 cm, .int .i64 nu, .slice ao m.length c] 24)) = w0 at HBX HA HD ⊢
    have k0 := (unhide HBX).c 0 rfl
    have k1 := (unhide HBX).c 1 rfl
    have k2 := (unhide HBX).c 2 rfl
    go_wp2
    go_ret2
    exact ⟨.slice none 0 0, ret_eT (unhide HE).symm, own_eT (unhide HL) (World.ownsRow_nil _ _ _ _), unhide HA⟩
  by_cases hhi0 : 255 < cm
  · have HE := hide (show rqE cm nu m = 5 by unfold rqE; rw [if_pos (by omega)])
    have HL := hide (show rqL cm nu m = [] by unfold rqL; rw [unhide HE]; rfl)
    go_enter Try.func10, Try.ntmps10
    go_upto_region 1 with fail
    generalize (w.alloc (.cells #[.int .i64 cm, .int .i64 nu, .slice ao m.length c] 24)) = w0 at HBX HA HD ⊢
    have k0 := (unhide HBX).c 0 rfl
    have k1 := (unhide HBX).c 1 rfl
    have k2 := (unhide HBX).c 2 rfl
    go_wp2
    go_ret2
    exact ⟨.slice none 0 0, ret_eT (unhide HE).symm, own_eT (unhide HL) (World.ownsRow_nil _ _ _ _), unhide HA⟩
  by_cases hlo1 : nu < 0
  · have HE := hide (show rqE cm nu m = 5 by unfold rqE; rw [if_neg (by omega), if_pos (by omega)])
    have HL := hide (show rqL cm nu m = [] by unfold rqL; rw [unhide HE]; rfl)
    go_enter Try.func10, Try.ntmps10
    go_upto_region 1 with fail
    generalize (w.alloc (.cells #[.int .i64 cm, .int .i64 nu, .slice ao m.length c] 24)) = w0 at HBX HA HD ⊢
    have k0 := (unhide HBX).c 0 rfl
    have k1 := (unhide HBX).c 1 rfl
    have k2 := (unhide HBX).c 2 rfl
    go_wp2
    go_ret2
    exact ⟨.slice none 0 0, ret_eT (unhide HE).symm, own_eT (unhide HL) (World.ownsRow_nil _ _ _ _), unhide HA⟩
  by_cases hhi1 : 65535 < nu
  · have HE := hide (show rqE cm nu m = 5 by unfold rqE; rw [if_neg (by omega), if_pos (by omega)])
    have HL := hide (show rqL cm nu m = [] by unfold rqL; rw [unhide HE]; rfl)
    go_enter Try.func10, Try.ntmps10
    go_upto_region 1 with fail
    generalize (w.alloc (.cells #[.int .i64 cm, .int .i64 nu, .slice ao m.length c] 24)) = w0 at HBX HA HD ⊢
    have k0 := (unhide HBX).c 0 rfl
    have k1 := (unhide HBX).c 1 rfl
    have k2 := (unhide HBX).c 2 rfl
    go_wp2
    go_ret2
    exact ⟨.slice none 0 0, ret_eT (unhide HE).symm, own_eT (unhide HL) (World.ownsRow_nil _ _ _ _), unhide HA⟩
  by_cases h255 : 255 < m.length
  · have HE := hide (show rqE cm nu m = 4 by unfold rqE; rw [if_neg (by omega), if_neg (by omega), if_pos h255])
    have HL := hide (show rqL cm nu m = [] by unfold rqL; rw [unhide HE]; rfl)
    have hi5 : (255 : Int) < (m.length : Int) := by omega
    go_enter Try.func10, Try.ntmps10
    go_upto_region 1 with fail
    generalize (w.alloc (.cells #[.int .i64 cm, .int .i64 nu, .slice ao m.length c] 24)) = w0 at HBX HA HD ⊢
    have k0 := (unhide HBX).c 0 rfl
    have k1 := (unhide HBX).c 1 rfl
    have k2 := (unhide HBX).c 2 rfl
    go_wp2
    go_ret2
    exact ⟨.slice none 0 0, ret_eT (unhide HE).symm, own_eT (unhide HL) (World.ownsRow_nil _ _ _ _), unhide HA⟩
  have HE := hide (show rqE cm nu m = 0 by unfold rqE; rw [if_neg (by omega), if_neg (by omega), if_neg h255])
  have HL := hide (show rqL cm nu m = frT (rqH cm nu) m by unfold rqL; rw [if_pos (unhide HE)])
  obtain ⟨K, rfl⟩ := Int.eq_ofNat_of_zero_le (show 0 ≤ cm by omega)
  have hK : K ≤ 255 := by omega
  obtain ⟨N, rfl⟩ := Int.eq_ofNat_of_zero_le (show 0 ≤ nu by omega)
  have hN : N ≤ 65535 := by omega
  clear hlo0 hhi0
  clear hlo1 hhi1
  have h8 : (K : Int) % 256 = (K : Int) := by omega
  have h9 : (m.length : Int) % 256 = (m.length : Int) := by omega
  have hi5 : (m.length : Int) ≤ 255 := by omega
  go_enter Try.func10, Try.ntmps10
  go_upto_region 1 with fail
  generalize (w.alloc (.cells #[.int .i64 (K : Int), .int .i64 (N : Int), .slice ao m.length c] 24)) = w0 at HBX HA HD ⊢
  have k0 := (unhide HBX).c 0 rfl
  have k1 := (unhide HBX).c 1 rfl
  have k2 := (unhide HBX).c 2 rfl
  have hal : Below w0.heap.size w0 (w0.alloc (.cells #[.int .u8 80, .int .u8 (K : Int)] 5)) := (Below.refl _ _).alloc (Nat.le_refl _) _
  have HO1 : Hid (OwnB (w0.alloc (.cells #[.int .u8 80, .int .u8 (K : Int)] 5)) w0.heap.size (.slice (some ⟨w0.heap.size, 0, none⟩) 2 2) (be 80 1 ++ be (K : Int) 1)) := hide (lit_ownT (be 80 1 ++ be (K : Int) 1) _ (by rw [← bvals_append, List.toList_toArray]; rw [show bvals (be 80 1) = [.int .u8 80] from rfl, ← be1_cells hK]; rfl) (by simp [be_length]))
  have HB1 := hide hal
  have HWd := hide (wordT_any N hN (unhide HO1) (unhide HB1).size (by simp [be_length]))
  rw [show be 80 1 ++ be (K : Int) 1 ++ be (N : Int) 2 = rqH (K : Int) (N : Int) from rfl] at HWd
  have ka0 := ((unhide HBX).below hal).c 0 rfl
  have ka1 := ((unhide HBX).below hal).c 1 rfl
  clear hal
  go_wp2_with fail
  with_reducible refine (unhide HWd).mono ?_
  rintro e W2 ⟨v2, rfl, hO2, hb2⟩
  have HB2 := hide ((unhide HB1).trans hb2)
  have HO2 := hide hO2
  obtain ⟨R, hR⟩ : ∃ R, R = rqH (K : Int) (N : Int) := ⟨_, rfl⟩
  have hRl : R.length ≤ 10 := by rw [hR]; simp [rqH, be_length]
  rw [← hR] at HO2
  have HR := hide hR
  obtain ⟨a2, c2, hv2, -⟩ := (unhide HO2).at
  subst hv2
  have hal : Below W2.heap.size W2 (W2.alloc (.cells #[.int .u8 (m.length : Int)] 5)) := (Below.refl _ _).alloc (Nat.le_refl _) _
  have HL3 : Hid (OwnB (W2.alloc (.cells #[.int .u8 (m.length : Int)] 5)) W2.heap.size (.slice (some ⟨W2.heap.size, 0, none⟩) 1 1) (be (m.length : Int) 1)) := hide (lit_ownT (be (m.length : Int) 1) _ (be1_cells (by omega)) (by rw [be_length]; omega))
  have HO3 := hide ((unhide HO2).below hal)
  have HB3 := hide ((unhide HB2).trans (hal.mono (unhide HB2).size))
  have kb := ((unhide HBX).below (unhide HB2)).c 2 rfl
  clear hal hO2 hb2 hR k0 k1 k2 ka0 ka1
  go_wp2_with (at_builtin; refine wpList_appendB rfl (.tmp 34) (.tmp 39) rfl w0.heap.size (.slice a2 R.length c2) R rfl (unhide HO3) (.slice (some ⟨W2.heap.size, 0, none⟩) 1 1) (be (m.length : Int) 1) rfl (unhide HL3).src ?z6 ?z4 ?_)
  case z6 => rw [be_length]; omega
  try (case z4 => exact (unhide HB3).size)
  intro v4 w4 hO4 hG4 hF4 hF5
  have HB4 := hide ((unhide HB3).grown hG4 (unhide HB3).size (fun q e => (World.ownsRow.lt (unhide HO3) q e).1))
  obtain ⟨R4, hR4⟩ : ∃ R4, R4 = R ++ be (m.length : Int) 1 := ⟨_, rfl⟩
  have hRl4 : R4.length ≤ 20 := by rw [hR4]; simp [be_length]; omega
  rw [← hR4] at hO4
  have HO4 := hide hO4
  have HR4 := hide hR4
  obtain ⟨a4, c4, hv4, -⟩ := hO4.at
  subst hv4
  have HSm := hide (srcT ((unhide HD).below' (unhide HB4)) (unhide HNN))
  have kc := ((unhide HBX).below (unhide HB4)).c 2 rfl
  clear hO4 hG4 hF4 hF5 hR4 kb HO3 HB3 HL3
  go_wp2_with (at_builtin; refine wpList_appendB rfl (.tmp 41) (.tmp 43) rfl w0.heap.size (.slice a4 R4.length c4) R4 rfl (unhide HO4) (.slice ao m.length c) m rfl (unhide HSm) ?z7 ?z8 ?_)
  case z7 => omega
  try (case z8 => exact (unhide HB4).size)
  intro v5 w5 hO5 hG5 hF5 hF6
  have HB5 := hide ((unhide HB4).grown hG5 (unhide HB4).size (fun q e => (World.ownsRow.lt (unhide HO4) q e).1))
  obtain ⟨R5, hR5⟩ : ∃ R5, R5 = R4 ++ m := ⟨_, rfl⟩
  have hRl5 : R5.length ≤ 300 := by rw [hR5]; simp; omega
  have hRg5 : 1 ≤ R5.length := by rw [hR5, unhide HR4]; simp [be_length]; omega
  rw [← hR5] at hO5
  have HO5 := hide hO5
  have HR5 := hide hR5
  obtain ⟨a5, c5, hv5, hb5⟩ := hO5.at
  subst hv5
  have HSu := hide (summed_any a5 c5 R5 w5 hb5 (fun e => by
    subst e
    rcases (unhide HO5).shape with ⟨_, h⟩ | ⟨g, cap, h, _⟩
    · rw [h] at hRg5; simp at hRg5
    · cases h) (by omega))
  clear hO5 hG5 hF5 hF6 hR5 kc hb5 hRg5
  go_wp2_with (go_at_call 33; with_reducible refine (unhide HSu).mono ?_; rintro e W6 ⟨v6, rfl, hO6, hb6⟩)
  have HB6 := hide ((unhide HB5).trans (hb6.mono (unhide HB5).size))
  have HO6 := hide (hO6.mono (unhide HB5).size)
  clear hO6 hb6
  go_ret2
  refine ⟨v6, ret_eT (unhide HE).symm, own_eT (unhide HL) ?_, (unhide HA).trans ((unhide HB6).mono (unhide HA).size)⟩
  have := (unhide HO6).mono (unhide HA).size
  unfold frT
  rw [← unhide HR, ← unhide HR4, ← unhide HR5]
  exact this

set_option maxHeartbeats 4000000 in
theorem refTold_any (st : Int) (ao : Option Addr) (c : Nat) (m : List UInt8) (w : World) (hd : BAt w ao m) (hn : ao = none → m = [] ∧ c = 0) (hm : m.length ≤ 140737488355328) :
    Calls Try.prog 14 #[.agg #[.int .i64 st, .slice ao m.length c]] w (PkPost w (anE st m) (anL st m)) := by
  have HBX : Hid (Bx (w.alloc (.cells #[.int .i64 st, .slice ao m.length c] 26)) w.heap.size 26 #[.int .i64 st, .slice ao m.length c]) := hide (heap_alloc_new w _)
  have HA : Hid (Below w.heap.size w (w.alloc (.cells #[.int .i64 st, .slice ao m.length c] 26))) := hide ((Below.refl _ w).alloc (Nat.le_refl _) _)
  have HD := hide (hd.below' (unhide HA))
  have HNN := hide hn
  clear hd hn
  by_cases hlo0 : st < 0
  · have HE := hide (show anE st m = 5 by unfold anE; rw [if_pos (by omega)])
    have HL := hide (show anL st m = [] by unfold anL; rw [unhide HE]; rfl)
    go_enter Try.func14, Try.ntmps14
    go_upto_region 1 with fail
    generalize (w.alloc (.cells #[.int .i64 st, .slice ao m.length c] 26)) = w0 at HBX HA HD ⊢
    have k0 := (unhide HBX).c 0 rfl
    have k1 := (unhide HBX).c 1 rfl
    go_wp2
    go_ret2
    exact ⟨.slice none 0 0, ret_eT (unhide HE).symm, own_eT (unhide HL) (World.ownsRow_nil _ _ _ _), unhide HA⟩
  by_cases hhi0 : 65535 < st
  · have HE := hide (show anE st m = 5 by unfold anE; rw [if_pos (by omega)])
    have HL := hide (show anL st m = [] by unfold anL; rw [unhide HE]; rfl)
    go_enter Try.func14, Try.ntmps14
    go_upto_region 1 with fail
    generalize (w.alloc (.cells #[.int .i64 st, .slice ao m.length c] 26)) = w0 at HBX HA HD ⊢
    have k0 := (unhide HBX).c 0 rfl
    have k1 := (unhide HBX).c 1 rfl
    go_wp2
    go_ret2
    exact ⟨.slice none 0 0, ret_eT (unhide HE).symm, own_eT (unhide HL) (World.ownsRow_nil _ _ _ _), unhide HA⟩
  by_cases h255 : 255 < m.length
  · have HE := hide (show anE st m = 4 by unfold anE; rw [if_neg (by omega), if_pos h255])
    have HL := hide (show anL st m = [] by unfold anL; rw [unhide HE]; rfl)
    have hi5 : (255 : Int) < (m.length : Int) := by omega
    go_enter Try.func14, Try.ntmps14
    go_upto_region 1 with fail
    generalize (w.alloc (.cells #[.int .i64 st, .slice ao m.length c] 26)) = w0 at HBX HA HD ⊢
    have k0 := (unhide HBX).c 0 rfl
    have k1 := (unhide HBX).c 1 rfl
    go_wp2
    go_ret2
    exact ⟨.slice none 0 0, ret_eT (unhide HE).symm, own_eT (unhide HL) (World.ownsRow_nil _ _ _ _), unhide HA⟩
  have HE := hide (show anE st m = 0 by unfold anE; rw [if_neg (by omega), if_neg h255])
  have HL := hide (show anL st m = frT (anH st) m by unfold anL; rw [if_pos (unhide HE)])
  obtain ⟨N, rfl⟩ := Int.eq_ofNat_of_zero_le (show 0 ≤ st by omega)
  have hN : N ≤ 65535 := by omega
  clear hlo0 hhi0
  have h9 : (m.length : Int) % 256 = (m.length : Int) := by omega
  have hi5 : (m.length : Int) ≤ 255 := by omega
  go_enter Try.func14, Try.ntmps14
  go_upto_region 1 with fail
  generalize (w.alloc (.cells #[.int .i64 (N : Int), .slice ao m.length c] 26)) = w0 at HBX HA HD ⊢
  have k0 := (unhide HBX).c 0 rfl
  have k1 := (unhide HBX).c 1 rfl
  have hal : Below w0.heap.size w0 (w0.alloc (.cells #[.int .u8 112] 5)) := (Below.refl _ _).alloc (Nat.le_refl _) _
  have HO1 : Hid (OwnB (w0.alloc (.cells #[.int .u8 112] 5)) w0.heap.size (.slice (some ⟨w0.heap.size, 0, none⟩) 1 1) (be 112 1)) := hide (lit_ownT (be 112 1) _ (rfl) (by simp [be_length]))
  have HB1 := hide hal
  have HWd := hide (wordT_any N hN (unhide HO1) (unhide HB1).size (by simp [be_length]))
  rw [show be 112 1 ++ be (N : Int) 2 = anH (N : Int) from rfl] at HWd
  have ka0 := ((unhide HBX).below hal).c 0 rfl
  clear hal
  go_wp2_with fail
  with_reducible refine (unhide HWd).mono ?_
  rintro e W2 ⟨v2, rfl, hO2, hb2⟩
  have HB2 := hide ((unhide HB1).trans hb2)
  have HO2 := hide hO2
  obtain ⟨R, hR⟩ : ∃ R, R = anH (N : Int) := ⟨_, rfl⟩
  have hRl : R.length ≤ 10 := by rw [hR]; simp [anH, be_length]
  rw [← hR] at HO2
  have HR := hide hR
  obtain ⟨a2, c2, hv2, -⟩ := (unhide HO2).at
  subst hv2
  have hal : Below W2.heap.size W2 (W2.alloc (.cells #[.int .u8 (m.length : Int)] 5)) := (Below.refl _ _).alloc (Nat.le_refl _) _
  have HL3 : Hid (OwnB (W2.alloc (.cells #[.int .u8 (m.length : Int)] 5)) W2.heap.size (.slice (some ⟨W2.heap.size, 0, none⟩) 1 1) (be (m.length : Int) 1)) := hide (lit_ownT (be (m.length : Int) 1) _ (be1_cells (by omega)) (by rw [be_length]; omega))
  have HO3 := hide ((unhide HO2).below hal)
  have HB3 := hide ((unhide HB2).trans (hal.mono (unhide HB2).size))
  have kb := ((unhide HBX).below (unhide HB2)).c 1 rfl
  clear hal hO2 hb2 hR k0 k1 ka0
  go_wp2_with (at_builtin; refine wpList_appendB rfl (.tmp 21) (.tmp 26) rfl w0.heap.size (.slice a2 R.length c2) R rfl (unhide HO3) (.slice (some ⟨W2.heap.size, 0, none⟩) 1 1) (be (m.length : Int) 1) rfl (unhide HL3).src ?z6 ?z4 ?_)
  case z6 => rw [be_length]; omega
  try (case z4 => exact (unhide HB3).size)
  intro v4 w4 hO4 hG4 hF4 hF5
  have HB4 := hide ((unhide HB3).grown hG4 (unhide HB3).size (fun q e => (World.ownsRow.lt (unhide HO3) q e).1))
  obtain ⟨R4, hR4⟩ : ∃ R4, R4 = R ++ be (m.length : Int) 1 := ⟨_, rfl⟩
  have hRl4 : R4.length ≤ 20 := by rw [hR4]; simp [be_length]; omega
  rw [← hR4] at hO4
  have HO4 := hide hO4
  have HR4 := hide hR4
  obtain ⟨a4, c4, hv4, -⟩ := hO4.at
  subst hv4
  have HSm := hide (srcT ((unhide HD).below' (unhide HB4)) (unhide HNN))
  have kc := ((unhide HBX).below (unhide HB4)).c 1 rfl
  clear hO4 hG4 hF4 hF5 hR4 kb HO3 HB3 HL3
  go_wp2_with (at_builtin; refine wpList_appendB rfl (.tmp 28) (.tmp 30) rfl w0.heap.size (.slice a4 R4.length c4) R4 rfl (unhide HO4) (.slice ao m.length c) m rfl (unhide HSm) ?z7 ?z8 ?_)
  case z7 => omega
  try (case z8 => exact (unhide HB4).size)
  intro v5 w5 hO5 hG5 hF5 hF6
  have HB5 := hide ((unhide HB4).grown hG5 (unhide HB4).size (fun q e => (World.ownsRow.lt (unhide HO4) q e).1))
  obtain ⟨R5, hR5⟩ : ∃ R5, R5 = R4 ++ m := ⟨_, rfl⟩
  have hRl5 : R5.length ≤ 300 := by rw [hR5]; simp; omega
  have hRg5 : 1 ≤ R5.length := by rw [hR5, unhide HR4]; simp [be_length]; omega
  rw [← hR5] at hO5
  have HO5 := hide hO5
  have HR5 := hide hR5
  obtain ⟨a5, c5, hv5, hb5⟩ := hO5.at
  subst hv5
  have HSu := hide (summed_any a5 c5 R5 w5 hb5 (fun e => by
    subst e
    rcases (unhide HO5).shape with ⟨_, h⟩ | ⟨g, cap, h, _⟩
    · rw [h] at hRg5; simp at hRg5
    · cases h) (by omega))
  clear hO5 hG5 hF5 hF6 hR5 kc hb5 hRg5
  go_wp2_with (go_at_call 33; with_reducible refine (unhide HSu).mono ?_; rintro e W6 ⟨v6, rfl, hO6, hb6⟩)
  have HB6 := hide ((unhide HB5).trans (hb6.mono (unhide HB5).size))
  have HO6 := hide (hO6.mono (unhide HB5).size)
  clear hO6 hb6
  go_ret2
  refine ⟨v6, ret_eT (unhide HE).symm, own_eT (unhide HL) ?_, (unhide HA).trans ((unhide HB6).mono (unhide HA).size)⟩
  have := (unhide HO6).mono (unhide HA).size
  unfold frT
  rw [← unhide HR, ← unhide HR4, ← unhide HR5]
  exact this
end Go.Proofs.Ytghdefhbncejjaa
