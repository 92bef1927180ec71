/-
  What is packed is read, plainly: a frame of Pack, or of Told, is one for Unpack, or Heard, and says the same. And that two of the same parts are the same (sameRequest, sameAnswer).
-/
import Derived.Test.YtghdefhbncejjaaTk6
import Derived.Test.YtghdefhbncejjaaWalkTalkFrames
namespace Go.Proofs.Ytghdefhbncejjaa
open Go.RowKit
set_option linter.unusedVariables false

theorem be1_list (n : Int) : be n 1 = [byteOf n 0] := by unfold be; rfl
theorem be2_list (n : Int) : be n 2 = [byteOf n 1, byteOf n 0] := by unfold be; rfl
theorem opN_frT (H m : List UInt8) (hm : m.length ≤ 255) : opN (frT H m) (H.length + 1) = H.length + 1 + m.length := by
  unfold opN frT tsum
  rw [be1_list, Nat.add_sub_cancel, List.getD_eq_getElem?_getD, List.append_assoc, List.append_assoc, List.getElem?_append_right (Nat.le_refl _), Nat.sub_self]
  simp
  have := byteOf_eq (m.length : Int) 0
  omega
theorem take_frT (H m : List UInt8) : (frT H m).take (H.length + 1 + m.length) = H ++ be (m.length : Int) 1 ++ m := by
  unfold frT tsum
  rw [show H.length + 1 + m.length = (H ++ be (m.length : Int) 1 ++ m).length by rw [List.length_append, List.length_append, be_length], List.take_left]
theorem opE_frT (H m : List UInt8) (mk : Int) (hm : m.length ≤ 255) (h0 : at8 (frT H m) 0 = mk) : opE (frT H m) mk (H.length + 1) = 0 := by
  have hN := opN_frT H m hm
  have hL := frT_len H m
  have hs : (frT H m).length = opN (frT H m) (H.length + 1) + 4 := by rw [hN, hL]
  have hq : s32 (beN ((frT H m).drop (opN (frT H m) (H.length + 1)))) = s32 (sumOf ((frT H m).take (opN (frT H m) (H.length + 1)))) := by
    rw [sum_iff hs, hN, take_frT]
    rfl
  unfold opE
  rw [if_neg (by omega), if_neg (by rw [h0]; simp), if_neg (by omega), if_neg (by omega), if_neg (by omega), if_neg (by rw [hq]; simp)]
theorem opL_frT (H m : List UInt8) (mk : Int) (hm : m.length ≤ 255) (h0 : at8 (frT H m) 0 = mk) : opL (frT H m) mk (H.length + 1) = m := by
  unfold opL
  rw [if_pos (opE_frT H m mk hm h0), opN_frT H m hm, take_frT, show H.length + 1 = (H ++ be (m.length : Int) 1).length by rw [List.length_append, be_length], List.drop_left]
theorem byteOf_small {n : Int} (h0 : 0 ≤ n) (h1 : n ≤ 255) : ((byteOf n 0).toNat : Int) = n := by
  have := byteOf_eq n 0
  omega
theorem rq_back {c n : Int} {m : List UInt8} (h : rqE c n m = 0) : opE (rqL c n m) 80 5 = 0 ∧ unC (rqL c n m) = c ∧ unN (rqL c n m) = n ∧ opL (rqL c n m) 80 5 = m ∧ (rqL c n m).length = m.length + 9 := by
  obtain ⟨h1, h2, h3⟩ := rqE_len h
  have e : rqL c n m = frT (rqH c n) m := by unfold rqL; rw [if_pos h]
  have e2 : frT (rqH c n) m = byteOf 80 0 :: byteOf c 0 :: byteOf n 1 :: byteOf n 0 :: (be (m.length : Int) 1 ++ m ++ be (sumOf (rqH c n ++ be (m.length : Int) 1 ++ m) : Int) 4) := by
    unfold frT tsum rqH
    rw [be1_list, be1_list, be2_list]
    simp
  have h0 : at8 (frT (rqH c n) m) 0 = 80 := by rw [e2]; rfl
  have hl : (rqH c n).length + 1 = 5 := by rw [rqH_len]
  have hE : opE (rqL c n m) 80 5 = 0 := by rw [e, ← hl]; exact opE_frT _ _ _ h3 h0
  have c1 : at8 (frT (rqH c n) m) 1 = c := by rw [e2]; exact byteOf_small (by omega) (by omega)
  have c2 : at8 (frT (rqH c n) m) 2 = ((byteOf n 1).toNat : Int) := by rw [e2]; rfl
  have c3 : at8 (frT (rqH c n) m) (2 + 1) = ((byteOf n 0).toNat : Int) := by rw [e2]; rfl
  have b1 := byteOf_eq n 1
  have b0 := byteOf_eq n 0
  refine ⟨hE, ?_, ?_, ?_, ?_⟩
  · unfold unC; rw [if_pos hE, e, c1]
  · unfold unN wdT; rw [if_pos hE, e, c2, c3]; omega
  · rw [e, ← hl]; exact opL_frT _ _ _ h3 h0
  · rw [e, frT_len, rqH_len]; omega
theorem an_back {s : Int} {m : List UInt8} (h : anE s m = 0) : opE (anL s m) 112 4 = 0 ∧ heS (anL s m) = s ∧ opL (anL s m) 112 4 = m ∧ (anL s m).length = m.length + 8 := by
  obtain ⟨h2, h3⟩ := anE_len h
  have e : anL s m = frT (anH s) m := by unfold anL; rw [if_pos h]
  have e2 : frT (anH s) m = byteOf 112 0 :: byteOf s 1 :: byteOf s 0 :: (be (m.length : Int) 1 ++ m ++ be (sumOf (anH s ++ be (m.length : Int) 1 ++ m) : Int) 4) := by
    unfold frT tsum anH
    rw [be1_list, be1_list, be2_list]
    simp
  have h0 : at8 (frT (anH s) m) 0 = 112 := by rw [e2]; rfl
  have hl : (anH s).length + 1 = 4 := by rw [anH_len]
  have hE : opE (anL s m) 112 4 = 0 := by rw [e, ← hl]; exact opE_frT _ _ _ h3 h0
  have c2 : at8 (frT (anH s) m) 1 = ((byteOf s 1).toNat : Int) := by rw [e2]; rfl
  have c3 : at8 (frT (anH s) m) (1 + 1) = ((byteOf s 0).toNat : Int) := by rw [e2]; rfl
  have b1 := byteOf_eq s 1
  have b0 := byteOf_eq s 0
  refine ⟨hE, ?_, ?_, ?_⟩
  · unfold heS wdT; rw [if_pos hE, e, c2, c3]; omega
  · rw [e, ← hl]; exact opL_frT _ _ _ h3 h0
  · rw [e, frT_len, anH_len]; omega

set_option maxHeartbeats 2000000 in
theorem sameRq_yes (c n : Int) (ao bo : Option Addr) (ca cb : Nat) (m : List UInt8) (w : World) (ha : BAt w ao m) (hb : BAt w bo m) (hm : m.length ≤ maxLen) :
    Calls Try.prog 17 #[.agg #[.int .i64 c, .int .i64 n, .slice ao m.length ca], .agg #[.int .i64 c, .int .i64 n, .slice bo m.length cb]] w fun e w' => e = .returned (.bool true) ∧ Below w.heap.size w w' := by
  have al1 := (Below.refl w.heap.size w).alloc (Nat.le_refl _) (.cells #[.int .i64 c, .int .i64 n, .slice ao m.length ca] 24)
  have HA : Hid (Below w.heap.size w ((w.alloc (.cells #[.int .i64 c, .int .i64 n, .slice ao m.length ca] 24)).alloc (.cells #[.int .i64 c, .int .i64 n, .slice bo m.length cb] 24))) := hide (al1.alloc (by simp) _)
  have HR : Hid (Bx ((w.alloc (.cells #[.int .i64 c, .int .i64 n, .slice ao m.length ca] 24)).alloc (.cells #[.int .i64 c, .int .i64 n, .slice bo m.length cb] 24)) w.heap.size 24 #[.int .i64 c, .int .i64 n, .slice ao m.length ca]) := hide (by
    have h1 : Bx (w.alloc (.cells #[.int .i64 c, .int .i64 n, .slice ao m.length ca] 24)) w.heap.size 24 #[.int .i64 c, .int .i64 n, .slice ao m.length ca] := heap_alloc_new w _
    exact h1.below ((Below.refl _ _).alloc (Nat.le_refl _) _))
  have HS : Hid (Bx ((w.alloc (.cells #[.int .i64 c, .int .i64 n, .slice ao m.length ca] 24)).alloc (.cells #[.int .i64 c, .int .i64 n, .slice bo m.length cb] 24)) (w.heap.size + 1) 24 #[.int .i64 c, .int .i64 n, .slice bo m.length cb]) := hide (by
    have h1 := heap_alloc_new (w.alloc (.cells #[.int .i64 c, .int .i64 n, .slice ao m.length ca] 24)) (.cells #[.int .i64 c, .int .i64 n, .slice bo m.length cb] 24)
    rw [World.size_alloc] at h1
    exact h1)
  have HE := hide (Equal_any ao bo ca cb m m _ (ha.below' (unhide HA)) (hb.below' (unhide HA)) hm hm)
  have hbl : (m == m) = true := by rw [beq_iff_eq]
  rw [hbl] at HE
  clear ha hb hm al1 hbl
  go_enter Try.func17, Try.ntmps17
  go_upto_region 1 with fail
  generalize ((w.alloc (.cells #[.int .i64 c, .int .i64 n, .slice ao m.length ca] 24)).alloc (.cells #[.int .i64 c, .int .i64 n, .slice bo m.length cb] 24)) = W0 at HA HR HS HE ⊢
  have k0 := (unhide HR).c 0 rfl
  have k1 := (unhide HR).c 1 rfl
  have k2 := (unhide HR).c 2 rfl
  have m0 := (unhide HS).c 0 rfl
  have m1 := (unhide HS).c 1 rfl
  have m2 := (unhide HS).c 2 rfl
  go_wp2_with fail
  refine (unhide HE).mono ?_
  rintro e W1 ⟨rfl, j, hw⟩
  have hdr : Below W0.heap.size W0 W1 := by rw [hw]; exact ⟨rfl, rfl, rfl, Nat.le_refl _, fun _ _ => rfl⟩
  have HB1 := hide ((unhide HA).trans (hdr.mono (unhide HA).size))
  clear hw hdr
  go_wp2
  go_ret
  exact ⟨rfl, unhide HB1⟩
set_option maxHeartbeats 2000000 in
theorem sameAn_yes (s : Int) (ao bo : Option Addr) (ca cb : Nat) (m : List UInt8) (w : World) (ha : BAt w ao m) (hb : BAt w bo m) (hm : m.length ≤ maxLen) :
    Calls Try.prog 20 #[.agg #[.int .i64 s, .slice ao m.length ca], .agg #[.int .i64 s, .slice bo m.length cb]] w fun e w' => e = .returned (.bool true) ∧ Below w.heap.size w w' := by
  have al1 := (Below.refl w.heap.size w).alloc (Nat.le_refl _) (.cells #[.int .i64 s, .slice ao m.length ca] 26)
  have HA : Hid (Below w.heap.size w ((w.alloc (.cells #[.int .i64 s, .slice ao m.length ca] 26)).alloc (.cells #[.int .i64 s, .slice bo m.length cb] 26))) := hide (al1.alloc (by simp) _)
  have HR : Hid (Bx ((w.alloc (.cells #[.int .i64 s, .slice ao m.length ca] 26)).alloc (.cells #[.int .i64 s, .slice bo m.length cb] 26)) w.heap.size 26 #[.int .i64 s, .slice ao m.length ca]) := hide (by
    have h1 : Bx (w.alloc (.cells #[.int .i64 s, .slice ao m.length ca] 26)) w.heap.size 26 #[.int .i64 s, .slice ao m.length ca] := heap_alloc_new w _
    exact h1.below ((Below.refl _ _).alloc (Nat.le_refl _) _))
  have HS : Hid (Bx ((w.alloc (.cells #[.int .i64 s, .slice ao m.length ca] 26)).alloc (.cells #[.int .i64 s, .slice bo m.length cb] 26)) (w.heap.size + 1) 26 #[.int .i64 s, .slice bo m.length cb]) := hide (by
    have h1 := heap_alloc_new (w.alloc (.cells #[.int .i64 s, .slice ao m.length ca] 26)) (.cells #[.int .i64 s, .slice bo m.length cb] 26)
    rw [World.size_alloc] at h1
    exact h1)
  have HE := hide (Equal_any ao bo ca cb m m _ (ha.below' (unhide HA)) (hb.below' (unhide HA)) hm hm)
  have hbl : (m == m) = true := by rw [beq_iff_eq]
  rw [hbl] at HE
  clear ha hb hm al1 hbl
  go_enter Try.func20, Try.ntmps20
  go_upto_region 1 with fail
  generalize ((w.alloc (.cells #[.int .i64 s, .slice ao m.length ca] 26)).alloc (.cells #[.int .i64 s, .slice bo m.length cb] 26)) = W0 at HA HR HS HE ⊢
  have k0 := (unhide HR).c 0 rfl
  have k1 := (unhide HR).c 1 rfl
  have m0 := (unhide HS).c 0 rfl
  have m1 := (unhide HS).c 1 rfl
  go_wp2_with fail
  refine (unhide HE).mono ?_
  rintro e W1 ⟨rfl, j, hw⟩
  have hdr : Below W0.heap.size W0 W1 := by rw [hw]; exact ⟨rfl, rfl, rfl, Nat.le_refl _, fun _ _ => rfl⟩
  have HB1 := hide ((unhide HA).trans (hdr.mono (unhide HA).size))
  clear hw hdr
  go_wp2
  go_ret
  exact ⟨rfl, unhide HB1⟩
end Go.Proofs.Ytghdefhbncejjaa
