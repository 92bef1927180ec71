/-
  The contract of provisoref01.Put where there is room: the number's bytes behind. Conditions: lengths fit.
-/
import Derived.Test.YtggaecmjadkopaaRPut2
namespace Go.Proofs.Ytggaecmjadkopaa
open Go.RowKit

theorem pow8 (m : Nat) : (2 : Int) ^ (8 * m) = 256 ^ m := by
  rw [Int.pow_mul]; rfl

set_option maxHeartbeats 1000000 in
theorem refPut_ok {w : World} {b : Value} {l : List UInt8} (hb : OwnB w 0 b l) (n : Int) (s : Nat) (hs : s = 1 ∨ s = 2 ∨ s = 4) (hl : l.length ≤ 1048576) (he : wE l n s = 0) :
    Calls Try.prog 44 #[b, .int .i64 n, .int .i64 (s : Int)] w (RPost w b 0 (l ++ be n s)) := by
  obtain ⟨ao, cap, hbv, _⟩ := hb.at
  have HB := hide hb
  subst hbv
  clear hb
  have hr : ¬ (n < loN s ∨ hiN s < n) := by
    intro hr; unfold wE at he; rw [if_pos hr] at he; simp at he
  have hf : ¬ 1048576 < l.length + s := by
    intro hf; unfold wE at he; rw [if_neg hr, if_pos hf] at he; simp at he
  have hA : Below w.heap.size w (w.alloc (.cells #[] 5)) := (Below.refl _ w).alloc (Nat.le_refl _) _
  have HS : Hid (SrcB (w.alloc (.cells #[] 5)) (.slice ao l.length cap) l) := hide ((unhide HB).below hA).src
  have HE : Hid (OwnB (w.alloc (.cells #[] 5)) w.heap.size (.slice (some ⟨w.heap.size, 0, none⟩) 0 0) []) := hide (World.ownsRow_made w #[] 0 (Nat.le_refl _) (by decide) rfl)
  clear he
  rcases hs with rfl | rfl | rfl
  · have h0 : ¬ n < 0 := fun h => hr (.inl h)
    have h1 : ¬ 255 < n := fun h => hr (.inr h)
    have hf' : ¬ (1048576 : Int) < (l.length : Int) + 1 := by omega
    have hfl : l.length + 1 ≤ 1048576 := by omega
    have HFL := hide hfl
    clear hr hf
    go_enter Try.func44, Try.ntmps44
    go_wp2_with (at_builtin; refine wpList_appendB rfl _ _ rfl w.heap.size _ [] rfl (unhide HE) _ l rfl (unhide HS) (by simp; omega) (by simp) ?_)
    intro v1 w1 hO1 hG1 hF1 hN1
    have hB1 : Below w.heap.size w w1 := hA.grown hG1 (by simp) (fun k e => by cases e; exact Nat.le_refl _)
    clear hG1 hF1 hN1
    go_wp2
    clear h0 h1 hf' hfl hl
    go_loopw [8, 9] (fun v i wr => ∃ k : Nat, k ≤ 1 ∧ i = .int .i64 ((k : Int) - 1) ∧ OwnB wr w.heap.size v (l ++ (be n 1).take (1 - k)) ∧ Below w.heap.size w wr) (fun _ i _ => (intOf i + 1).toNat)
    case atStart => exact ⟨1, by omega, by simp, by simpa using hO1, hB1⟩
    case round =>
      obtain ⟨k, hk, rfl, hO, hB⟩ := hrel
      cases k with
      | zero =>
        have HO : Hid (OwnB wr w.heap.size u8 (l ++ be n 1)) := hide (by
          have := hO
          rw [List.take_of_length_le (by rw [be_length]; omega)] at this
          exact this)
        clear hO
        go_wp2
        go_ret2
        exact ⟨_, rfl, (unhide HO).mono (Nat.zero_le _), hB, .inr (fun k e => ((unhide HO).lt k e).1)⟩
      | succ m =>
        rw [show (((m + 1 : Nat) : Int) - 1) = (m : Int) from by omega]
        have HBY : Hid (n / 2 ^ (8 * m) % 256 = ((byteOf n m).toNat : Int)) := hide (by rw [byteOf_eq, pow8])
        have HA2 : Hid (l ++ (be n 1).take (1 - m) = l ++ (be n 1).take (1 - (m + 1)) ++ [byteOf n m]) := hide (by
          rw [List.append_assoc]
          rw [show 1 - m = (1 - (m + 1)) + 1 from by omega, be_take n 1 (1 - (m + 1)) (by omega), show 1 - 1 - (1 - (m + 1)) = m from by omega])
        obtain ⟨M, x, HM, HX2⟩ : ∃ M x, Hid (l ++ (be n 1).take (1 - (m + 1)) = M) ∧ Hid (byteOf n m = x) := ⟨_, _, hide rfl, hide rfl⟩
        rw [unhide HM] at hO
        have HBX : Hid (n / 2 ^ (8 * m) % 256 = (x.toNat : Int)) := hide (by rw [unhide HBY, unhide HX2])
        have HO := hide hO
        have hML : M.length ≤ l.length + 1 := by rw [← unhide HM, List.length_append, List.length_take, be_length]; omega
        have hm8 : m < 1 := by omega
        clear hO
        go_wp2_with (at_builtin; refine wpList_appendB rfl _ _ rfl w.heap.size _ M rfl ((unhide HO).below ((Below.refl _ wr).alloc (Nat.le_refl _) _)) _ [x] rfl (.inr ⟨_, _, rfl, BAt.one wr x _ (unhide HBX) _⟩) ?a3 ?a4 ?_)
        case a3 => have := unhide HFL; simp; omega
        case a4 => have := hB.size; simp; omega
        · intro v' w2 hO2 hG2 hF2 hN2
          rw [← unhide HM, ← unhide HX2, ← unhide HA2] at hO2
          have hB2 : Below w.heap.size w w2 := (hB.alloc hB.size _).grown hG2 (by have := hB.size; simp; omega) (fun x e => ((unhide HO).lt x e).1)
          clear hG2 hF2 hN2
          go_wp2
          go_roundw
          case rel => exact ⟨m, by omega, rfl, hO2, hB2⟩
          case measure => simp [intOf]
  · have h0 : ¬ n < 0 := fun h => hr (.inl h)
    have h1 : ¬ 65535 < n := fun h => hr (.inr h)
    have hf' : ¬ (1048576 : Int) < (l.length : Int) + 2 := by omega
    have hfl : l.length + 2 ≤ 1048576 := by omega
    have HFL := hide hfl
    clear hr hf
    go_enter Try.func44, Try.ntmps44
    go_wp2_with (at_builtin; refine wpList_appendB rfl _ _ rfl w.heap.size _ [] rfl (unhide HE) _ l rfl (unhide HS) (by simp; omega) (by simp) ?_)
    intro v1 w1 hO1 hG1 hF1 hN1
    have hB1 : Below w.heap.size w w1 := hA.grown hG1 (by simp) (fun k e => by cases e; exact Nat.le_refl _)
    clear hG1 hF1 hN1
    go_wp2
    clear h0 h1 hf' hfl hl
    go_loopw [8, 9] (fun v i wr => ∃ k : Nat, k ≤ 2 ∧ i = .int .i64 ((k : Int) - 1) ∧ OwnB wr w.heap.size v (l ++ (be n 2).take (2 - k)) ∧ Below w.heap.size w wr) (fun _ i _ => (intOf i + 1).toNat)
    case atStart => exact ⟨2, by omega, by simp, by simpa using hO1, hB1⟩
    case round =>
      obtain ⟨k, hk, rfl, hO, hB⟩ := hrel
      cases k with
      | zero =>
        have HO : Hid (OwnB wr w.heap.size u8 (l ++ be n 2)) := hide (by
          have := hO
          rw [List.take_of_length_le (by rw [be_length]; omega)] at this
          exact this)
        clear hO
        go_wp2
        go_ret2
        exact ⟨_, rfl, (unhide HO).mono (Nat.zero_le _), hB, .inr (fun k e => ((unhide HO).lt k e).1)⟩
      | succ m =>
        rw [show (((m + 1 : Nat) : Int) - 1) = (m : Int) from by omega]
        have HBY : Hid (n / 2 ^ (8 * m) % 256 = ((byteOf n m).toNat : Int)) := hide (by rw [byteOf_eq, pow8])
        have HA2 : Hid (l ++ (be n 2).take (2 - m) = l ++ (be n 2).take (2 - (m + 1)) ++ [byteOf n m]) := hide (by
          rw [List.append_assoc]
          rw [show 2 - m = (2 - (m + 1)) + 1 from by omega, be_take n 2 (2 - (m + 1)) (by omega), show 2 - 1 - (2 - (m + 1)) = m from by omega])
        obtain ⟨M, x, HM, HX2⟩ : ∃ M x, Hid (l ++ (be n 2).take (2 - (m + 1)) = M) ∧ Hid (byteOf n m = x) := ⟨_, _, hide rfl, hide rfl⟩
        rw [unhide HM] at hO
        have HBX : Hid (n / 2 ^ (8 * m) % 256 = (x.toNat : Int)) := hide (by rw [unhide HBY, unhide HX2])
        have HO := hide hO
        have hML : M.length ≤ l.length + 2 := by rw [← unhide HM, List.length_append, List.length_take, be_length]; omega
        have hm8 : m < 2 := by omega
        clear hO
        go_wp2_with (at_builtin; refine wpList_appendB rfl _ _ rfl w.heap.size _ M rfl ((unhide HO).below ((Below.refl _ wr).alloc (Nat.le_refl _) _)) _ [x] rfl (.inr ⟨_, _, rfl, BAt.one wr x _ (unhide HBX) _⟩) ?a3 ?a4 ?_)
        case a3 => have := unhide HFL; simp; omega
        case a4 => have := hB.size; simp; omega
        · intro v' w2 hO2 hG2 hF2 hN2
          rw [← unhide HM, ← unhide HX2, ← unhide HA2] at hO2
          have hB2 : Below w.heap.size w w2 := (hB.alloc hB.size _).grown hG2 (by have := hB.size; simp; omega) (fun x e => ((unhide HO).lt x e).1)
          clear hG2 hF2 hN2
          go_wp2
          go_roundw
          case rel => exact ⟨m, by omega, rfl, hO2, hB2⟩
          case measure => simp [intOf]
  · have h0 : ¬ n < -2147483648 := fun h => hr (.inl h)
    have h1 : ¬ 2147483647 < n := fun h => hr (.inr h)
    have hf' : ¬ (1048576 : Int) < (l.length : Int) + 4 := by omega
    have hfl : l.length + 4 ≤ 1048576 := by omega
    have HFL := hide hfl
    clear hr hf
    go_enter Try.func44, Try.ntmps44
    go_wp2_with (at_builtin; refine wpList_appendB rfl _ _ rfl w.heap.size _ [] rfl (unhide HE) _ l rfl (unhide HS) (by simp; omega) (by simp) ?_)
    intro v1 w1 hO1 hG1 hF1 hN1
    have hB1 : Below w.heap.size w w1 := hA.grown hG1 (by simp) (fun k e => by cases e; exact Nat.le_refl _)
    clear hG1 hF1 hN1
    go_wp2
    clear h0 h1 hf' hfl hl
    go_loopw [8, 9] (fun v i wr => ∃ k : Nat, k ≤ 4 ∧ i = .int .i64 ((k : Int) - 1) ∧ OwnB wr w.heap.size v (l ++ (be n 4).take (4 - k)) ∧ Below w.heap.size w wr) (fun _ i _ => (intOf i + 1).toNat)
    case atStart => exact ⟨4, by omega, by simp, by simpa using hO1, hB1⟩
    case round =>
      obtain ⟨k, hk, rfl, hO, hB⟩ := hrel
      cases k with
      | zero =>
        have HO : Hid (OwnB wr w.heap.size u8 (l ++ be n 4)) := hide (by
          have := hO
          rw [List.take_of_length_le (by rw [be_length]; omega)] at this
          exact this)
        clear hO
        go_wp2
        go_ret2
        exact ⟨_, rfl, (unhide HO).mono (Nat.zero_le _), hB, .inr (fun k e => ((unhide HO).lt k e).1)⟩
      | succ m =>
        rw [show (((m + 1 : Nat) : Int) - 1) = (m : Int) from by omega]
        have HBY : Hid (n / 2 ^ (8 * m) % 256 = ((byteOf n m).toNat : Int)) := hide (by rw [byteOf_eq, pow8])
        have HA2 : Hid (l ++ (be n 4).take (4 - m) = l ++ (be n 4).take (4 - (m + 1)) ++ [byteOf n m]) := hide (by
          rw [List.append_assoc]
          rw [show 4 - m = (4 - (m + 1)) + 1 from by omega, be_take n 4 (4 - (m + 1)) (by omega), show 4 - 1 - (4 - (m + 1)) = m from by omega])
        obtain ⟨M, x, HM, HX2⟩ : ∃ M x, Hid (l ++ (be n 4).take (4 - (m + 1)) = M) ∧ Hid (byteOf n m = x) := ⟨_, _, hide rfl, hide rfl⟩
        rw [unhide HM] at hO
        have HBX : Hid (n / 2 ^ (8 * m) % 256 = (x.toNat : Int)) := hide (by rw [unhide HBY, unhide HX2])
        have HO := hide hO
        have hML : M.length ≤ l.length + 4 := by rw [← unhide HM, List.length_append, List.length_take, be_length]; omega
        have hm8 : m < 4 := by omega
        clear hO
        go_wp2_with (at_builtin; refine wpList_appendB rfl _ _ rfl w.heap.size _ M rfl ((unhide HO).below ((Below.refl _ wr).alloc (Nat.le_refl _) _)) _ [x] rfl (.inr ⟨_, _, rfl, BAt.one wr x _ (unhide HBX) _⟩) ?a3 ?a4 ?_)
        case a3 => have := unhide HFL; simp; omega
        case a4 => have := hB.size; simp; omega
        · intro v' w2 hO2 hG2 hF2 hN2
          rw [← unhide HM, ← unhide HX2, ← unhide HA2] at hO2
          have hB2 : Below w.heap.size w w2 := (hB.alloc hB.size _).grown hG2 (by have := hB.size; simp; omega) (fun x e => ((unhide HO).lt x e).1)
          clear hG2 hF2 hN2
          go_wp2
          go_roundw
          case rel => exact ⟨m, by omega, rfl, hO2, hB2⟩
          case measure => simp [intOf]

theorem refPut_u {w : World} {b : Value} {l : List UInt8} (hb : OwnB w 0 b l) (n : Int) (s : Nat) (hs : s = 1 ∨ s = 2 ∨ s = 4) (hl : l.length ≤ 1048576) :
    Calls Try.prog 44 #[b, .int .i64 n, .int .i64 (s : Int)] w (RPost w b (wE l n s) (wL l n s)) := by
  by_cases he : wE l n s = 0
  · have e2 : wL l n s = l ++ be n s := by unfold wL; rw [if_pos he]
    rw [e2, he]
    exact refPut_ok hb n s hs hl he
  · have e2 : wL l n s = l := by unfold wL; rw [if_neg he]
    rw [e2]
    exact refPut_err hb n s hs hl he

theorem laid_two (l : List UInt8) (m : Nat) (n : Int) (h : m + 2 ≤ l.length) : (l.set m (byteOf n 1)).set (m + 1) (byteOf n 0) = laid l m 2 n 0 := by
  have h1 := laid_step l m 2 n 0 (by omega) h
  have h2 := laid_step l m 2 n 1 (by omega) h
  have e2 : laid l m 2 n 2 = l := by
    unfold laid
    rw [List.drop_eq_nil_of_le (by rw [be_length]; omega), List.nil_append, List.take_append_drop]
  rw [← h1, ← h2, e2]
  show (l.set m (byteOf n 1)).set (m + 1) (byteOf n 0) = (l.set (m + 1) (byteOf n 0)).set (m + 0) (byteOf n 1)
  rw [List.set_comm _ _ (by omega)]
  rfl

set_option maxHeartbeats 1000000 in
theorem refPatch_u {w : World} {b : Value} {l : List UInt8} (hb : OwnB w 0 b l) (at_ n : Int) (hl : l.length ≤ 1048576) :
    Calls Try.prog 48 #[b, .int .i64 at_, .int .i64 n] w (RPost w b (pE l at_ n) (pL l at_ n)) := by
  obtain ⟨ao, cap, hbv, _⟩ := hb.at
  have HB := hide hb
  subst hbv
  clear hb
  by_cases h1 : n < 0 ∨ 65535 < n
  · have e1 : pE l at_ n = 5 := by unfold pE; rw [if_pos h1]
    have e2 : pL l at_ n = l := by unfold pL; rw [e1]; rfl
    rw [e1, e2]
    clear e1 e2
    by_cases h0 : n < 0
    · clear h1
      go_enter Try.func48, Try.ntmps48
      go_wp2
      go_ret2
      exact RPost.same 5 (unhide HB)
    · have h2 : 65535 < n := by omega
      clear h1
      go_enter Try.func48, Try.ntmps48
      go_wp2
      go_ret2
      exact RPost.same 5 (unhide HB)
  have n0 : ¬ n < 0 := by omega
  have n1 : ¬ 65535 < n := by omega
  by_cases h2 : at_ < 0 ∨ (l.length : Int) - 2 < at_
  · have e1 : pE l at_ n = 1 := by unfold pE; rw [if_neg h1, if_pos h2]
    have e2 : pL l at_ n = l := by unfold pL; rw [e1]; rfl
    rw [e1, e2]
    clear e1 e2 h1
    by_cases h0 : at_ < 0
    · clear h2
      go_enter Try.func48, Try.ntmps48
      go_wp2
      go_ret2
      exact RPost.same 1 (unhide HB)
    · have h3 : (l.length : Int) - 2 < at_ := by omega
      clear h2
      go_enter Try.func48, Try.ntmps48
      go_wp2
      go_ret2
      exact RPost.same 1 (unhide HB)
  · have e1 : pE l at_ n = 0 := by unfold pE; rw [if_neg h1, if_neg h2]
    have e2 : pL l at_ n = laid l at_.toNat 2 n 0 := by unfold pL; rw [e1]; rfl
    rw [e1, e2]
    obtain ⟨m, rfl⟩ := Int.eq_ofNat_of_zero_le (show 0 ≤ at_ by omega)
    rw [Int.toNat_natCast]
    have hm : m + 2 ≤ l.length := by omega
    have a0 : ¬ (m : Int) < 0 := by omega
    have a1 : ¬ (l.length : Int) - 2 < (m : Int) := by omega
    have a2 : (m : Int) < (l.length : Int) := by omega
    have a3 : (m : Int) + 1 < (l.length : Int) := by omega
    have hA : Below w.heap.size w (w.alloc (.cells #[] 5)) := (Below.refl _ w).alloc (Nat.le_refl _) _
    have HS : Hid (SrcB (w.alloc (.cells #[] 5)) (.slice ao l.length cap) l) := hide ((unhide HB).below hA).src
    have HE : Hid (OwnB (w.alloc (.cells #[] 5)) w.heap.size (.slice (some ⟨w.heap.size, 0, none⟩) 0 0) []) := hide (World.ownsRow_made w #[] 0 (Nat.le_refl _) (by decide) rfl)
    clear e1 e2 h1 h2
    go_enter Try.func48, Try.ntmps48
    go_wp2_with (at_builtin; refine wpList_appendB rfl _ _ rfl w.heap.size _ [] rfl (unhide HE) _ l rfl (unhide HS) (by simp; omega) (by simp) ?_)
    intro v1 w1 hO1 hG1 hF1 hN1
    have hB1 : Below w.heap.size w w1 := hA.grown hG1 (by simp) (fun k e => by cases e; exact Nat.le_refl _)
    rcases hO1.shape with ⟨_, hx⟩ | ⟨g, cp, rfl, hg1, hg2, hg3, _, hbat⟩
    · rw [hx] at hm; simp at hm
    have hO1' : w1.ownsRow w.heap.size 5 1 (.slice (some ⟨g, 0, none⟩) l.length cp) l.length (bvals l) := hO1
    obtain ⟨u1, c1⟩ : ∃ u, w1.cell? ⟨g, m, none⟩ = some u := ⟨_, (hO1'.cellAt m (by omega)).trans (bvals_get (by omega))⟩
    obtain ⟨u2, c2⟩ : ∃ u, w1.cell? ⟨g, m + 1, none⟩ = some u := ⟨_, (hO1'.cellAt (m + 1) (by omega)).trans (bvals_get (by omega))⟩
    have f1 := hO1'.frozenAt m
    have f2 := hO1'.frozenAt (m + 1)
    clear hG1 hF1 hN1
    have hs1 := hO1'.stored m (.int .u8 (n / 256))
    have hs2 := hs1.1.stored (m + 1) (.int .u8 (n % 256))
    have q1 : n / 256 = ((byteOf n 1).toNat : Int) := by rw [byteOf_eq]; simp; omega
    have q0 : n % 256 = ((byteOf n 0).toNat : Int) := by rw [byteOf_eq]; simp
    have HO : Hid (OwnB ((w1.setCell ⟨g, m, none⟩ (.int .u8 (n / 256))).setCell ⟨g, m + 1, none⟩ (.int .u8 (n % 256))) w.heap.size (.slice (some ⟨g, 0, none⟩) l.length cp) (laid l m 2 n 0)) := hide (by
      have h3 := hs2.1
      have e3 : ((bvals l).set m (.int .u8 (n / 256))).set (m + 1) (.int .u8 (n % 256)) = bvals (laid l m 2 n 0) := by
        rw [q1, q0, bvals_set, bvals_set, laid_two l m n hm]
      rw [e3] at h3
      unfold OwnB
      rw [laid_length l m 2 n 0 (by omega) hm]
      exact h3)
    have HB2 : Hid (Below w.heap.size w ((w1.setCell ⟨g, m, none⟩ (.int .u8 (n / 256))).setCell ⟨g, m + 1, none⟩ (.int .u8 (n % 256)))) := hide ((hB1.setCell (p := ⟨g, m, none⟩) hg1 _).setCell (p := ⟨g, m + 1, none⟩) hg1 _)
    clear hs1 hs2 q1 q0 hO1' hO1
    go_wp2
    go_ret2
    exact ⟨_, rfl, (unhide HO).mono (Nat.zero_le _), unhide HB2, .inr (fun k e => ((unhide HO).lt k e).1)⟩
end Go.Proofs.Ytggaecmjadkopaa
