/-
  Contracts of provisoref01.Number and provisoref01.Take: value, place and error as the same plain functions of the bytes and the place. Conditions: lengths fit.
-/
import Derived.Test.YtmhilffaeighnaaTake
import Derived.Test.YtmhilffaeighnaaApp
namespace Go.Proofs.Ytmhilffaeighnaa
open Go.RowKit
set_option maxRecDepth 20000

theorem ret_three {a b c d : Int} {e f : Int} (h1 : a = b) (h2 : c = d) (h3 : e = f) : Ending.returned (.tuple #[.int .i64 a, .int .i64 c, .int .i64 e]) = .returned (.tuple #[.int .i64 b, .int .i64 d, .int .i64 f]) := by rw [h1, h2, h3]

set_option maxHeartbeats 1000000 in
set_option maxRecDepth 100000 in
theorem refNumber_any (ao : Option Addr) (cap : Nat) (l : List UInt8) (k n : Nat) (w : World) (h : BAt w ao l) (hl : l.length ≤ 140737488355328) (hk : k ≤ l.length) (hn : n = 1 ∨ n = 2 ∨ n = 4) :
    Calls Try.prog 48 #[.slice ao l.length cap, .int .i64 (k : Int), .int .i64 (n : Int)] w fun e w' => e = .returned (.tuple #[.int .i64 (numV l k n), .int .i64 (numK l k n : Int), .int .i64 (numE l k n)]) ∧ w' = w := by
  have hn4 : n ≤ 4 := by omega
  have hn1 : 1 ≤ n := by omega
  by_cases hs : l.length - k < n
  · rw [numV, numE, numK, if_pos hs, if_pos hs, if_pos hs]
    have hs' : (l.length : Int) - (k : Int) < (n : Int) := by omega
    clear hn
    go_enter Try.func48, Try.ntmps48
    go_wp2
    go_ret3
    exact ⟨rfl, rfl⟩
  · rw [numV, numE, numK, if_neg hs, if_neg hs, if_neg hs]
    have hs' : ¬ (l.length : Int) - (k : Int) < (n : Int) := by omega
    have hlen : ((l.drop k).take n).length = n := by simp; omega
    have hget : ∀ m, m < n → at8 ((l.drop k).take n) m = at8 l (k + m) := by
      intro m hm
      unfold at8
      rw [List.getD_eq_getElem?_getD, List.getD_eq_getElem?_getD, List.getElem?_take_of_lt hm, List.getElem?_drop]
    generalize hL : (l.drop k).take n = L at hlen hget
    have HN := hide hn
    clear hn hL
    go_enter Try.func48, Try.ntmps48
    go_wp2
    go_loop [9, 10] (fun v i => ∃ m C : Nat, m ≤ n ∧ i = .int .i64 m ∧ v = .int .i64 (C : Int) ∧ C < 256 ^ m ∧ Hid (C = beN (L.take m))) (fun _ i => n - (intOf i).toNat)
    case atStart => exact ⟨0, 0, by omega, rfl, rfl, by decide, hide rfl⟩
    case round =>
      obtain ⟨m, C, hm, rfl, rfl, hC, HC⟩ := hrel
      by_cases hlt : m < n
      · obtain ⟨b, off, rfl, hc⟩ := h.head (by omega)
        have c1 := hc (k + m) (by omega)
        have lo := at8_lo l (k + m)
        have hi := at8_hi l (k + m)
        have HG := hide (hget m hlt)
        have i1 : (k : Int) + (m : Int) < ((l.length : Nat) : Int) := by omega
        have hp : 256 ^ m ≤ 256 ^ 3 := Nat.pow_le_pow_right (by omega) (by omega)
        have hC' : C < 16777216 := by omega
        have HN := hide (beN_take L m (by omega))
        have HC' : Hid (C * 256 + (L.getD m 0).toNat < 256 ^ (m + 1)) := hide (by
          have h4 := (L.getD m 0).toNat_lt
          rw [Nat.pow_succ]
          omega)
        clear hc h hp hC hget
        go_wp2
        go_round
        case rel => exact ⟨m + 1, C * 256 + (L.getD m 0).toNat, by omega, by go_num, val_int (by rw [← unhide HG]; unfold at8; omega), unhide HC', hide (by rw [unhide HN, ← unhide HC])⟩
        case measure => simp [intOf]; omega
      · have hmn : m = n := by omega
        have HE : Hid (C = beN L) := hide (by rw [unhide HC, List.take_of_length_le (by omega)])
        rw [hmn] at hC
        clear hmn hget
        rcases unhide HN with rfl | rfl | rfl
        · go_wp2
          go_ret3
          exact ⟨ret_three (by rw [unhide HE]) (by omega) rfl, rfl⟩
        · go_wp2
          go_ret3
          exact ⟨ret_three (by rw [unhide HE]) (by omega) rfl, rfl⟩
        · by_cases hb : 2147483648 ≤ C
          · have hb' : (2147483648 : Int) ≤ (C : Int) := by omega
            have HS : Hid (wrap64 ((C : Int) - 4294967296) = s32 C) := hide (by unfold s32 wrap64; rw [if_neg (by omega)]; omega)
            clear hC hb
            go_wp2
            go_ret3
            exact ⟨ret_three (by rw [← unhide HE, ← unhide HS]) (by omega) rfl, rfl⟩
          · have hb' : ¬ (2147483648 : Int) ≤ (C : Int) := by omega
            have HS : Hid ((C : Int) = s32 C) := hide (by unfold s32; rw [if_pos (by omega)])
            clear hC hb
            go_wp2
            go_ret3
            exact ⟨ret_three (by rw [← unhide HE, ← unhide HS]) (by omega) rfl, rfl⟩

theorem ret_take {v : Value} {a b c : Int} (h : a = b) : Ending.returned (.tuple #[v, .int .i64 a, .int .i64 c]) = .returned (.tuple #[v, .int .i64 b, .int .i64 c]) := by rw [h]

set_option maxHeartbeats 1000000 in
theorem refTake_any (ao : Option Addr) (cap : Nat) (l : List UInt8) (k : Nat) (n : Int) (w : World) (h : BAt w ao l) (hl : l.length ≤ 140737488355328) (hk : k ≤ l.length) :
    Calls Try.prog 49 #[.slice ao l.length cap, .int .i64 (k : Int), .int .i64 n] w fun e w' => ∃ v, e = .returned (.tuple #[v, .int .i64 (takeK l k n : Int), .int .i64 (takeE l k n)]) ∧ OwnB w' w.heap.size v (takeL l k n) ∧ Below w.heap.size w w' := by
  by_cases h0 : n < 0
  · rw [takeE, takeL, takeK, if_pos h0, if_pos h0, if_pos h0]
    go_enter Try.func49, Try.ntmps49
    go_wp2
    go_ret3
    exact ⟨_, rfl, World.ownsRow_nil _ _ _ _, Below.refl _ _⟩
  by_cases h1 : ((l.length - k : Nat) : Int) < n
  · rw [takeE, takeL, takeK, if_neg h0, if_neg h0, if_neg h0, if_pos h1, if_pos h1, if_pos h1]
    have h1' : (l.length : Int) - (k : Int) < n := by omega
    go_enter Try.func49, Try.ntmps49
    go_wp2
    go_ret3
    exact ⟨_, rfl, World.ownsRow_nil _ _ _ _, Below.refl _ _⟩
  · rw [takeE, takeL, takeK, if_neg h0, if_neg h0, if_neg h0, if_neg h1, if_neg h1, if_neg h1]
    obtain ⟨m, rfl⟩ := Int.eq_ofNat_of_zero_le (show 0 ≤ n by omega)
    rw [Int.toNat_natCast]
    have hm : m ≤ l.length - k := by omega
    have h1' : ¬ (l.length : Int) - (k : Int) < (m : Int) := by omega
    have hlen : ((l.drop k).take m).length = m := by simp; omega
    go_enter Try.func49, Try.ntmps49
    go_wp2
    go_loopw [9, 10] (fun v i wr => ∃ j : Nat, j ≤ m ∧ i = .int .i64 j ∧ OwnB wr w.heap.size v ((l.drop k).take j) ∧ Below w.heap.size w wr ∧ v.ownBlock ≠ none) (fun _ i _ => m - (intOf i).toNat)
    case atStart => exact ⟨0, by omega, rfl, World.ownsRow_made w #[] 0 (Nat.le_refl _) (by decide) rfl, (Below.refl _ w).alloc (Nat.le_refl _) _, by simp [Value.ownBlock]⟩
    case round =>
      obtain ⟨j, hj, rfl, hO, hB, hnn⟩ := hrel
      by_cases hlt : j < m
      · obtain ⟨b, off, rfl, hc⟩ := (h.below' hB).head (by omega)
        have c1 := hc (k + j) (by omega)
        have i1 : (k : Int) + (j : Int) < ((l.length : Nat) : Int) := by omega
        obtain ⟨x, HX⟩ : ∃ x, Hid (l.getD (k + j) 0 = x) := ⟨_, hide rfl⟩
        have HA : Hid ((l.drop k).take (j + 1) = (l.drop k).take j ++ [x]) := hide (by
          rw [← unhide HX]
          rw [List.take_succ_eq_append_getElem (by simp; omega), List.getElem_drop, List.getD_eq_getElem?_getD, List.getElem?_eq_getElem (by omega)]; rfl)
        have hlj : ((l.drop k).take j).length = j := by simp; omega
        clear hc
        go_wp2_with (at_builtin; refine wpList_appendB rfl _ _ rfl w.heap.size _ ((l.drop k).take j) rfl (hO.below ((Below.refl _ wr).alloc (Nat.le_refl _) _)) _ [x] rfl (.inr ⟨_, _, rfl, BAt.one wr x (at8 l (k + j)) (by rw [← unhide HX]; rfl) _⟩) (by rw [hlj]; simp; omega) (by have := hB.size; simp; omega) ?_)
        intro v' w1 hO' hG hF hN
        rw [← unhide HA] at hO'
        have hB' : Below w.heap.size w w1 := (hB.alloc hB.size _).grown hG (by have := hB.size; simp; omega) (fun x e => (hO.lt x e).1)
        have hnn' : v'.ownBlock ≠ none := by
          intro e
          rcases hO'.shape with ⟨rfl, hx⟩ | ⟨_, _, rfl, _⟩
          · have := congrArg List.length hx; simp at this; omega
          · simp [Value.ownBlock] at e
        clear hO hG hF hN
        go_wp2
        go_roundw
        case rel => exact ⟨j + 1, by omega, by go_num, hO', hB', hnn'⟩
        case measure => simp [intOf]; omega
      · have hjm : j = m := by omega
        subst hjm
        go_wp2
        go_ret3
        exact ⟨_, ret_take (by omega), hO, hB⟩
end Go.Proofs.Ytmhilffaeighnaa
