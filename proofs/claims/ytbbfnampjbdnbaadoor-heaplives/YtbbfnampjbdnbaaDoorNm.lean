/-
  The contract of provisoref02.IsName: it returns what the plain function 'nameB' says of the bytes, in the same world. No conditions but that a string fits.
-/
import Derived.Test.YtbbfnampjbdnbaaDoorNmD
import Derived.WalkKit
import Derived.ProofKit
import Derived.WalkSpells
import Derived.Outline
import Derived.Below
namespace Go.Proofs.YtbbfnampjbdnbaaDoor
open Go.RowKit
set_option maxRecDepth 20000

set_option maxHeartbeats 1000000 in
theorem refName_any (s : ByteArray) (w : World) (hs : s.size ≤ maxLen) :
    Calls Tryd.prog 61 #[.string s] w fun e w' => e = .returned (.bool (nameB s)) ∧ w' = w := by
  unfold maxLen at hs
  by_cases h0 : s.size = 0
  · rw [nameB_no0 (Or.inl h0)]
    have h0' : (s.size : Int) < 1 := by omega
    go_enter Tryd.func61, Tryd.ntmps61
    go_wp2
    go_ret
    exact ⟨rfl, rfl⟩
  by_cases h24 : 24 < s.size
  · rw [nameB_no0 (Or.inr h24)]
    have h0' : ¬ (s.size : Int) < 1 := by omega
    have h1' : (24 : Int) < (s.size : Int) := by omega
    go_enter Tryd.func61, Tryd.ntmps61
    go_wp2
    go_ret
    exact ⟨rfl, rfl⟩
  have h0' : ¬ (s.size : Int) < 1 := by omega
  have h1' : ¬ (24 : Int) < (s.size : Int) := by omega
  go_enter Tryd.func61, Tryd.ntmps61
  go_wp2
  go_loop [3] (fun i => ∃ k : Nat, k ≤ s.size ∧ i = .int .i64 k ∧ Hid (∀ j, j < k → firstB j (byteAt s j) = true)) (fun i => s.size - (intOf i).toNat)
  case atStart => exact ⟨0, by omega, rfl, hide (fun j h1 => by omega)⟩
  case round =>
    obtain ⟨k, hk, rfl, HK⟩ := hrel
    by_cases hlt : k < s.size
    · have ek := byteAt_eq s k hlt
      have HY : firstB k (byteAt s k) = true → Hid (∀ j, j < k + 1 → firstB j (byteAt s j) = true) := fun h => hide (fun j h1 => by
        by_cases e : j = k
        · rw [e]; exact h
        · exact unhide HK j (by omega))
      have HN := fun h => hide (nameB_none hlt h)
      rw [ek] at HY HN
      clear ek
      have HY' := hide HY
      have HN' := hide HN
      clear HY HN
      by_cases hk0 : k = 0
      · subst hk0
        rcases eight (s[0].toNat : Int) with ⟨t1, t2, t3, t4, t5, t6, t7⟩ | ⟨t1, t2, t3, t4, t5, t6, t7⟩ | ⟨t1, t2, t3, t4, t5, t6, t7⟩ | ⟨t1, t2, t3, t4, t5, t6, t7⟩ | ⟨t1, t2, t3, t4, t5, t6, t7⟩ | ⟨t1, t2, t3, t4, t5, t6, t7⟩ | ⟨t1, t2, t3, t4, t5, t6, t7⟩ | ⟨t1, t2, t3, t4, t5, t6, t7⟩
        · have hy := unhide HY' (first_let (by omega))
          clear HY' HN' t5
          go_wp2
          go_round
          case rel => exact ⟨1, by omega, by go_num, hy⟩
          case measure => simp [intOf]; omega
        · have hy := unhide HY' (first_let (by omega))
          clear HY' HN' t5
          go_wp2
          go_round
          case rel => exact ⟨1, by omega, by go_num, hy⟩
          case measure => simp [intOf]; omega
        all_goals
          have hn := unhide HN' (first_no0 (by omega))
          clear HY' HN' t5
          go_wp2
          go_ret
          exact ⟨ret_bool (unhide hn).symm, rfl⟩
      · have hk0' : ((k : Int) == 0) = false := beq_f (by omega)
        rcases eight (s[k].toNat : Int) with ⟨t1, t2, t3, t4, t5, t6, t7⟩ | ⟨t1, t2, t3, t4, t5, t6, t7⟩ | ⟨t1, t2, t3, t4, t5, t6, t7⟩ | ⟨t1, t2, t3, t4, t5, t6, t7⟩ | ⟨t1, t2, t3, t4, t5, t6, t7⟩ | ⟨t1, t2, t3, t4, t5, t6, t7⟩ | ⟨t1, t2, t3, t4, t5, t6, t7⟩ | ⟨t1, t2, t3, t4, t5, t6, t7⟩
        · have hy := unhide HY' (first_let (by omega))
          clear HY' HN' t5
          go_wp2
          go_round
          case rel => exact ⟨k + 1, by omega, by go_num, hy⟩
          case measure => simp [intOf]; omega
        · have hy := unhide HY' (first_let (by omega))
          clear HY' HN' t5
          go_wp2
          go_round
          case rel => exact ⟨k + 1, by omega, by go_num, hy⟩
          case measure => simp [intOf]; omega
        · have hy := unhide HY' (first_rest hk0 (by omega))
          have t8 := bne_t t5
          clear HY' HN' t5
          go_wp2
          go_round
          case rel => exact ⟨k + 1, by omega, by go_num, hy⟩
          case measure => simp [intOf]; omega
        · have hy := unhide HY' (first_rest hk0 (by omega))
          have t8 := bne_f t5
          clear HY' HN' t5
          go_wp2
          go_round
          case rel => exact ⟨k + 1, by omega, by go_num, hy⟩
          case measure => simp [intOf]; omega
        all_goals
          have hn := unhide HN' (first_no (by omega))
          have t8 := bne_t t5
          clear HY' HN' t5
          go_wp2
          go_ret
          exact ⟨ret_bool (unhide hn).symm, rfl⟩
    · have HN := hide (nameB_all (by omega) (by omega) (fun j h1 => unhide HK j (by omega)))
      go_wp2
      go_ret
      exact ⟨ret_bool (unhide HN).symm, rfl⟩
end Go.Proofs.YtbbfnampjbdnbaaDoor
