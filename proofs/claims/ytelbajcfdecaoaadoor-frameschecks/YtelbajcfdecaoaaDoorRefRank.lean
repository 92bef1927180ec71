/-
  The contract of provisoref02's Rank: what the plain function says; nothing old is turned. Conditions: types are bytes; the table may be.
-/
import Derived.Test.YtelbajcfdecaoaaDoorRefMore
namespace Go.Proofs.YtelbajcfdecaoaaDoor
open Go.RowKit
set_option maxRecDepth 20000

set_option maxHeartbeats 2000000 in
theorem refRank_any (ao : Option Addr) (cap : Nat) (T : List Cl) (t : Nat) (w : World) (hT : TabAt w ao T) (hz : T.length * 48 ≤ 140737488351232) (hm : madeD T = true) (ht : t < 256) :
    Calls Tryd.prog 47 #[.slice ao T.length cap, .int .u8 (t : Int)] w fun e w' => e = .returned (.int .i64 ((rankD T t : Nat) : Int)) ∧ Below w.heap.size w w' := by
  obtain ⟨R, HR⟩ : ∃ R, Hid (rankD T t = R) := ⟨_, hide rfl⟩
  have HT := hide hT
  have HZ := hide hz
  have HM := hide hm
  have h32 := made_32 hm
  rw [unhide HR]
  clear hT hz hm
  by_cases h16 : 16 ≤ t
  · have i1 : ((t : Nat) : Int) ≥ 16 := by omega
    go_enter Tryd.func47, Tryd.ntmps47
    go_wp2_with fail
    refine (refValid_any ao cap T.length t _ ht).mono ?_
    rintro e w1 ⟨rfl, rfl⟩
    by_cases hk : t - 16 < T.length
    · have HV := hide (validD_hi h16 hk)
      rw [unhide HV]
      have HR2 : Hid (1 + (lineB T T.length ((t : Int) - 16)).length = R) := hide (by rw [← unhide HR, rank_class h16 hk, show ((t - 16 : Nat) : Int) = (t : Int) - 16 from by omega])
      have HLn := hide (lineB_length T _ T.length ((t : Int) - 16) (Nat.le_refl _))
      have hLI := Line_any ao cap T ((t : Int) - 16) w1 (unhide HT) (unhide HZ)
      rw [line_same (unhide HM) _ ((t : Int) - 16) (by omega) (Nat.le_refl _)] at hLI
      have HLI := hide hLI
      generalize lineB T T.length ((t : Int) - 16) = L at HR2 HLn HLI
      clear hLI HR
      go_wp2_with fail
      with_reducible refine (unhide HLI).mono ?_
      rintro e w2 ⟨lv, rfl, hL, hB⟩
      obtain ⟨la, lc, rfl, _⟩ := hL.slice
      have hLl : L.length ≤ 32 := by have := unhide HLn; omega
      have hr : R = 1 + L.length := (unhide HR2).symm
      have HRr := hide hr
      clear hL hr
      go_wp2
      go_ret
      exact ⟨ret_int (by have := unhide HRr; omega), hB⟩
    · have HV : Hid (validD T.length t = false) := hide (validD_no (by omega) (by omega))
      have HR2 : Hid (0 = R) := hide (by rw [← unhide HR, rank_bad (by omega)])
      have b1 : (((t : Nat) : Int) == 1) = false := beq_f (by omega)
      have b2 : (((t : Nat) : Int) == 2) = false := beq_f (by omega)
      have b3 : (((t : Nat) : Int) == 3) = false := beq_f (by omega)
      have b4 : (((t : Nat) : Int) == 4) = false := beq_f (by omega)
      have b5 : (((t : Nat) : Int) == 5) = false := beq_f (by omega)
      rw [unhide HV]
      go_wp2
      go_ret
      exact ⟨ret_int (by have := unhide HR2; omega), Below.refl _ _⟩
  · have i1 : ¬ ((t : Nat) : Int) ≥ 16 := by omega
    by_cases h5 : t ≤ 5
    · rcases (show t = 0 ∨ t = 1 ∨ t = 2 ∨ t = 4 ∨ t = 5 ∨ t = 3 by omega) with rfl | rfl | rfl | rfl | rfl | rfl
      · have HR2 : Hid (0 = R) := hide (by rw [← unhide HR, rank_0])
        clear HR i1 h16 h5 ht
        go_enter Tryd.func47, Tryd.ntmps47
        go_wp2
        go_ret
        exact ⟨ret_int (by have := unhide HR2; omega), Below.refl _ _⟩
      · have HR2 : Hid (1 = R) := hide (by rw [← unhide HR, rank_small (by omega)])
        clear HR i1 h16 h5 ht
        go_enter Tryd.func47, Tryd.ntmps47
        go_wp2
        go_ret
        exact ⟨ret_int (by have := unhide HR2; omega), Below.refl _ _⟩
      · have HR2 : Hid (1 = R) := hide (by rw [← unhide HR, rank_small (by omega)])
        clear HR i1 h16 h5 ht
        go_enter Tryd.func47, Tryd.ntmps47
        go_wp2
        go_ret
        exact ⟨ret_int (by have := unhide HR2; omega), Below.refl _ _⟩
      · have HR2 : Hid (2 = R) := hide (by rw [← unhide HR, rank_4])
        clear HR i1 h16 h5 ht
        go_enter Tryd.func47, Tryd.ntmps47
        go_wp2
        go_ret
        exact ⟨ret_int (by have := unhide HR2; omega), Below.refl _ _⟩
      · have HR2 : Hid (1 = R) := hide (by rw [← unhide HR, rank_small (by omega)])
        clear HR i1 h16 h5 ht
        go_enter Tryd.func47, Tryd.ntmps47
        go_wp2
        go_ret
        exact ⟨ret_int (by have := unhide HR2; omega), Below.refl _ _⟩
      · have HR2 : Hid (1 + highN T T.length = R) := hide (by rw [← unhide HR, rank_3, show min T.length 32 = T.length from by omega])
        have HHf := hide (fun k => highN_fit (T := T) (unhide HZ) k)
        clear HR i1 h16 h5 ht
        rw [show ((3 : Nat) : Int) = 3 from rfl]
        go_enter Tryd.func47, Tryd.ntmps47
        go_wp2
        go_loopw [5, 6] (fun n i wr => ∃ k : Nat, k ≤ T.length ∧ i = .int .i64 (k : Int) ∧ n = .int .i64 ((highN T k : Nat) : Int) ∧ Hid (Below w.heap.size w wr)) (fun _ i _ => T.length - (intOf i).toNat)
        case atStart => exact ⟨0, by omega, rfl, rfl, hide (Below.refl _ _)⟩
        case round =>
          obtain ⟨k, hk, rfl, rfl, HB⟩ := hrel
          by_cases hlt : k < T.length
          · have j1 : ((k : Nat) : Int) < ((T.length : Nat) : Int) := by omega
            have hLI := Line_any ao cap T (k : Int) wr ((unhide HT).below (unhide HB)) (unhide HZ)
            rw [line_same (unhide HM) _ (k : Int) (by omega) (Nat.le_refl _)] at hLI
            have HLI := hide hLI
            have HLn := hide (lineB_length T _ T.length (k : Int) (Nat.le_refl _))
            have HHk : Hid (highN T (k + 1) = max (highN T k) (1 + (lineB T T.length (k : Int)).length)) := hide rfl
            generalize lineB T T.length (k : Int) = L at HHk HLn HLI
            obtain ⟨m, HMm⟩ : ∃ m, Hid (highN T k = m) := ⟨_, hide rfl⟩
            rw [unhide HMm] at HHk ⊢
            clear hLI
            go_wp2_with fail
            with_reducible refine (unhide HLI).mono ?_
            rintro e w2 ⟨lv, rfl, hL, hB2⟩
            obtain ⟨la, lc, rfl, _⟩ := hL.slice
            have HB2 := hide ((unhide HB).trans (hB2.mono (unhide HB).size))
            have hLl : L.length ≤ 32 := by have := unhide HLn; omega
            clear hL hB2 HB
            by_cases hmr : m < 1 + L.length
            · have hmr' : 1 + ((L.length : Nat) : Int) > ((m : Nat) : Int) := by omega
              have HE : Hid (highN T (k + 1) = 1 + L.length) := hide (by rw [unhide HHk]; omega)
              clear HHk
              go_wp2
              go_roundw
              case rel => exact ⟨k + 1, by omega, by go_num, by rw [unhide HE]; exact val_int (by omega), HB2⟩
              case measure => simp [intOf]; omega
            · have hmr' : ¬ 1 + ((L.length : Nat) : Int) > ((m : Nat) : Int) := by omega
              have HE : Hid (highN T (k + 1) = m) := hide (by rw [unhide HHk]; omega)
              clear HHk
              go_wp2
              go_roundw
              case rel => exact ⟨k + 1, by omega, by go_num, by rw [unhide HE], HB2⟩
              case measure => simp [intOf]; omega
          · have j1 : ¬ ((k : Nat) : Int) < ((T.length : Nat) : Int) := by omega
            have ek : k = T.length := by omega
            have HE : Hid (R = 1 + highN T k) := hide (by rw [ek]; exact (unhide HR2).symm)
            have hf := unhide HHf k
            obtain ⟨m, HMm⟩ : ∃ m, Hid (highN T k = m) := ⟨_, hide rfl⟩
            rw [unhide HMm] at HE hf ⊢
            clear ek
            go_wp2
            go_ret
            exact ⟨ret_int (by have := unhide HE; omega), unhide HB⟩
    · have HR2 : Hid (0 = R) := hide (by rw [← unhide HR, rank_bad (by omega)])
      have b1 : (((t : Nat) : Int) == 1) = false := beq_f (by omega)
      have b2 : (((t : Nat) : Int) == 2) = false := beq_f (by omega)
      have b3 : (((t : Nat) : Int) == 3) = false := beq_f (by omega)
      have b4 : (((t : Nat) : Int) == 4) = false := beq_f (by omega)
      have b5 : (((t : Nat) : Int) == 5) = false := beq_f (by omega)
      go_enter Tryd.func47, Tryd.ntmps47
      go_wp2
      go_ret
      exact ⟨ret_int (by have := unhide HR2; omega), Below.refl _ _⟩
end Go.Proofs.YtelbajcfdecaoaaDoor
