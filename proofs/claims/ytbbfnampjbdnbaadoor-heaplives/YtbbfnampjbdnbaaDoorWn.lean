/-
  Contracts of wire.isLetter, wire.isDigit, wire.IsName and provisoref01.IsName: each returns what the plain function 'nameB' (or 'letB', 'digB') says of the bytes, in the same world. No conditions but that a string fits.
-/
import Derived.Test.YtbbfnampjbdnbaaDoorNmD
import Derived.WalkKit
import Derived.ProofKit
import Derived.WalkSpells
import Derived.Outline
import Derived.Below
namespace Go.Proofs.YtbbfnampjbdnbaaDoor
open Go.RowKit
set_option maxRecDepth 20000

theorem isDigit_any (c : Int) (w : World) :
    Calls Tryd.prog 71 #[.int .u8 c] w fun e w' => e = .returned (.bool (digB c)) ∧ w' = w := by
  by_cases h1 : 48 ≤ c
  · by_cases h2 : c ≤ 57
    · have hd : digB c = true := by simp [digB]; omega
      rw [hd]
      go_enter Tryd.func71, Tryd.ntmps71
      go_wp2
      go_ret
      exact ⟨rfl, rfl⟩
    · have hd : digB c = false := by simp [digB]; omega
      rw [hd]
      go_enter Tryd.func71, Tryd.ntmps71
      go_wp2
      go_ret
      exact ⟨rfl, rfl⟩
  · have hd : digB c = false := by simp [digB]; omega
    rw [hd]
    go_enter Tryd.func71, Tryd.ntmps71
    go_wp2
    go_ret
    exact ⟨rfl, rfl⟩

theorem isLetter_any (c : Int) (w : World) :
    Calls Tryd.prog 70 #[.int .u8 c] w fun e w' => e = .returned (.bool (letB c)) ∧ w' = w := by
  by_cases h1 : 97 ≤ c
  · have h3 : 65 ≤ c := by omega
    have h4 : ¬ c ≤ 90 := by omega
    by_cases h2 : c ≤ 122
    · have hd : letB c = true := by simp [letB]; omega
      rw [hd]
      go_enter Tryd.func70, Tryd.ntmps70
      go_wp2
      go_ret
      exact ⟨rfl, rfl⟩
    · have hd : letB c = false := by simp [letB]; omega
      rw [hd]
      go_enter Tryd.func70, Tryd.ntmps70
      go_wp2
      go_ret
      exact ⟨rfl, rfl⟩
  · by_cases h3 : 65 ≤ c
    · by_cases h4 : c ≤ 90
      · have hd : letB c = true := by simp [letB]; omega
        rw [hd]
        go_enter Tryd.func70, Tryd.ntmps70
        go_wp2
        go_ret
        exact ⟨rfl, rfl⟩
      · have hd : letB c = false := by simp [letB]; omega
        rw [hd]
        go_enter Tryd.func70, Tryd.ntmps70
        go_wp2
        go_ret
        exact ⟨rfl, rfl⟩
    · have hd : letB c = false := by simp [letB]; omega
      rw [hd]
      go_enter Tryd.func70, Tryd.ntmps70
      go_wp2
      go_ret
      exact ⟨rfl, rfl⟩

/-- A text's byte, as a number; 0 behind its end. -/
theorem letter_t (c : Int) (w : World) (h : letB c = true) :
    Calls Tryd.prog 70 #[.int .u8 c] w fun e w' => e = .returned (.bool true) ∧ w' = w := by
  have := isLetter_any c w; rwa [h] at this
theorem letter_f (c : Int) (w : World) (h : letB c = false) :
    Calls Tryd.prog 70 #[.int .u8 c] w fun e w' => e = .returned (.bool false) ∧ w' = w := by
  have := isLetter_any c w; rwa [h] at this
theorem digit_t (c : Int) (w : World) (h : digB c = true) :
    Calls Tryd.prog 71 #[.int .u8 c] w fun e w' => e = .returned (.bool true) ∧ w' = w := by
  have := isDigit_any c w; rwa [h] at this
theorem digit_f (c : Int) (w : World) (h : digB c = false) :
    Calls Tryd.prog 71 #[.int .u8 c] w fun e w' => e = .returned (.bool false) ∧ w' = w := by
  have := isDigit_any c w; rwa [h] at this

set_option maxHeartbeats 400000 in
theorem IsName_any (s : ByteArray) (w : World) (hs : s.size ≤ maxLen) :
    Calls Tryd.prog 55 #[.string s] w fun e w' => e = .returned (.bool (nameB s)) ∧ w' = w := by
  unfold maxLen at hs
  by_cases h0 : s.size = 0
  · rw [nameB_no0 (Or.inl h0)]
    have h0' : ((s.size : Int) == 0) = true := beq_t (by omega)
    go_enter Tryd.func55, Tryd.ntmps55
    go_wp2
    go_ret
    exact ⟨rfl, rfl⟩
  by_cases h24 : 24 < s.size
  · rw [nameB_no0 (Or.inr h24)]
    have h0' : ((s.size : Int) == 0) = false := beq_f (by omega)
    have h1' : (24 : Int) < (s.size : Int) := by omega
    go_enter Tryd.func55, Tryd.ntmps55
    go_wp2
    go_ret
    exact ⟨rfl, rfl⟩
  have h0' : ((s.size : Int) == 0) = false := beq_f (by omega)
  have h1' : ¬ (24 : Int) < (s.size : Int) := by omega
  have h2' : (0 : Int) < (s.size : Int) := by omega
  have h2 : 0 < s.size := by omega
  have e0 := byteAt_eq s 0 h2
  cases hl : letB (byteAt s 0)
  · rw [nameB_no1 hl]
    rw [e0] at hl
    have H := hide hl
    clear hl e0
    go_enter Tryd.func55, Tryd.ntmps55
    go_wp2_with (go_at_call 70; refine (letter_f _ _ (unhide H)).mono ?_; rintro e w' ⟨rfl, rfl⟩)
    go_ret
    exact ⟨rfl, rfl⟩
  · have HL := hide hl
    rw [e0] at hl
    have H := hide hl
    clear hl e0
    go_enter Tryd.func55, Tryd.ntmps55
    go_wp2_with (go_at_call 70; refine (letter_t _ _ (unhide H)).mono ?_; rintro e w' ⟨rfl, rfl⟩)
    go_loop [3] (fun i => ∃ k : Nat, 1 ≤ k ∧ k ≤ s.size ∧ i = .int .i64 k ∧ Hid (∀ j, 1 ≤ j → j < k → restB (byteAt s j) = true)) (fun i => s.size - (intOf i).toNat)
    case atStart => exact ⟨1, by omega, by omega, rfl, hide (fun j h1 h2 => by omega)⟩
    case round =>
      obtain ⟨k, hk1, hk, rfl, HK⟩ := hrel
      by_cases hlt : k < s.size
      · have ek := byteAt_eq s k hlt
        cases hlk : letB (byteAt s k)
        · cases hdk : digB (byteAt s k)
          · by_cases h95 : byteAt s k = 95
            · have HR : Hid (∀ j, 1 ≤ j → j < k + 1 → restB (byteAt s j) = true) := hide (fun j h1 h2 => by
                by_cases e : j = k
                · rw [e]; unfold restB; simp [h95]
                · exact unhide HK j h1 (by omega))
              rw [ek] at hlk hdk h95
              have H1 := hide hlk; have H2 := hide hdk
              have h95' : (((s[k].toNat : Nat) : Int) != 95) = false := by simp [h95]
              clear hlk hdk h95 ek
              go_wp2_with (first | (go_at_call 70; refine (letter_f _ _ (unhide H1)).mono ?_; rintro e w' ⟨rfl, rfl⟩) | (go_at_call 71; refine (digit_f _ _ (unhide H2)).mono ?_; rintro e w' ⟨rfl, rfl⟩))
              go_round
              case rel => exact ⟨k + 1, by omega, by omega, by go_num, HR⟩
              case measure => simp [intOf]; omega
            · have HR : restB (byteAt s k) = false := by unfold restB; simp [h95, hlk, hdk]
              have HN := hide (nameB_no2 hlt hk1 HR)
              rw [ek] at hlk hdk h95
              have H1 := hide hlk; have H2 := hide hdk
              have h95' : (((s[k].toNat : Nat) : Int) != 95) = true := by simp; omega
              clear hlk hdk h95 ek HR
              go_wp2_with (first | (go_at_call 70; refine (letter_f _ _ (unhide H1)).mono ?_; rintro e w' ⟨rfl, rfl⟩) | (go_at_call 71; refine (digit_f _ _ (unhide H2)).mono ?_; rintro e w' ⟨rfl, rfl⟩))
              go_ret
              exact ⟨ret_bool (unhide HN).symm, rfl⟩
          · have HR : Hid (∀ j, 1 ≤ j → j < k + 1 → restB (byteAt s j) = true) := hide (fun j h1 h2 => by
              by_cases e : j = k
              · rw [e]; unfold restB; simp [hdk]
              · exact unhide HK j h1 (by omega))
            rw [ek] at hlk hdk
            have H1 := hide hlk; have H2 := hide hdk
            clear hlk hdk ek
            go_wp2_with (first | (go_at_call 70; refine (letter_f _ _ (unhide H1)).mono ?_; rintro e w' ⟨rfl, rfl⟩) | (go_at_call 71; refine (digit_t _ _ (unhide H2)).mono ?_; rintro e w' ⟨rfl, rfl⟩))
            go_round
            case rel => exact ⟨k + 1, by omega, by omega, by go_num, HR⟩
            case measure => simp [intOf]; omega
        · have HR : Hid (∀ j, 1 ≤ j → j < k + 1 → restB (byteAt s j) = true) := hide (fun j h1 h2 => by
            by_cases e : j = k
            · rw [e]; unfold restB; simp [hlk]
            · exact unhide HK j h1 (by omega))
          rw [ek] at hlk
          have H1 := hide hlk
          clear hlk ek
          go_wp2_with (go_at_call 70; refine (letter_t _ _ (unhide H1)).mono ?_; rintro e w' ⟨rfl, rfl⟩)
          go_round
          case rel => exact ⟨k + 1, by omega, by omega, by go_num, HR⟩
          case measure => simp [intOf]; omega
      · have HN := hide (nameB_true (by omega) (by omega) (unhide HL) (fun j h1 h2 => unhide HK j h1 (by omega)))
        go_wp2
        go_ret
        exact ⟨ret_bool (unhide HN).symm, rfl⟩

end Go.Proofs.YtbbfnampjbdnbaaDoor
