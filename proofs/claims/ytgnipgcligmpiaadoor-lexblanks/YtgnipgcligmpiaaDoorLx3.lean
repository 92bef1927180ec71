/-
  The reference's run and Blanks: where blanks end.
-/
import Derived.Test.YtgnipgcligmpiaaDoorLx2
namespace Go.Proofs.YtgnipgcligmpiaaDoor
open Go.RowKit
set_option maxRecDepth 20000

theorem bt_at {s : ByteArray} {i : Nat} (h : i < s.size) : (s[i]'h).toNat = bt s i := by
  unfold bt
  have : s.get! i = s[i]'h := by
    show s.data[i]! = s.data[i]
    exact getElem!_pos s.data i h
  rw [this]
/-- Where blanks end. -/
def blF (s : ByteArray) : Nat → Nat → Nat
  | 0, i => i
  | f + 1, i => if i < s.size then (if blC (bt s i) = true then blF s f (i + 1) else if bt s i = 47 ∧ i + 1 < s.size ∧ bt s (i + 1) = 47 then blF s f (enD rmC s i) else i) else i
theorem rem_gt {s : ByteArray} {i : Nat} (h : bt s i = 47 ∧ i + 1 < s.size ∧ bt s (i + 1) = 47) : i + 2 ≤ enD rmC s i ∧ enD rmC s i ≤ s.size := by
  have he := enD_end (p := rmC) (s := s) (i := i) (by omega)
  refine ⟨?_, he.le⟩
  rcases Nat.lt_or_ge (enD rmC s i) (i + 2) with g | g
  · have hn := he.no (by omega)
    have hg := he.ge
    rcases (show enD rmC s i = i ∨ enD rmC s i = i + 1 by omega) with e | e
    · rw [e, h.1] at hn; cases hn
    · rw [e, h.2.2] at hn; cases hn
  · exact g
theorem blF_fuel {s : ByteArray} : ∀ (f g i : Nat), s.size + 1 ≤ i + f → s.size + 1 ≤ i + g → blF s f i = blF s g i
  | 0, 0, i, _, _ => rfl
  | 0, g + 1, i, h1, h2 => by
    unfold blF
    rw [if_neg (by omega)]
  | f + 1, 0, i, h1, h2 => by
    unfold blF
    rw [if_neg (by omega)]
  | f + 1, g + 1, i, h1, h2 => by
    unfold blF
    by_cases hi : i < s.size
    · rw [if_pos hi, if_pos hi]
      by_cases hb : blC (bt s i) = true
      · rw [if_pos hb, if_pos hb]
        exact blF_fuel f g (i + 1) (by omega) (by omega)
      · rw [if_neg hb, if_neg hb]
        by_cases hr : bt s i = 47 ∧ i + 1 < s.size ∧ bt s (i + 1) = 47
        · rw [if_pos hr, if_pos hr]
          have := rem_gt hr
          exact blF_fuel f g _ (by omega) (by omega)
        · rw [if_neg hr, if_neg hr]
    · rw [if_neg hi, if_neg hi]
def blD (s : ByteArray) (i : Nat) : Nat := blF s (s.size + 1) i
theorem blD_end {s : ByteArray} {i : Nat} (h : s.size ≤ i) : blD s i = i := by unfold blD blF; rw [if_neg (by omega)]
theorem blD_blank {s : ByteArray} {i : Nat} (h : i < s.size) (hb : blC (bt s i) = true) : blD s i = blD s (i + 1) := by
  have e : blD s i = blF s s.size (i + 1) := by unfold blD; rw [blF, if_pos h, if_pos hb]
  rw [e]
  exact blF_fuel _ _ _ (by omega) (by omega)
theorem blD_rem {s : ByteArray} {i : Nat} (h : bt s i = 47 ∧ i + 1 < s.size ∧ bt s (i + 1) = 47) : blD s i = blD s (enD rmC s i) := by
  have hg := rem_gt h
  have e : blD s i = blF s s.size (enD rmC s i) := by unfold blD; rw [blF, if_pos (by omega), if_neg (by rw [h.1]; decide), if_pos h]
  rw [e]
  exact blF_fuel _ _ _ (by omega) (by omega)
theorem blD_stop {s : ByteArray} {i : Nat} (h : i < s.size) (hb : blC (bt s i) = false) (hr : ¬ (bt s i = 47 ∧ i + 1 < s.size ∧ bt s (i + 1) = 47)) : blD s i = i := by
  unfold blD
  rw [blF, if_pos h, if_neg (by rw [hb]; simp), if_neg hr]

set_option maxRecDepth 20000 in
set_option maxHeartbeats 2000000 in
theorem refRun_any (s : ByteArray) (i : Nat) (w : World) (hi : i ≤ s.size) (hs : s.size ≤ 140737488351232) :
    Calls Tryd.prog 32 #[.string s, .int .i64 (i : Int)] w fun e w' => e = .returned (.int .i64 ((enD wdC s i : Nat) : Int)) ∧ w' = w := by
  go_enter Tryd.func32, Tryd.ntmps32
  go_wp2
  go_loopw [1] (fun v wr => ∃ k : Nat, i ≤ k ∧ k ≤ s.size ∧ v = .int .i64 (k : Int) ∧ Hid (∀ j, i ≤ j → j < k → wdC (bt s j) = true) ∧ wr = w) (fun v _ => s.size - (intOf v).toNat)
  case atStart => exact ⟨i, Nat.le_refl _, hi, rfl, hide (fun j h1 h2 => by omega), rfl⟩
  case round =>
    obtain ⟨k, hk1, hk2, rfl, HA, rfl⟩ := hrel
    by_cases hk : k < s.size
    · have j1 : ((k : Nat) : Int) < ((s.size : Nat) : Int) := by omega
      have HL := hide (refLetter_any ((bt s k : Nat) : Int) wr)
      have HD := hide (refDigit_any ((bt s k : Nat) : Int) wr)
      have hbt := bt_at hk
      have HW : Hid (wdC (bt s k : Int) = (ltC (bt s k : Int) || dgC (bt s k : Int))) := hide rfl
      go_wp2_with fail
      refine (unhide HL).mono ?_
      rintro e w1 ⟨rfl, rfl⟩
      cases hl : ltC (bt s k : Int)
      · go_wp2_with fail
        refine (unhide HD).mono ?_
        rintro e w1 ⟨rfl, rfl⟩
        cases hd : dgC (bt s k : Int)
        · have HR : Hid (enD wdC s i = k) := hide (enD_is ⟨hk1, hk2, unhide HA, fun h => by rw [unhide HW, hl, hd]; rfl⟩)
          clear hl hd
          go_wp2
          go_ret
          exact ⟨by rw [unhide HR]; rfl, rfl⟩
        · have HA2 : Hid (∀ j, i ≤ j → j < k + 1 → wdC (bt s j) = true) := hide (fun j h1 h2 => by
            by_cases e : j = k
            · rw [e, unhide HW, hd, Bool.or_true]
            · exact unhide HA j h1 (by omega))
          clear hl hd
          go_wp2
          go_roundw
          case rel => exact ⟨k + 1, by omega, by omega, by go_num, HA2, trivial⟩
          case measure => simp [intOf]; omega
      · have HA2 : Hid (∀ j, i ≤ j → j < k + 1 → wdC (bt s j) = true) := hide (fun j h1 h2 => by
          by_cases e : j = k
          · rw [e, unhide HW, hl]; rfl
          · exact unhide HA j h1 (by omega))
        clear hl
        go_wp2
        go_roundw
        case rel => exact ⟨k + 1, by omega, by omega, by go_num, HA2, trivial⟩
        case measure => simp [intOf]; omega
    · have HR : Hid (enD wdC s i = k) := hide (enD_is ⟨hk1, hk2, unhide HA, fun h => by omega⟩)
      go_wp2
      go_ret
      exact ⟨by rw [unhide HR]; rfl, rfl⟩

set_option maxRecDepth 20000 in
set_option maxHeartbeats 4000000 in
theorem refBlanks_any (s : ByteArray) (i : Nat) (w : World) (hi : i ≤ s.size) (hs : s.size ≤ 140737488351232) :
    Calls Tryd.prog 20 #[.string s, .int .i64 (i : Int)] w fun e w' => e = .returned (.int .i64 ((blD s i : Nat) : Int)) ∧ w' = w := by
  go_enter Tryd.func20, Tryd.ntmps20
  go_wp2
  go_loopw [1] (fun v wr => ∃ k : Nat, k ≤ s.size ∧ v = .int .i64 (k : Int) ∧ Hid (blD s i = blD s k) ∧ wr = w) (fun v _ => s.size - (intOf v).toNat)
  case atStart => exact ⟨i, hi, rfl, hide rfl, rfl⟩
  case round =>
    obtain ⟨k, hk2, rfl, HA, rfl⟩ := hrel
    by_cases hk : k < s.size
    · have j1 : ((k : Nat) : Int) < ((s.size : Nat) : Int) := by omega
      have HBl := hide (refBlank_any ((bt s k : Nat) : Int) wr)
      have hbt := bt_at hk
      have hb256 := bt_lt s k
      go_wp2_with fail
      refine (unhide HBl).mono ?_
      rintro e w1 ⟨rfl, rfl⟩
      cases hb : blC (bt s k : Int)
      · by_cases h47 : bt s k = 47
        · have b1 : (((bt s k : Nat) : Int) != 47) = false := by rw [h47]; rfl
          by_cases hn : k + 1 < s.size
          · have j2 : ¬ s.size ≤ k + 1 := by omega
            have j3 : ((k : Nat) : Int) + 1 < ((s.size : Nat) : Int) := by omega
            have hbt2 := bt_at hn
            by_cases h472 : bt s (k + 1) = 47
            · have b2 : (((bt s (k + 1) : Nat) : Int) != 47) = false := by rw [h472]; rfl
              have HRm := hide (blD_rem ⟨h47, hn, h472⟩)
              have hgt := rem_gt ⟨h47, hn, h472⟩
              have HE := hide (enD_end (p := rmC) (s := s) (i := k) hk2)
              have HJ4 : Hid (¬ ((s.size : Nat) : Int) ≤ ((k : Nat) : Int) + 1) := hide (by omega)
              have j4 := unhide HJ4
              clear hb h47 h472
              go_wp2
              clear b1 b2 hbt hbt2 j4
              generalize enD rmC s k = en at HRm hgt HE
              go_loopw [1] (fun v wq => ∃ m : Nat, k ≤ m ∧ m ≤ en ∧ v = .int .i64 (m : Int) ∧ wq = w1) (fun v _ => s.size - (intOf v).toNat)
              case atStart => exact ⟨k, Nat.le_refl _, by omega, rfl, rfl⟩
              case round =>
                obtain ⟨m, hm1, hm2, rfl, rfl⟩ := hrel
                by_cases hme : m < en
                · have jm : ((m : Nat) : Int) < ((s.size : Nat) : Int) := by omega
                  have hms : m < s.size := by omega
                  have hbm := bt_at hms
                  have hnl := (unhide HE).all m hm1 hme
                  have bm : (((bt s m : Nat) : Int) != 10) = true := by
                    unfold rmC at hnl
                    simpa using hnl
                  clear hnl
                  go_wp2
                  go_roundw
                  case rel => exact ⟨m + 1, by omega, by omega, by go_num, trivial⟩
                  case measure => simp [intOf]; omega
                · obtain rfl : m = en := by omega
                  have HA2 : Hid (blD s i = blD s m) := hide ((unhide HA).trans (unhide HRm))
                  by_cases hms : m < s.size
                  · have jm : ((m : Nat) : Int) < ((s.size : Nat) : Int) := by omega
                    have hbm := bt_at hms
                    have hnl := (unhide HE).no hms
                    have bm : (((bt s m : Nat) : Int) != 10) = false := by
                      unfold rmC at hnl
                      simpa using hnl
                    clear hnl
                    go_wp2
                    go_roundw
                    case rel => exact ⟨m, by omega, rfl, HA2, trivial⟩
                    case measure => simp [intOf]; omega
                  · have jm : ¬ ((m : Nat) : Int) < ((s.size : Nat) : Int) := by omega
                    go_wp2
                    go_roundw
                    case rel => exact ⟨m, by omega, rfl, HA2, trivial⟩
                    case measure => simp [intOf]; omega
            · have b2 : (((bt s (k + 1) : Nat) : Int) != 47) = true := by simp; omega
              have HR : Hid (blD s i = k) := hide ((unhide HA).trans (blD_stop hk hb (fun h => h472 h.2.2)))
              clear hb h47 h472
              go_wp2
              go_ret
              exact ⟨by rw [unhide HR]; rfl, rfl⟩
          · have j2 : s.size ≤ k + 1 := by omega
            have j3 : ((k : Nat) : Int) + 1 ≥ ((s.size : Nat) : Int) := by omega
            have HR : Hid (blD s i = k) := hide ((unhide HA).trans (blD_stop hk hb (fun h => hn h.2.1)))
            clear hb h47
            go_wp2
            go_ret
            exact ⟨by rw [unhide HR]; rfl, rfl⟩
        · have b1 : (((bt s k : Nat) : Int) != 47) = true := by simp; omega
          have HR : Hid (blD s i = k) := hide ((unhide HA).trans (blD_stop hk hb (fun h => h47 h.1)))
          clear hb h47
          go_wp2
          go_ret
          exact ⟨by rw [unhide HR]; rfl, rfl⟩
      · have HA2 : Hid (blD s i = blD s (k + 1)) := hide ((unhide HA).trans (blD_blank hk hb))
        clear hb
        go_wp2
        go_roundw
        case rel => exact ⟨k + 1, by omega, by go_num, HA2, trivial⟩
        case measure => simp [intOf]; omega
    · have HR : Hid (blD s i = k) := hide ((unhide HA).trans (blD_end (by omega)))
      go_wp2
      go_ret
      exact ⟨by rw [unhide HR]; rfl, rfl⟩
end Go.Proofs.YtgnipgcligmpiaaDoor
