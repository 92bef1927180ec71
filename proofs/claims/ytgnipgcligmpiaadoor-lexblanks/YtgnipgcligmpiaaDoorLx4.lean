/-
  Numbers and marks of a source text: the contracts of the reference's number and mark, and of lex's mark.
-/
import Derived.Test.YtgnipgcligmpiaaDoorLx3
import Derived.Test.YtgnipgcligmpiaaDoorLw1
import Derived.Test.YtgnipgcligmpiaaDoorLayPre
namespace Go.Proofs.YtgnipgcligmpiaaDoor
open Go.RowKit
set_option maxRecDepth 20000

/-- What the first digits say. -/
def nvD (s : ByteArray) : Nat → Nat
  | 0 => 0
  | k + 1 => 10 * nvD s k + (bt s k - 48)
theorem nv_mono (s : ByteArray) : ∀ k m, k ≤ m → nvD s k ≤ nvD s m
  | k, 0, h => by have : k = 0 := by omega
                  rw [this]; exact Nat.le_refl _
  | k, m + 1, h => by
    by_cases e : k = m + 1
    · rw [e]; exact Nat.le_refl _
    · have := nv_mono s k m (by omega)
      show nvD s k ≤ 10 * nvD s m + (bt s m - 48)
      omega
def nuV (s : ByteArray) : Nat := if nvD s s.size ≤ 2147483648 then nvD s s.size else 0
def nuB (s : ByteArray) : Bool := decide (nvD s s.size ≤ 2147483648)
set_option maxRecDepth 20000 in
set_option maxHeartbeats 2000000 in
theorem refNumber_any (s : ByteArray) (w : World) (hd : ∀ j, j < s.size → 48 ≤ bt s j ∧ bt s j ≤ 57) (hs : s.size ≤ 140737488351232) :
    Calls Tryd.prog 36 #[.string s] w fun e w' => e = .returned (.tuple #[.int .i64 (nuV s : Int), .bool (nuB s)]) ∧ w' = w := by
  have HD := hide hd
  clear hd
  go_enter Tryd.func36, Tryd.ntmps36
  go_wp2
  go_loopw [4, 5] (fun n i wr => ∃ k : Nat, k ≤ s.size ∧ i = .int .i64 (k : Int) ∧ n = .int .i64 (nvD s k : Int) ∧ nvD s k ≤ 2147483648 ∧ wr = w) (fun _ i _ => s.size - (intOf i).toNat)
  case atStart => exact ⟨0, by omega, rfl, rfl, by unfold nvD; omega, rfl⟩
  case round =>
    obtain ⟨k, hk, rfl, rfl, hn, rfl⟩ := hrel
    by_cases hkl : k < s.size
    · have j1 : ((k : Nat) : Int) < ((s.size : Nat) : Int) := by omega
      have hbt := bt_at hkl
      obtain ⟨h48, h57⟩ := unhide HD k hkl
      have HN : Hid (nvD s (k + 1) = 10 * nvD s k + (bt s k - 48)) := hide rfl
      have HMo := hide (nv_mono s (k + 1) s.size hkl)
      obtain ⟨d, hdd⟩ : ∃ d, bt s k = 48 + d := ⟨bt s k - 48, by omega⟩
      rw [hdd] at hbt HN
      generalize nvD s k = v at hn HN
      clear hdd h48 h57
      have hd9 : d ≤ 9 := by have := (unhide HD k hkl).2; have := bt_at hkl; omega
      have ju : ((48 + d : Nat) : Int) - 48 = (d : Int) := by omega
      by_cases hbig : 10 * v + d ≤ 2147483648
      · have jb : ¬ 10 * (v : Int) + (d : Int) > 2147483648 := by omega
        have HE : Hid (nvD s (k + 1) = 10 * v + d) := hide (by rw [unhide HN]; omega)
        go_wp2
        go_roundw
        case rel => exact ⟨k + 1, by omega, by go_num, by rw [unhide HE]; congr 1; push_cast; omega, by rw [unhide HE]; exact hbig, trivial⟩
        case measure => simp [intOf]; omega
      · have jb : 10 * (v : Int) + (d : Int) > 2147483648 := by omega
        have HV : Hid (nuV s = 0 ∧ nuB s = false) := hide (by
          have h1 := unhide HN
          have h2 := unhide HMo
          have : ¬ nvD s s.size ≤ 2147483648 := by omega
          unfold nuV nuB
          rw [if_neg this, decide_eq_false this]
          exact ⟨rfl, rfl⟩)
        go_wp2
        go_ret2
        exact ⟨by rw [(unhide HV).1, (unhide HV).2]; rfl, rfl⟩
    · obtain rfl : k = s.size := by omega
      have HV : Hid (nuV s = nvD s s.size ∧ nuB s = true) := hide (by unfold nuV nuB; rw [if_pos hn, decide_eq_true hn]; exact ⟨rfl, rfl⟩)
      go_wp2
      go_ret2
      exact ⟨by rw [(unhide HV).1, (unhide HV).2]; rfl, rfl⟩

/-! ### Marks -/
/-- Does a text stand there? -/
def preD (t s : ByteArray) (p : Nat) : Bool := Lib.hasPrefix (s.extract p s.size).data.toList t.data.toList
/-- The longest of the first marks that stands there, and its length. -/
def mkS (s : ByteArray) (p : Nat) : Nat → Nat × Nat
  | 0 => (0, 0)
  | k + 1 => if (mkS s p k).2 < (wK (25 + k)).size ∧ preD (wK (25 + k)) s p = true then (25 + k, (wK (25 + k)).size) else mkS s p k
theorem wK_size (k : Nat) : (wK k).size ≤ 8 := by
  rcases Nat.lt_or_ge k 50 with h | h
  · have : ∀ k, k < 50 → (wK k).size ≤ 8 := by decide
    exact this k h
  · have : wK k = ⟨#[]⟩ := by
      unfold wK
      rw [List.getD_eq_getElem?_getD, List.getElem?_eq_none (by have : spL.length = 50 := rfl; omega)]
      rfl
    rw [this]; decide
theorem mkS_le (s : ByteArray) (p : Nat) : ∀ k, (mkS s p k).2 ≤ 8 ∧ (mkS s p k).1 < 25 + k + 1
  | 0 => by unfold mkS; omega
  | k + 1 => by
    have := mkS_le s p k
    have := wK_size (25 + k)
    unfold mkS
    split <;> omega
theorem pre_ext {t s : ByteArray} {p : Nat} : preD t s p = (decide (t.size ≤ s.size - p) && ((s.extract p (p + t.size)).toList == t.toList)) := by
  unfold preD Lib.hasPrefix
  rw [Bool.eq_iff_iff, List.isPrefixOf_iff_prefix, Bool.and_eq_true, decide_eq_true_eq, beq_iff_eq]
  have hl1 : (s.extract p s.size).data.toList = s.data.toList.drop p := by
    simp
    rw [List.take_of_length_le (by simp)]
  have hl2 : (s.extract p (p + t.size)).data.toList = (s.data.toList.drop p).take t.size := by simp [List.take_drop]
  have ht : t.data.toList.length = t.size := by simp
  have hsz : s.data.toList.length = s.size := by simp
  have hto : ∀ b : ByteArray, b.toList = b.data.toList := fun b => ByteArray.toList_eq b
  rw [hl1, hto, hto, hl2]
  constructor
  · intro h
    have hle := h.length_le
    rw [List.length_drop, ht, hsz] at hle
    refine ⟨hle, ?_⟩
    have := List.prefix_iff_eq_take.1 h
    rw [ht] at this
    exact this.symm
  · rintro ⟨h1, h2⟩
    rw [← h2]
    exact List.take_prefix _ _
theorem wdK_at {k : Nat} (h : k < 25) : wdK ((25 + k : Nat) : Int) = wK (25 + k) := by
  unfold wdK
  rw [if_pos (by omega)]
  rfl
theorem mkS_yes {s t : ByteArray} {p k b z : Nat} (ht : wK (25 + k) = t) (hm : mkS s p k = (b, z)) (h1 : z < t.size) (h2 : preD t s p = true) : mkS s p (k + 1) = (25 + k, t.size) := by
  rw [mkS, ht, hm, if_pos ⟨h1, h2⟩]
theorem mkS_no {s t : ByteArray} {p k b z : Nat} (ht : wK (25 + k) = t) (hm : mkS s p k = (b, z)) (h : ¬ (z < t.size ∧ preD t s p = true)) : mkS s p (k + 1) = (b, z) := by
  rw [mkS, ht, hm, if_neg h]

set_option maxRecDepth 20000 in
set_option maxHeartbeats 4000000 in
theorem refMark_any (s : ByteArray) (p : Nat) (w : World) (hp : p ≤ s.size) (hs : s.size ≤ 140737488351232) :
    Calls Tryd.prog 37 #[.string s, .int .i64 (p : Int)] w fun e w' => e = .returned (.tuple #[.int .i64 ((mkS s p 25).1 : Int), .int .i64 ((mkS s p 25).2 : Int)]) ∧ Below w.heap.size w w' := by
  go_enter Tryd.func37, Tryd.ntmps37
  go_wp2
  go_loopw [6, 7, 8] (fun b z i wr => ∃ k bb zz : Nat, k ≤ 25 ∧ i = .int .i64 ((25 + k : Nat) : Int) ∧ b = .int .i64 (bb : Int) ∧ z = .int .i64 (zz : Int) ∧ Hid (mkS s p k = (bb, zz)) ∧ Hid (Below w.heap.size w wr)) (fun _ _ i _ => 50 - (intOf i).toNat)
  case atStart => exact ⟨0, 0, 0, by omega, rfl, rfl, rfl, hide rfl, hide (Below.refl _ _)⟩
  case round =>
    obtain ⟨k, bb, zz, hk, rfl, rfl, rfl, HM, HB⟩ := hrel
    have hz8 : zz ≤ 8 := by have := (mkS_le s p k).1; rw [unhide HM] at this; exact this
    by_cases hkl : k < 25
    · have j1 : ((25 + k : Nat) : Int) < 50 := by omega
      have HWd := hide (refWord_any ((25 + k : Nat) : Int) wr (by omega))
      rw [wdK_at hkl] at HWd
      have ht8 := wK_size (25 + k)
      obtain ⟨t, HT⟩ : ∃ t, Hid (wK (25 + k) = t) := ⟨_, hide rfl⟩
      rw [unhide HT] at HWd ht8
      go_wp2_with fail
      refine (unhide HWd).mono ?_
      rintro e w1 ⟨rfl, hB1⟩
      have HB1 := hide ((unhide HB).trans (hB1.mono (unhide HB).size))
      have HPr := hide (pre_ext (t := t) (s := s) (p := p))
      clear hB1 HWd HB
      by_cases h1 : zz < t.size
      · have b1 : ((t.size : Nat) : Int) > ((zz : Nat) : Int) := by omega
        by_cases h2 : t.size ≤ s.size - p
        · have b2 : ((t.size : Nat) : Int) ≤ ((s.size : Nat) : Int) - ((p : Nat) : Int) := by omega
          have b3 : p + t.size ≤ s.size := by omega
          have b4 : ((p : Nat) : Int) + ((t.size : Nat) : Int) ≤ ((s.size : Nat) : Int) := by omega
          have b5 : p ≤ p + t.size := by omega
          cases h3 : ((s.extract p (p + t.size)).toList == t.toList)
          · have HN := hide (mkS_no (unhide HT) (unhide HM) (fun h => by rw [unhide HPr, h3, Bool.and_false] at h; cases h.2))
            go_wp2
            go_roundw
            case rel => exact ⟨k + 1, bb, zz, by omega, by go_num, rfl, rfl, HN, HB1⟩
            case measure => simp [intOf]; omega
          · have HY := hide (mkS_yes (unhide HT) (unhide HM) h1 (by rw [unhide HPr, h3, decide_eq_true h2]; rfl))
            go_wp2
            go_roundw
            case rel => exact ⟨k + 1, 25 + k, t.size, by omega, by go_num, by go_num, rfl, HY, HB1⟩
            case measure => simp [intOf]; omega
        · have b2 : ¬ ((t.size : Nat) : Int) ≤ ((s.size : Nat) : Int) - ((p : Nat) : Int) := by omega
          have HN := hide (mkS_no (unhide HT) (unhide HM) (fun h => by rw [unhide HPr, decide_eq_false h2, Bool.false_and] at h; cases h.2))
          go_wp2
          go_roundw
          case rel => exact ⟨k + 1, bb, zz, by omega, by go_num, rfl, rfl, HN, HB1⟩
          case measure => simp [intOf]; omega
      · have b1 : ¬ ((t.size : Nat) : Int) > ((zz : Nat) : Int) := by omega
        have HN := hide (mkS_no (unhide HT) (unhide HM) (fun h => h1 h.1))
        go_wp2
        go_roundw
        case rel => exact ⟨k + 1, bb, zz, by omega, by go_num, rfl, rfl, HN, HB1⟩
        case measure => simp [intOf]; omega
    · obtain rfl : k = 25 := by omega
      go_wp2
      go_ret2
      exact ⟨by rw [unhide HM]; rfl, unhide HB⟩
end Go.Proofs.YtgnipgcligmpiaaDoor
