/-
  The contracts of lex.Line and of the reference's Line: in which line, and where in it, a place stands. Conditions: the text fits.
-/
import Derived.Test.YtkmfpcfnmnchgaaMem
import Derived.Test.YtkmfpcfnmnchgaaLayCnt
import Derived.Deep.Cut
import Derived.Deep.DeepCutAuto
namespace Go.Proofs.Ytkmfpcfnmnchgaa
open Go.RowKit

/-- A place in a text. -/
def kL (s : ByteArray) (p : Int) : Nat := (min (max p 0) (s.size : Int)).toNat
theorem kL_le (s : ByteArray) (p : Int) : kL s p ≤ s.size := by unfold kL; omega
theorem ext_size (s : ByteArray) {k : Nat} (h : k ≤ s.size) : (s.extract 0 k).size = k := by rw [ByteArray.size_extract]; omega
theorem ext_list (s : ByteArray) (k : Nat) : (s.extract 0 k).data.toList = s.data.toList.take k := by simp
theorem ext_at (s : ByteArray) {k i : Nat} (hi : i < k) : (s.extract 0 k).data[i]! = s.data[i]! := by
  have h1 : (s.extract 0 k).data[i]? = s.data[i]? := by
    rw [← Array.getElem?_toList, ← Array.getElem?_toList, ext_list, List.getElem?_take_of_lt hi]
  rw [getElem!_def, getElem!_def, h1]
theorem ext_last (s : ByteArray) {k : Nat} : ∀ j, j ≤ k → Lib.lastIdx (s.extract 0 k) 10 j = Lib.lastIdx s 10 j
  | 0, _ => rfl
  | j + 1, hj => by
    unfold Lib.lastIdx
    rw [ext_at s (by omega), ext_last s j (by omega)]
/-- Its line, and where in it. -/
def liD (s : ByteArray) (k : Nat) : Int × Int := ((((s.data.toList.take k).count 10 : Nat) : Int) + 1, (k : Int) - Lib.lastIdx s 10 k)
theorem last_le (s : ByteArray) : ∀ k : Nat, -1 ≤ Lib.lastIdx s 10 k ∧ Lib.lastIdx s 10 k < (k : Int)
  | 0 => by unfold Lib.lastIdx; omega
  | k + 1 => by
    have := last_le s k
    unfold Lib.lastIdx
    split <;> omega

set_option maxHeartbeats 1000000 in
theorem Line_any (s : ByteArray) (p : Int) (w : World) (hs : s.size ≤ 140737488351232) :
    Calls Try.prog 4 #[.string s, .int .i64 p] w fun e w' => e = .returned (.tuple #[.int .i64 (liD s (kL s p)).1, .int .i64 (liD s (kL s p)).2]) ∧ w' = w := by
  have hk := kL_le s p
  have HT1 := hide (ext_size s hk)
  have HT2 := hide (ext_list s (kL s p))
  have HT3 := hide (ext_last s (kL s p) (Nat.le_refl _))
  have HLL := hide (last_le s (kL s p))
  have HCn : Hid ((s.data.toList.take (kL s p)).count 10 ≤ kL s p) := hide (Nat.le_trans List.count_le_length (by rw [List.length_take]; omega))
  have HC := hide (Any.strings_Count_one Try.laysCount (s.extract 0 (kL s p)) 10 w)
  have HI := hide (Any.strings_LastIndex_one Try.laysLast (s.extract 0 (kL s p)) ⟨#[10]⟩ rfl (by rw [unhide HT1]; omega) w)
  obtain ⟨k, HK⟩ : ∃ k, Hid (kL s p = k) := ⟨_, hide rfl⟩
  have HKx : Hid ((min (max p 0) (s.size : Int)).toNat = k) := hide (unhide HK)
  rw [unhide HK] at hk HT1 HT2 HT3 HLL HCn HC HI ⊢
  unfold liD
  obtain ⟨T, HTe⟩ : ∃ T, Hid (s.extract 0 k = T) := ⟨_, hide rfl⟩
  rw [unhide HTe] at HT1 HT2 HT3 HC HI
  unfold Lib.countByte at HC
  unfold Lib.lastIndexByte at HI
  rw [unhide HT2] at HC
  rw [unhide HT1, show (((⟨#[10]⟩ : ByteArray)[0]'(by decide)).toNat : Int) = 10 from rfl, unhide HT3] at HI
  obtain ⟨c, HCe⟩ : ∃ c, Hid ((s.data.toList.take k).count 10 = c) := ⟨_, hide rfl⟩
  obtain ⟨q, HQe⟩ : ∃ q, Hid (Lib.lastIdx s 10 k = q) := ⟨_, hide rfl⟩
  rw [unhide HCe] at HC HCn ⊢
  rw [unhide HQe] at HI HLL ⊢
  have hc := unhide HCn
  have hq := unhide HLL
  have hts : T.size = k := unhide HT1
  go_enter Try.func4, Try.ntmps4
  go_upto_region 2 with fail
  rw [unhide HKx, unhide HTe]
  have HTS := hide hts
  clear hts
  go_wp2_with fail
  refine (unhide HC).mono ?_
  rintro e w1 ⟨rfl, hw1⟩
  subst hw1
  go_wp2_with fail
  refine (unhide HI).mono ?_
  rintro e w2 ⟨rfl, hw2⟩
  subst hw2
  rw [unhide HTS]
  go_wp2
  go_ret2
  exact ⟨rfl, rfl⟩

theorem li_step {s : ByteArray} {i : Nat} (hi : i < s.size) : s.data.toList.take (i + 1) = s.data.toList.take i ++ [s[i]] := by
  have : i < s.data.toList.length := by simpa using hi
  rw [List.take_succ_eq_append_getElem this]
  rfl

set_option maxHeartbeats 1000000 in
theorem refLine_any (s : ByteArray) (p : Int) (w : World) (hs : s.size ≤ 140737488351232) :
    Calls Try.prog 5 #[.string s, .int .i64 p] w fun e w' => e = .returned (.tuple #[.int .i64 (liD s (kL s p)).1, .int .i64 (liD s (kL s p)).2]) ∧ w' = w := by
  have hk := kL_le s p
  have HK : Hid ((kL s p : Int) = if p < 0 then 0 else if p > (s.size : Int) then (s.size : Int) else p) := hide (by unfold kL; split <;> (try split) <;> omega)
  generalize kL s p = k at hk HK ⊢
  obtain ⟨R, HR⟩ : ∃ R, Hid (liD s k = R) := ⟨_, hide rfl⟩
  rw [unhide HR]
  go_enter Try.func5, Try.ntmps5
  by_cases h0 : p < 0
  · rw [if_pos h0] at HK
    obtain rfl : k = 0 := by have := unhide HK; omega
    have h1 : ¬ (0 : Int) > (s.size : Int) := by omega
    have HR2 : Hid (R = (1, 1)) := hide (by rw [← unhide HR]; rfl)
    go_wp2
    go_loopw [6, 7, 8] (fun ln fr i wr => ln = .int .i64 1 ∧ fr = .int .i64 0 ∧ i = .int .i64 0 ∧ wr = w) (fun _ _ _ _ => 0)
    case atStart => exact ⟨rfl, rfl, rfl, rfl⟩
    case round =>
      obtain ⟨rfl, rfl, rfl, rfl⟩ := hrel
      go_wp2
      go_ret2
      exact ⟨by rw [unhide HR2]; rfl, rfl⟩
  · rw [if_neg h0] at HK
    by_cases h1 : p > (s.size : Int)
    · rw [if_pos h1] at HK
      obtain rfl : k = s.size := by have := unhide HK; omega
      go_wp2
      go_loopw [6, 7, 8] (fun ln fr i wr => ∃ j : Nat, j ≤ s.size ∧ i = .int .i64 (j : Int) ∧ ln = .int .i64 ((((s.data.toList.take j).count 10 : Nat) : Int) + 1) ∧ fr = .int .i64 (Lib.lastIdx s 10 j + 1) ∧ wr = w) (fun _ _ i _ => s.size - (intOf i).toNat)
      case atStart => exact ⟨0, by omega, rfl, rfl, rfl, rfl⟩
      case round =>
        obtain ⟨j, hj, rfl, rfl, rfl, rfl⟩ := hrel
        have hlj := last_le s j
        have hcj : (s.data.toList.take j).count 10 ≤ j := Nat.le_trans List.count_le_length (by rw [List.length_take]; omega)
        by_cases hlt : j < s.size
        · have i1 : ((j : Nat) : Int) < ((s.size : Nat) : Int) := by omega
          have hjs : j < s.size := by omega
          have HS1 := hide (li_step hjs)
          have HS2 : Hid (Lib.lastIdx s 10 (j + 1) = if (s[j].toNat : Int) = 10 then (j : Int) else Lib.lastIdx s 10 j) := hide (by
            conv => lhs; unfold Lib.lastIdx
            have : s.data[j]! = s[j] := by rw [getElem!_pos s.data j hjs]; rfl
            rw [this])
          by_cases hb : (s[j].toNat : Int) = 10
          · have b1 : ((s[j].toNat : Int) == 10) = true := beq_iff_eq.2 hb
            have e10 : s[j] = 10 := UInt8.toNat_inj.1 (by show s[j].toNat = 10; omega)
            rw [if_pos hb] at HS2
            have HC2 : Hid ((s.data.toList.take (j + 1)).count 10 = (s.data.toList.take j).count 10 + 1) := hide (by rw [unhide HS1, List.count_append, e10]; rfl)
            clear hb e10 HS1
            go_wp2
            go_roundw
            case rel => exact ⟨j + 1, by omega, by go_num, val_int (by rw [unhide HC2]; omega), val_int (by rw [unhide HS2]), trivial⟩
            case measure => simp [intOf]; omega
          · have b1 : ((s[j].toNat : Int) == 10) = false := beq_f hb
            have e10 : ¬ s[j] = 10 := fun e => hb (by rw [e]; rfl)
            rw [if_neg hb] at HS2
            have HC2 : Hid ((s.data.toList.take (j + 1)).count 10 = (s.data.toList.take j).count 10) := hide (by rw [unhide HS1, List.count_append]; simp [e10])
            clear hb e10 HS1
            go_wp2
            go_roundw
            case rel => exact ⟨j + 1, by omega, by go_num, val_int (by rw [unhide HC2]), val_int (by rw [unhide HS2]), trivial⟩
            case measure => simp [intOf]; omega
        · have i1 : ¬ ((j : Nat) : Int) < ((s.size : Nat) : Int) := by omega
          obtain hjk : j = s.size := by omega
          subst hjk
          go_wp2
          go_ret2
          refine ⟨?_, rfl⟩
          rw [← unhide HR]
          unfold liD
          have e1 : ((s.size : Nat) : Int) - (Lib.lastIdx s 10 s.size + 1) + 1 = ((s.size : Nat) : Int) - Lib.lastIdx s 10 s.size := by omega
          show Ending.returned (Value.tuple #[.int .i64 _, .int .i64 (((s.size : Nat) : Int) - (Lib.lastIdx s 10 s.size + 1) + 1)]) = _
          rw [e1]
    · rw [if_neg h1] at HK
      obtain rfl := unhide HK
      clear HK
      go_wp2
      go_loopw [6, 7, 8] (fun ln fr i wr => ∃ j : Nat, j ≤ k ∧ i = .int .i64 (j : Int) ∧ ln = .int .i64 ((((s.data.toList.take j).count 10 : Nat) : Int) + 1) ∧ fr = .int .i64 (Lib.lastIdx s 10 j + 1) ∧ wr = w) (fun _ _ i _ => k - (intOf i).toNat)
      case atStart => exact ⟨0, by omega, rfl, rfl, rfl, rfl⟩
      case round =>
        obtain ⟨j, hj, rfl, rfl, rfl, rfl⟩ := hrel
        have hlj := last_le s j
        have hcj : (s.data.toList.take j).count 10 ≤ j := Nat.le_trans List.count_le_length (by rw [List.length_take]; omega)
        by_cases hlt : j < k
        · have i1 : ((j : Nat) : Int) < ((k : Nat) : Int) := by omega
          have i2 : ((j : Nat) : Int) < ((s.size : Nat) : Int) := by omega
          have hjs : j < s.size := by omega
          have HS1 := hide (li_step hjs)
          have HS2 : Hid (Lib.lastIdx s 10 (j + 1) = if (s[j].toNat : Int) = 10 then (j : Int) else Lib.lastIdx s 10 j) := hide (by
            conv => lhs; unfold Lib.lastIdx
            have : s.data[j]! = s[j] := by rw [getElem!_pos s.data j hjs]; rfl
            rw [this])
          by_cases hb : (s[j].toNat : Int) = 10
          · have b1 : ((s[j].toNat : Int) == 10) = true := beq_iff_eq.2 hb
            have e10 : s[j] = 10 := UInt8.toNat_inj.1 (by show s[j].toNat = 10; omega)
            rw [if_pos hb] at HS2
            have HC2 : Hid ((s.data.toList.take (j + 1)).count 10 = (s.data.toList.take j).count 10 + 1) := hide (by rw [unhide HS1, List.count_append, e10]; rfl)
            clear hb e10 HS1
            go_wp2
            go_roundw
            case rel => exact ⟨j + 1, by omega, by go_num, val_int (by rw [unhide HC2]; omega), val_int (by rw [unhide HS2]), trivial⟩
            case measure => simp [intOf]; omega
          · have b1 : ((s[j].toNat : Int) == 10) = false := beq_f hb
            have e10 : ¬ s[j] = 10 := fun e => hb (by rw [e]; rfl)
            rw [if_neg hb] at HS2
            have HC2 : Hid ((s.data.toList.take (j + 1)).count 10 = (s.data.toList.take j).count 10) := hide (by rw [unhide HS1, List.count_append]; simp [e10])
            clear hb e10 HS1
            go_wp2
            go_roundw
            case rel => exact ⟨j + 1, by omega, by go_num, val_int (by rw [unhide HC2]), val_int (by rw [unhide HS2]), trivial⟩
            case measure => simp [intOf]; omega
        · have i1 : ¬ ((j : Nat) : Int) < ((k : Nat) : Int) := by omega
          obtain rfl : j = k := by omega
          go_wp2
          go_ret2
          refine ⟨?_, rfl⟩
          rw [← unhide HR]
          unfold liD
          have e1 : ((j : Nat) : Int) - (Lib.lastIdx s 10 j + 1) + 1 = ((j : Nat) : Int) - Lib.lastIdx s 10 j := by omega
          show Ending.returned (Value.tuple #[.int .i64 _, .int .i64 (((j : Nat) : Int) - (Lib.lastIdx s 10 j + 1) + 1)]) = _
          rw [e1]
end Go.Proofs.Ytkmfpcfnmnchgaa
