/-
  Contracts of provisoref02's Find and Parse: what the plain functions say; nothing old is turned. Conditions: the table may be.
-/
import Derived.Test.YtggaecmjadkopabDoorRefMore
namespace Go.Proofs.YtggaecmjadkopabDoor
open Go.RowKit

set_option maxHeartbeats 1000000 in
theorem refFind_any (ao : Option Addr) (cap : Nat) (T : List Cl) (c : Int) (s : ByteArray) (w : World) (h : TabAt w ao T) (hT : T.length * 48 ≤ 140737488351232) (hfit : (fieldsD T c).length ≤ 1000000) :
    Calls Tryd.prog 27 #[.slice ao T.length cap, .int .i64 c, .string s] w fun e w' => e = .returned (findV (findD (fieldsD T c) s 0)) ∧ Below w.heap.size w w' := by
  have HOK := hide (fieldsD_ok h c)
  go_enter Tryd.func27, Tryd.ntmps27
  go_wp2_with fail
  refine (refFields_any ao cap T c _ h hT hfit).mono ?_
  rintro e w1 ⟨v, rfl, hO, hB1⟩
  have HB1 := hide hB1
  obtain ⟨fs, HFB⟩ : ∃ fs, Hid (fieldsD T c = fs) := ⟨_, hide rfl⟩
  rw [unhide HFB] at hO HOK hfit
  obtain ⟨fa, fc, rfl, hFs, _, _⟩ := hO.at (unhide HOK)
  have HFs := hide hFs
  have HE : Hid (findD fs s 0 = findD (fs.drop 0) s 0) := hide rfl
  have hfl : fs.length < 9223372036854775000 := by omega
  clear hO hFs hB1 h hT hfit
  go_wp2
  go_loopw [10] (fun i wr => (∃ k : Nat, k ≤ fs.length ∧ i = .int .i64 (k : Int) ∧ Hid (findD fs s 0 = findD (fs.drop k) s k)) ∧ wr = w1) (fun i _ => fs.length - (intOf i).toNat)
  case atStart => exact ⟨⟨0, by omega, rfl, HE⟩, rfl⟩
  case round =>
    clear HE
    obtain ⟨⟨k, hk, rfl, HE⟩, rfl⟩ := hrel
    by_cases hlt : k < fs.length
    · have i1 : ((k : Nat) : Int) < ((fs.length : Nat) : Int) := by omega
      obtain ⟨b, off, rfl, hx⟩ := unhide HFs k _ (List.getElem?_eq_getElem hlt)
      have d0 := hx.c0
      have d1 := hx.c1
      have HS : Hid (findD (fs.drop k) s k = if (fs[k].nm.toList == s.toList) = true then some (k, fs[k].ty) else findD (fs.drop (k + 1)) s (k + 1)) := hide (by rw [List.drop_eq_getElem_cons hlt, findD])
      rw [unhide HS] at HE
      generalize fs[k] = f at d0 d1 HE
      clear hx HS
      by_cases hb : (f.nm.toList == s.toList) = true
      · rw [if_pos hb] at HE
        go_wp2
        go_quiet (fail)
        go_wp2
        go_ret3
        refine ⟨?_, belowD (unhide HB1) _⟩
        rw [unhide HFB, unhide HE]
        rfl
      · rw [if_neg hb] at HE
        have hb' : (f.nm.toList == s.toList) = false := by simpa using hb
        clear hb
        go_wp2
        go_roundw
        case rel => exact ⟨⟨k + 1, by omega, by go_num, HE⟩, by trivial⟩
        case measure => simp [intOf]; omega
    · have i1 : ¬ ((k : Nat) : Int) < ((fs.length : Nat) : Int) := by omega
      have HE2 : Hid (findD fs s 0 = none) := hide (by rw [unhide HE, List.drop_eq_nil_of_le (by omega)]; rfl)
      go_wp2
      go_ret3
      refine ⟨?_, unhide HB1⟩
      rw [unhide HFB, unhide HE2]
      rfl

/-! ### Parse -/
/-- The first of some types that is written so. -/
def parseR (T : List Cl) (s : ByteArray) : List Nat → Nat × Bool
  | [] => (0, false)
  | t :: l => if ((printD T t).toList == s.toList) = true then (t, true) else parseR T s l

set_option maxHeartbeats 1000000 in
theorem refParse_any (ao : Option Addr) (cap : Nat) (T : List Cl) (s : ByteArray) (w : World) (hT : TabAt w ao T) :
    Calls Tryd.prog 29 #[.slice ao T.length cap, .string s] w fun e w' => e = .returned (.tuple #[.int .u8 ((parseR T s (allD T.length)).1 : Int), .bool (parseR T s (allD T.length)).2]) ∧ Below w.heap.size w w' := by
  have HT := hide hT
  clear hT
  go_enter Tryd.func29, Tryd.ntmps29
  go_wp2_with fail
  refine (all_any ao cap T.length _).mono ?_
  rintro e w1 ⟨v, rfl, hO, hB1⟩
  have HLt : Hid (∀ x ∈ allD T.length, x < 256) := hide (fun x hx => by unfold allD at hx; exact List.mem_range.1 (List.mem_filter.1 hx).1)
  have hL256 : (allD T.length).length ≤ 256 := allK_length _ 256
  obtain ⟨L, HLD⟩ : ∃ L, Hid (allD T.length = L) := ⟨_, hide rfl⟩
  rw [unhide HLD] at hO HLt hL256
  obtain ⟨la, lc, rfl, hLc⟩ := hO.slice
  have HLc := hide hLc
  have HB1 := hide hB1
  have HT1 := hide ((unhide HT).below hB1)
  have HE : Hid (parseR T s L = parseR T s (L.drop 0)) := hide rfl
  clear hO hLc hB1 HT
  go_wp2
  go_loopw [7] (fun i wr => (∃ k : Nat, k ≤ L.length ∧ i = .int .i64 (k : Int) ∧ Hid (parseR T s L = parseR T s (L.drop k))) ∧ wr = w1) (fun i _ => L.length - (intOf i).toNat)
  case atStart => exact ⟨⟨0, by omega, rfl, HE⟩, rfl⟩
  case round =>
    clear HE
    obtain ⟨⟨k, hk, rfl, HE⟩, rfl⟩ := hrel
    by_cases hlt : k < L.length
    · have j1 : ((k : Nat) : Int) < ((L.length : Nat) : Int) := by omega
      obtain ⟨g, rfl, hcj⟩ := unhide HLc k _ (List.getElem?_eq_getElem hlt)
      have ht := unhide HLt _ (List.getElem_mem hlt)
      have HS : Hid (parseR T s (L.drop k) = if ((printD T L[k]).toList == s.toList) = true then (L[k], true) else parseR T s (L.drop (k + 1))) := hide (by rw [List.drop_eq_getElem_cons hlt, parseR])
      rw [unhide HS] at HE
      generalize L[k] = t at hcj ht HE
      clear HS
      go_wp2_with fail
      with_reducible refine (refPrint_any ao cap T t _ (unhide HT1) ht).mono ?_
      rintro e w2 ⟨rfl, rfl⟩
      generalize printD T t = z at HE
      by_cases hb : (z.toList == s.toList) = true
      · rw [if_pos hb] at HE
        go_wp2
        go_ret2
        refine ⟨?_, unhide HB1⟩
        rw [unhide HLD, unhide HE]
        rfl
      · rw [if_neg hb] at HE
        have hb' : (z.toList == s.toList) = false := by simpa using hb
        clear hb
        go_wp2
        go_roundw
        case rel => exact ⟨⟨k + 1, by omega, by go_num, HE⟩, by trivial⟩
        case measure => simp [intOf]; omega
    · have j1 : ¬ ((k : Nat) : Int) < ((L.length : Nat) : Int) := by omega
      have HE2 : Hid (parseR T s L = (0, false)) := hide (by rw [unhide HE, List.drop_eq_nil_of_le (by omega)]; rfl)
      go_wp2
      go_ret2
      refine ⟨?_, unhide HB1⟩
      rw [unhide HLD, unhide HE2]
      rfl

theorem allD_eq (n : Nat) (hn : n ≤ 32) : allD n = [0, 1, 2, 3, 4, 5] ++ (List.range n).map (16 + ·) := by
  have h : ∀ m ∈ List.range 33, allD m = [0, 1, 2, 3, 4, 5] ++ (List.range m).map (16 + ·) := by decide +kernel
  exact h n (List.mem_range.2 (by omega))
def six : List ByteArray := [wordD 0, wordD 1, wordD 2, wordD 3, wordD 4, wordD 5]
theorem parse_classes {T : List Cl} {s : ByteArray} : ∀ (m k : Nat), k + m = T.length → parseR T s ((List.range' k m).map (16 + ·)) = match findN ((T.map Cl.nm).drop k) s k with | some c => (16 + c, true) | none => (0, false)
  | 0, k, h => by
    rw [List.drop_eq_nil_of_le (by simp; omega)]
    rfl
  | m + 1, k, h => by
    have hk : k < T.length := by omega
    rw [List.range'_succ, List.map_cons, parseR, List.drop_eq_getElem_cons (by simpa using hk), findN]
    have hp : printD T (16 + k) = T[k].nm := by
      unfold printD
      rw [if_neg (by omega), if_pos (by omega), show 16 + k - 16 = k from by omega, List.getElem?_eq_getElem hk]
    rw [hp, parse_classes m (k + 1) (by omega)]
    simp only [List.getElem_map]
    by_cases hb : (T[k].nm.toList == s.toList) = true
    · rw [if_pos hb, if_pos hb]
    · rw [if_neg hb, if_neg hb]
theorem parse_same {T : List Cl} (hn : T.length ≤ 32) (s : ByteArray) : parseR T s (allD T.length) = parseD six T s := by
  rw [allD_eq _ hn]
  have hc := parse_classes (T := T) (s := s) T.length 0 (by omega)
  rw [List.drop_zero, ← List.range_eq_range'] at hc
  have hp : ∀ t, t ≤ 5 → printD T t = wordD t := fun t ht => by unfold printD; rw [if_pos ht]
  unfold parseD six
  simp only [List.cons_append, List.nil_append, parseR, hp 0 (by omega), hp 1 (by omega), hp 2 (by omega), hp 3 (by omega), hp 4 (by omega), hp 5 (by omega), findN, hc]
  by_cases b0 : ((wordD 0).toList == s.toList) = true
  · rw [if_pos b0, if_pos b0]
  · rw [if_neg b0, if_neg b0]
    by_cases b1 : ((wordD 1).toList == s.toList) = true
    · rw [if_pos b1, if_pos b1]
    · rw [if_neg b1, if_neg b1]
      by_cases b2 : ((wordD 2).toList == s.toList) = true
      · rw [if_pos b2, if_pos b2]
      · rw [if_neg b2, if_neg b2]
        by_cases b3 : ((wordD 3).toList == s.toList) = true
        · rw [if_pos b3, if_pos b3]
        · rw [if_neg b3, if_neg b3]
          by_cases b4 : ((wordD 4).toList == s.toList) = true
          · rw [if_pos b4, if_pos b4]
          · rw [if_neg b4, if_neg b4]
            by_cases b5 : ((wordD 5).toList == s.toList) = true
            · rw [if_pos b5, if_pos b5]
            · rw [if_neg b5, if_neg b5]
              rfl
end Go.Proofs.YtggaecmjadkopabDoor
