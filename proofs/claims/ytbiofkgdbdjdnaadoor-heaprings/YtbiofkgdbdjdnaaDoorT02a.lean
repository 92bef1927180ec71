/-
  Contracts of provisoref02's word, isWord, Valid, Stored and has: each answers what the plain function says, in the same world. Conditions: a type is a byte; the fields fit.
-/
import Derived.Test.YtbiofkgdbdjdnaaDoorCls
namespace Go.Proofs.YtbiofkgdbdjdnaaDoor
open Go.RowKit
set_option maxRecDepth 20000

def wordD : Nat → ByteArray
  | 0 => ⟨#[116, 111, 112]⟩
  | 1 => ⟨#[105, 110, 116]⟩
  | 2 => ⟨#[98, 111, 111, 108]⟩
  | 3 => ⟨#[110, 117, 108, 108]⟩
  | 4 => ⟨#[105, 110, 116, 115]⟩
  | 5 => ⟨#[97, 110, 121]⟩
  | _ => ⟨#[]⟩
def isWordD (s : ByteArray) : Bool := (List.range 6).any fun t => (wordD t).toList == s.toList

theorem word_any (t : Nat) (w : World) (ht : t ≤ 5) :
    Calls Tryd.prog 114 #[.int .u8 (t : Int)] w fun e w' => e = .returned (.string (wordD t)) ∧ w' = w := by
  rcases (show t = 0 ∨ t = 1 ∨ t = 2 ∨ t = 3 ∨ t = 4 ∨ t = 5 by omega) with rfl | rfl | rfl | rfl | rfl | rfl <;>
  · clear ht
    go_enter Tryd.func114, Tryd.ntmps114
    go_wp2
    go_ret
    exact ⟨rfl, rfl⟩

theorem isWord_any (s : ByteArray) (w : World) :
    Calls Tryd.prog 95 #[.string s] w fun e w' => e = .returned (.bool (isWordD s)) ∧ w' = w := by
  go_enter Tryd.func95, Tryd.ntmps95
  go_wp2
  go_loopw [3] (fun i wr => (∃ k : Nat, k ≤ 6 ∧ i = .int .u8 (k : Int) ∧ Hid (∀ j, j < k → ((wordD j).toList == s.toList) = false)) ∧ wr = w) (fun i _ => 6 - (intOf i).toNat)
  case atStart => exact ⟨⟨0, by omega, rfl, hide (fun j h => by omega)⟩, rfl⟩
  case round =>
    obtain ⟨⟨k, hk, rfl, HK⟩, rfl⟩ := hrel
    by_cases hlt : k ≤ 5
    · have i1 : ((k : Nat) : Int) ≤ 5 := by omega
      by_cases hb : ((wordD k).toList == s.toList) = true
      · have HR : Hid (isWordD s = true) := hide (by unfold isWordD; rw [List.any_eq_true]; exact ⟨k, List.mem_range.2 (by omega), hb⟩)
        go_wp2_with fail
        refine (word_any k _ hlt).mono ?_
        rintro e w2 ⟨rfl, rfl⟩
        generalize wordD k = z at hb
        go_wp2
        go_ret
        exact ⟨ret_bool (unhide HR).symm, rfl⟩
      · have hb' : ((wordD k).toList == s.toList) = false := by simpa using hb
        have HK2 : Hid (∀ j, j < k + 1 → ((wordD j).toList == s.toList) = false) := hide (fun j hj => by
          by_cases e : j = k
          · rw [e]; exact hb'
          · exact unhide HK j (by omega))
        clear hb
        go_wp2_with fail
        refine (word_any k _ hlt).mono ?_
        rintro e w2 ⟨rfl, rfl⟩
        generalize wordD k = z at hb'
        go_wp2
        go_roundw
        case rel => exact ⟨⟨k + 1, by omega, by go_num, HK2⟩, by trivial⟩
        case measure => simp [intOf]; omega
    · have HR : Hid (isWordD s = false) := hide (by
        unfold isWordD
        rw [List.any_eq_false]
        intro j hj
        rw [unhide HK j (by have := List.mem_range.1 hj; omega)]
        simp)
      have i1 : ¬ ((k : Nat) : Int) ≤ 5 := by omega
      go_wp2
      go_ret
      exact ⟨ret_bool (unhide HR).symm, rfl⟩

theorem validD_lo {n t : Nat} (h : t ≤ 5) : validD n t = true := decide_eq_true (Or.inl h)
theorem validD_hi {n t : Nat} (h1 : 16 ≤ t) (h2 : t - 16 < n) : validD n t = true := decide_eq_true (Or.inr ⟨h1, h2⟩)
theorem validD_no {n t : Nat} (h1 : ¬ t ≤ 5) (h2 : ¬ (16 ≤ t ∧ t - 16 < n)) : validD n t = false := decide_eq_false (fun h => by omega)

theorem refValid_any (ao : Option Addr) (c n t : Nat) (w : World) (ht : t < 256) :
    Calls Tryd.prog 115 #[.slice ao n c, .int .u8 (t : Int)] w fun e w' => e = .returned (.bool (validD n t)) ∧ w' = w := by
  by_cases h1 : t ≤ 5
  · have HR := hide (validD_lo (n := n) h1)
    have i1 : ((t : Nat) : Int) ≤ 5 := by omega
    go_enter Tryd.func115, Tryd.ntmps115
    go_wp2
    go_ret
    exact ⟨ret_bool (unhide HR).symm, rfl⟩
  · have i1 : ¬ ((t : Nat) : Int) ≤ 5 := by omega
    by_cases h2 : 16 ≤ t
    · have i2 : ((t : Nat) : Int) ≥ 16 := by omega
      by_cases h3 : t - 16 < n
      · have HR := hide (validD_hi (n := n) h2 h3)
        go_enter Tryd.func115, Tryd.ntmps115
        go_wp2
        go_ret
        refine ⟨ret_bool ?_, rfl⟩
        rw [unhide HR]
        simp
        omega
      · have HR := hide (validD_no (n := n) h1 (by omega))
        go_enter Tryd.func115, Tryd.ntmps115
        go_wp2
        go_ret
        refine ⟨ret_bool ?_, rfl⟩
        rw [unhide HR]
        simp
        omega
    · have i2 : ¬ ((t : Nat) : Int) ≥ 16 := by omega
      have HR := hide (validD_no (n := n) h1 (by omega))
      go_enter Tryd.func115, Tryd.ntmps115
      go_wp2
      go_ret
      exact ⟨ret_bool (unhide HR).symm, rfl⟩

theorem Stored_any (ao : Option Addr) (c n t : Nat) (w : World) (ht : t < 256) :
    Calls Tryd.prog 97 #[.slice ao n c, .int .u8 (t : Int)] w fun e w' => e = .returned (.bool (storedD n t)) ∧ w' = w := by
  go_enter Tryd.func97, Tryd.ntmps97
  go_wp2_with fail
  refine (refValid_any ao c n t _ ht).mono ?_
  rintro e w2 ⟨rfl, rfl⟩
  by_cases hv : validD n t = true
  · by_cases h0 : t = 0
    · have HR : Hid (storedD n t = false) := hide (by unfold storedD; simp [h0])
      have hb : (((t : Nat) : Int) != 0) = false := bne_f (by omega)
      clear h0
      go_wp2
      go_ret
      exact ⟨ret_bool (unhide HR).symm, rfl⟩
    · have hb : (((t : Nat) : Int) != 0) = true := bne_t (by omega)
      by_cases h3 : t = 3
      · have HR : Hid (storedD n t = false) := hide (by unfold storedD; simp [h3])
        have hb : (((t : Nat) : Int) != 3) = false := bne_f (by omega)
        clear h3 h0
        go_wp2
        go_ret
        exact ⟨ret_bool (unhide HR).symm, rfl⟩
      · have HR : Hid (storedD n t = true) := hide (by unfold storedD; simp [h3, h0, hv])
        have hb : (((t : Nat) : Int) != 3) = true := bne_t (by omega)
        clear h3 h0
        go_wp2
        go_ret
        exact ⟨ret_bool (unhide HR).symm, rfl⟩
  · have hv' : validD n t = false := by simpa using hv
    have HR : Hid (storedD n t = false) := hide (by unfold storedD; simp [hv'])
    clear hv
    go_wp2
    go_ret
    exact ⟨ret_bool (unhide HR).symm, rfl⟩

theorem hasD_snoc {fs : List Fl} {k : Nat} (s : ByteArray) (h : k < fs.length) : hasD (fs.take (k + 1)) s = (hasD (fs.take k) s || (fs[k].nm.toList == s.toList)) := by
  unfold hasD
  rw [← List.take_append_getElem h, List.any_append]
  simp
theorem hasD_found {fs : List Fl} {k : Nat} {s : ByteArray} (h : k < fs.length) (hb : (fs[k].nm.toList == s.toList) = true) : hasD fs s = true := by
  unfold hasD
  rw [List.any_eq_true]
  exact ⟨_, List.getElem_mem h, hb⟩

theorem has_any (fo : Option Addr) (fc : Nat) (fs : List Fl) (s : ByteArray) (w : World) (h : FsAt w fo fs) (hb : fs.length * 24 ≤ 140737488351232) :
    Calls Tryd.prog 96 #[.slice fo fs.length fc, .string s] w fun e w' => e = .returned (.bool (hasD fs s)) ∧ w' = w := by
  have hb' : fs.length < 9223372036854775807 := by omega
  clear hb
  go_enter Tryd.func96, Tryd.ntmps96
  go_wp2
  go_loopw [5] (fun i wr => (∃ k : Nat, k ≤ fs.length ∧ i = .int .i64 (k : Int) ∧ Hid (hasD (fs.take k) s = false)) ∧ wr = w) (fun i _ => fs.length - (intOf i).toNat)
  case atStart => exact ⟨⟨0, by omega, rfl, hide rfl⟩, rfl⟩
  case round =>
    obtain ⟨⟨k, hk, rfl, HK⟩, rfl⟩ := hrel
    by_cases hlt : k < fs.length
    · have i1 : ((k : Nat) : Int) < ((fs.length : Nat) : Int) := by omega
      obtain ⟨b, off, rfl, hx⟩ := h k _ (List.getElem?_eq_getElem hlt)
      have d0 := hx.c0
      by_cases hb : (fs[k].nm.toList == s.toList) = true
      · have HR := hide (hasD_found hlt hb)
        generalize fs[k].nm = z at hb d0
        clear hx
        go_wp2
        go_ret
        exact ⟨ret_bool (unhide HR).symm, rfl⟩
      · have hb2 : (fs[k].nm.toList == s.toList) = false := by simpa using hb
        have HK2 : Hid (hasD (fs.take (k + 1)) s = false) := hide (by rw [hasD_snoc s hlt, unhide HK, hb2]; rfl)
        generalize fs[k].nm = z at hb2 d0
        clear hx hb
        go_wp2
        go_roundw
        case rel => exact ⟨⟨k + 1, by omega, by go_num, HK2⟩, by trivial⟩
        case measure => simp [intOf]; omega
    · have HR : Hid (hasD fs s = false) := hide (by
        have := unhide HK
        rw [List.take_of_length_le (by omega)] at this
        exact this)
      have i1 : ¬ ((k : Nat) : Int) < ((fs.length : Nat) : Int) := by omega
      go_wp2
      go_ret
      exact ⟨ret_bool (unhide HR).symm, rfl⟩
end Go.Proofs.YtbiofkgdbdjdnaaDoor
