/-
  Contracts of a reader's Byte, Word, Long, Take in one form each: value, error and place as plain functions of the bytes and the place. Conditions: lengths fit.
-/
import Derived.Test.YtkiijdcpfbnacaaGreatDoorWithin
namespace Go.Proofs.YtkiijdcpfbnacaaGreatDoor
open Go.RowKit
set_option maxRecDepth 20000

/-- The error, the value and the place behind of a number of n bytes. -/
def numE (l : List UInt8) (k n : Nat) : Int := if l.length - k < n then 2 else 0
def numV (l : List UInt8) (k n : Nat) : Int := if l.length - k < n then 0 else if n = 4 then s32 (beN ((l.drop k).take n)) else (beN ((l.drop k).take n) : Int)
def numK (l : List UInt8) (k n : Nat) : Nat := if l.length - k < n then k else k + n

/-- The error, the bytes and the place behind of n bytes. -/
def takeE (l : List UInt8) (k : Nat) (n : Int) : Int := if n < 0 then 1 else if ((l.length - k : Nat) : Int) < n then 2 else 0
def takeL (l : List UInt8) (k : Nat) (n : Int) : List UInt8 := if n < 0 then [] else if ((l.length - k : Nat) : Int) < n then [] else (l.drop k).take n.toNat
def takeK (l : List UInt8) (k : Nat) (n : Int) : Nat := if n < 0 then k else if ((l.length - k : Nat) : Int) < n then k else k + n.toNat

theorem s32_wrap (C : Nat) (h : C < 4294967296) : wrap64 (wrap32 (C : Int)) = s32 C := by
  unfold wrap64 wrap32 s32
  split <;> omega

theorem Byte_u {w : World} {p g cap : Nat} {l : List UInt8} {k : Nat} (h : IsReader w p g cap l k) :
    Calls Tryz.prog 105 #[.pointer (some ⟨p, 0, none⟩)] w fun e w' => e = .returned (.tuple #[.int .i64 (numV l k 1), .int .i64 (numE l k 1)]) ∧ IsReader w' p g cap l (numK l k 1) ∧ w.grownBy w' (some p) := by
  by_cases hs : l.length - k < 1
  · refine (Byte_err h hs).mono ?_
    rintro e w' ⟨rfl, j, rfl⟩
    exact ⟨by simp [numV, numE, hs], by rw [numK, if_pos hs]; exact h.drewN j, grown_drewN _ _ _⟩
  · refine (Byte_ok h (by omega)).mono ?_
    rintro e w' ⟨rfl, h1, h2⟩
    refine ⟨?_, by rw [numK, if_neg hs]; exact h1, h2⟩
    have e1 : ((beN ((l.drop k).take 1) : Nat) : Int) = at8 l k := by
      have hk : k < l.length := by omega
      have e : (l.drop k).take 1 = [l[k]] := by rw [List.drop_eq_getElem_cons hk]; rfl
      rw [e]
      unfold at8
      rw [List.getD_eq_getElem?_getD, List.getElem?_eq_getElem hk]
      simp [beN]
    rw [numV, if_neg hs, if_neg (by omega), e1, numE, if_neg hs]

theorem Word_u {w : World} {p g cap : Nat} {l : List UInt8} {k : Nat} (h : IsReader w p g cap l k) :
    Calls Tryz.prog 116 #[.pointer (some ⟨p, 0, none⟩)] w fun e w' => e = .returned (.tuple #[.int .i64 (numV l k 2), .int .i64 (numE l k 2)]) ∧ IsReader w' p g cap l (numK l k 2) ∧ w.grownBy w' (some p) := by
  by_cases hs : l.length - k < 2
  · rw [numV, numE, numK, if_pos hs, if_pos hs, if_pos hs]
    go_enter Tryz.func116, Tryz.ntmps116
    go_wp2_with fail
    refine (number_err h 2 (by omega)).mono ?_
    rintro e w' ⟨rfl, j, rfl⟩
    go_wp2
    go_ret2
    exact ⟨rfl, h.drewN _, grown_drewN _ _ _⟩
  · rw [numV, numE, numK, if_neg hs, if_neg hs, if_neg hs, if_neg (by omega)]
    have hb := beN_lt ((l.drop k).take 2)
    have hl : ((l.drop k).take 2).length = 2 := by simp; omega
    rw [hl] at hb
    go_enter Tryz.func116, Tryz.ntmps116
    go_wp2_with fail
    refine (number_ok h 2 (by omega) (by omega)).mono ?_
    rintro e w1 ⟨rfl, hR, hG⟩
    have HR := hide hR
    have HG := hide hG
    obtain ⟨C, HC⟩ : ∃ C, Hid (beN ((l.drop k).take 2) = C) := ⟨_, hide rfl⟩
    rw [unhide HC] at hb ⊢
    have hb' : (C : Int) < 65536 := by omega
    clear hR hG
    go_wp2
    go_ret2
    exact ⟨ret_num (by rw [unhide HC]), unhide HR, unhide HG⟩

theorem Long_u {w : World} {p g cap : Nat} {l : List UInt8} {k : Nat} (h : IsReader w p g cap l k) :
    Calls Tryz.prog 80 #[.pointer (some ⟨p, 0, none⟩)] w fun e w' => e = .returned (.tuple #[.int .i64 (numV l k 4), .int .i64 (numE l k 4)]) ∧ IsReader w' p g cap l (numK l k 4) ∧ w.grownBy w' (some p) := by
  by_cases hs : l.length - k < 4
  · rw [numV, numE, numK, if_pos hs, if_pos hs, if_pos hs]
    go_enter Tryz.func80, Tryz.ntmps80
    go_wp2_with fail
    refine (number_err h 4 (by omega)).mono ?_
    rintro e w' ⟨rfl, j, rfl⟩
    go_wp2
    go_ret2
    exact ⟨rfl, h.drewN _, grown_drewN _ _ _⟩
  · rw [numV, numE, numK, if_neg hs, if_neg hs, if_neg hs, if_pos rfl]
    have hb := beN_lt ((l.drop k).take 4)
    have hl : ((l.drop k).take 4).length = 4 := by simp; omega
    rw [hl] at hb
    go_enter Tryz.func80, Tryz.ntmps80
    go_wp2_with fail
    refine (number_ok h 4 (by omega) (by omega)).mono ?_
    rintro e w1 ⟨rfl, hR, hG⟩
    have HR := hide hR
    have HG := hide hG
    obtain ⟨C, HC⟩ : ∃ C, Hid (beN ((l.drop k).take 4) = C) := ⟨_, hide rfl⟩
    rw [unhide HC] at hb ⊢
    have hb' : (C : Int) < 4294967296 := by omega
    clear hR hG
    go_wp2
    go_ret2
    exact ⟨ret_num (by rw [unhide HC]; exact s32_wrap C (by omega)), unhide HR, unhide HG⟩

theorem Take_u {w : World} {p g cap : Nat} {l : List UInt8} {k : Nat} (h : IsReader w p g cap l k) (n : Int) :
    Calls Tryz.prog 84 #[.pointer (some ⟨p, 0, none⟩), .int .i64 n] w fun e w' => ∃ v, e = .returned (.tuple #[v, .int .i64 (takeE l k n)]) ∧ OwnB w' w.heap.size v (takeL l k n) ∧
      IsReader w' p g cap l (takeK l k n) ∧ w.grownBy w' (some p) := by
  by_cases h0 : n < 0
  · rw [takeE, takeL, takeK, if_pos h0, if_pos h0, if_pos h0]
    go_enter Tryz.func84, Tryz.ntmps84
    go_wp2_with (go_at_call 113; refine (next_arg h n h0).mono ?_; rintro e w' ⟨rfl, rfl⟩)
    go_ret2
    exact ⟨_, rfl, World.ownsRow_nil _ _ _ _, h, grown_refl _ _⟩
  by_cases h1 : ((l.length - k : Nat) : Int) < n
  · rw [takeE, takeL, takeK, if_neg h0, if_neg h0, if_neg h0, if_pos h1, if_pos h1, if_pos h1]
    go_enter Tryz.func84, Tryz.ntmps84
    go_wp2_with (go_at_call 113; refine (next_short h n h1).mono ?_; rintro e w' ⟨rfl, j, rfl⟩)
    go_ret2
    exact ⟨_, rfl, World.ownsRow_nil _ _ _ _, h.drewN _, grown_drewN _ _ _⟩
  · rw [takeE, takeL, takeK, if_neg h0, if_neg h0, if_neg h0, if_neg h1, if_neg h1, if_neg h1]
    obtain ⟨m, rfl⟩ := Int.eq_ofNat_of_zero_le (show 0 ≤ n by omega)
    rw [Int.toNat_natCast]
    have hm : m ≤ l.length - k := by omega
    have hlen : ((l.drop k).take m).length = m := by simp; omega
    have hfit := h.fit
    go_enter Tryz.func84, Tryz.ntmps84
    go_wp2_with fail
    refine (next_ok h m hm).mono ?_
    rintro e w1 ⟨ao, c, rfl, hb, hR, hG⟩
    generalize hL : (l.drop k).take m = L at hlen hb ⊢
    subst hlen
    have HL := hide hL
    clear hL
    go_wp2_with fail
    refine (copied_any ao c L _ hb (by omega)).mono ?_
    rintro e w2 ⟨rfl, hO, hB⟩
    go_wp2
    go_ret2
    exact ⟨_, rfl, by rw [unhide HL]; exact hO.mono hG.size, hR.below hB, grown_below_trans hG hB⟩
end Go.Proofs.YtkiijdcpfbnacaaGreatDoor
