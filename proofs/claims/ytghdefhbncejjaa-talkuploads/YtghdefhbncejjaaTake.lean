/-
  Contracts of a reader's Byte, Word, Long, Take in one form each: value, error and place as plain functions of the bytes and the place. Conditions: lengths fit.
-/
import Derived.Test.YtghdefhbncejjaaWithin
namespace Go.Proofs.Ytghdefhbncejjaa
open Go.RowKit

/-- The error, the value and the place behind of a number of n bytes. -/
def numE (l : List UInt8) (k n : Nat) : Int := if l.length - k < n then 2 else 0
def numV (l : List UInt8) (k n : Nat) : Int := if l.length - k < n then 0 else if n = 4 then s32 (beN ((l.drop k).take n)) else (beN ((l.drop k).take n) : Int)
def numK (l : List UInt8) (k n : Nat) : Nat := if l.length - k < n then k else k + n

/-- The error, the bytes and the place behind of n bytes. -/
def takeE (l : List UInt8) (k : Nat) (n : Int) : Int := if n < 0 then 1 else if ((l.length - k : Nat) : Int) < n then 2 else 0
def takeL (l : List UInt8) (k : Nat) (n : Int) : List UInt8 := if n < 0 then [] else if ((l.length - k : Nat) : Int) < n then [] else (l.drop k).take n.toNat
def takeK (l : List UInt8) (k : Nat) (n : Int) : Nat := if n < 0 then k else if ((l.length - k : Nat) : Int) < n then k else k + n.toNat

theorem s32_wrap (C : Nat) (h : C < 4294967296) : wrap64 (wrap32 (C : Int)) = s32 C := by
  unfold wrap64 wrap32 s32
  split <;> omega

theorem Long_u {w : World} {p g cap : Nat} {l : List UInt8} {k : Nat} (h : IsReader w p g cap l k) :
    Calls Try.prog 46 #[.pointer (some ⟨p, 0, none⟩)] w fun e w' => e = .returned (.tuple #[.int .i64 (numV l k 4), .int .i64 (numE l k 4)]) ∧ IsReader w' p g cap l (numK l k 4) ∧ w.grownBy w' (some p) := by
  by_cases hs : l.length - k < 4
  · rw [numV, numE, numK, if_pos hs, if_pos hs, if_pos hs]
    go_enter Try.func46, Try.ntmps46
    go_wp2_with fail
    refine (number_err h 4 (by omega)).mono ?_
    rintro e w' ⟨rfl, j, rfl⟩
    go_wp2
    go_ret2
    exact ⟨rfl, h.drewN _, grown_drewN _ _ _⟩
  · rw [numV, numE, numK, if_neg hs, if_neg hs, if_neg hs, if_pos rfl]
    have hb := beN_lt ((l.drop k).take 4)
    have hl : ((l.drop k).take 4).length = 4 := by simp; omega
    rw [hl] at hb
    go_enter Try.func46, Try.ntmps46
    go_wp2_with fail
    refine (number_ok h 4 (by omega) (by omega)).mono ?_
    rintro e w1 ⟨rfl, hR, hG⟩
    have HR := hide hR
    have HG := hide hG
    obtain ⟨C, HC⟩ : ∃ C, Hid (beN ((l.drop k).take 4) = C) := ⟨_, hide rfl⟩
    rw [unhide HC] at hb ⊢
    have hb' : (C : Int) < 4294967296 := by omega
    clear hR hG
    go_wp2
    go_ret2
    exact ⟨ret_num (by rw [unhide HC]; exact s32_wrap C (by omega)), unhide HR, unhide HG⟩

end Go.Proofs.Ytghdefhbncejjaa
