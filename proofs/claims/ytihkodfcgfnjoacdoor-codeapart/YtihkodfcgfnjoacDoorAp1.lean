/-
  The words of the instructions are unlike, and so are the bytes of unlike instructions, as far as the shorter goes. No Go in it.
-/
import Derived.Test.YtihkodfcgfnjoacDoorWd1
import Derived.Test.YtihkodfcgfnjoacDoorIn14
namespace Go.Proofs.YtihkodfcgfnjoacDoor
open Go.RowKit

theorem words_fin : ∀ i : Fin 34, ∀ j : Fin 34, ((wC i.val).data.toList == (wC j.val).data.toList) = decide (i.val = j.val) := by decide +kernel
theorem words_apart (i j : Nat) (hi : i < 34) (hj : j < 34) : ((wC i).toList == (wC j).toList) = decide (i = j) := by
  rw [ByteArray.toList_eq, ByteArray.toList_eq]
  exact words_fin ⟨i, hi⟩ ⟨j, hj⟩
theorem find_word (r : Nat) (hr : r < 34) : ∀ d k, k + d = r → findW (wordsL.drop k) (wC r) k = (r, true)
  | 0, k, h => by
    obtain rfl : k = r := by omega
    exact findW_yes _ k hr (by rw [words_apart k k hr hr]; simp)
  | d + 1, k, h => by
    rw [findW_no _ k (by omega) (by rw [words_apart k r (by omega) hr]; exact decide_eq_false (by omega))]
    exact find_word r hr d (k + 1) (by omega)
theorem op_word (r : Nat) (hr : r < 34) : opD (wC r) = (r, true) := find_word r hr r 0 (by omega)

theorem enc_apart (r1 r2 : Nat) (A1 B1 A2 B2 : Int) (h1 : r1 < 34) (h2 : r2 < 34) (i1 : inD r1 A1 B1 = true) (i2 : inD r2 A2 B2 = true) (n : Nat) (hn : n = min (encL r1 A1 B1).length (encL r2 A2 B2).length) :
    ((encL r1 A1 B1).take n == (encL r2 A2 B2).take n) = (decide (r1 = r2) && decide (A1 = A2) && decide (B1 = B2)) := by
  have l1 := encL_length r1 A1 B1
  have l2 := encL_length r2 A2 B2
  by_cases hs : r1 = r2 ∧ A1 = A2 ∧ B1 = B2
  · obtain ⟨rfl, rfl, rfl⟩ := hs
    simp
  · have hne : (encL r1 A1 B1).take n ≠ (encL r2 A2 B2).take n := fun h => by
      obtain ⟨m, rfl⟩ : ∃ m, n = m + 1 := ⟨n - 1, by omega⟩
      have h0 : UInt8.ofNat r1 = UInt8.ofNat r2 := by
        unfold encL at h
        rw [List.take_succ_cons, List.take_succ_cons] at h
        injection h
      have e1 : (UInt8.ofNat r1).toNat = r1 := UInt8.toNat_ofNat_of_lt' (by show r1 < 256; omega)
      have e2 : (UInt8.ofNat r2).toNat = r2 := UInt8.toNat_ofNat_of_lt' (by show r2 < 256; omega)
      have er : r1 = r2 := by rw [← e1, h0, e2]
      subst er
      have hl : (encL r1 A1 B1).length = m + 1 := by omega
      have hl2 : (encL r1 A2 B2).length = m + 1 := by omega
      rw [List.take_of_length_le (by omega), List.take_of_length_le (by omega)] at h
      obtain ⟨_, a1, b1⟩ := dec_of_enc r1 A1 B1 h1 i1 []
      obtain ⟨_, a2, b2⟩ := dec_of_enc r1 A2 B2 h1 i2 []
      unfold encL at h
      injection h with _ h
      rw [h] at a1 b1
      exact hs ⟨rfl, a1.symm.trans a2, b1.symm.trans b2⟩
    rw [beq_eq_false_iff_ne.2 hne]
    symm
    simp
    omega
end Go.Proofs.YtihkodfcgfnjoacDoor
