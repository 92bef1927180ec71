/-
  What Patch answers, plainly; bytes of one's own that others are laid over. No Go in it.
-/
import Derived.Test.YtihkodfcgfnjoacDoorIn13
import Derived.Test.YtihkodfcgfnjoacDoorIn14
import Derived.Test.YtihkodfcgfnjoacDoorApp
namespace Go.Proofs.YtihkodfcgfnjoacDoor
open Go.RowKit

/-- The byte at a place. -/
def opAt (L : List UInt8) (p : Int) : Nat := match L.drop p.toNat with | [] => 0 | x :: _ => x.toNat
/-- Patch's error and its bytes. -/
def ptE (L : List UInt8) (p t : Int) : Int :=
  if 4096 < L.length then 4 else if dcE L p = 0 then (if opAt L p = 19 ∨ opAt L p = 20 then (if 0 ≤ t ∧ t ≤ 65535 then 0 else 5) else 1) else dcE L p
def ptL (L : List UInt8) (p t : Int) : List UInt8 := if ptE L p t = 0 then splice L p.toNat [UInt8.ofNat (opAt L p), byI t 1, byI t 0] else []

theorem dE_good {x : UInt8} {t : List UInt8} (h : dE (x :: t) = 0) : x.toNat < 34 ∧ sizeD x.toNat ≤ t.length + 1 ∧ inD x.toNat (dA x.toNat t) (dB x.toNat t) = true := by
  unfold dE at h
  simp only [] at h
  by_cases h34 : x.toNat < 34
  · rw [if_pos h34] at h
    by_cases hs : (x :: t).length < sizeD x.toNat
    · rw [if_pos hs] at h; omega
    · rw [if_neg hs] at h
      cases hi : inD x.toNat (dA x.toNat t) (dB x.toNat t)
      · rw [hi] at h; simp at h
      · exact ⟨h34, by simp at hs; omega, rfl⟩
  · rw [if_neg h34] at h; omega
/-- Where Decode found an instruction: it is there. -/
theorem dc_good {L : List UInt8} {p : Int} (h : dcE L p = 0) : ∃ (k : Nat) (x : UInt8) (t : List UInt8), p = (k : Int) ∧ L.drop k = x :: t ∧ opAt L p = x.toNat ∧ dE (x :: t) = 0 ∧ dcV L p = #[.int .i64 (k : Int), .int .u8 (x.toNat : Int), .int .i64 (dA x.toNat t), .int .i64 (dB x.toNat t)] := by
  by_cases ho : p < 0 ∨ (L.length : Int) < p
  · unfold dcE at h; rw [if_pos ho] at h; omega
  obtain ⟨k, rfl⟩ : ∃ k : Nat, p = (k : Int) := ⟨p.toNat, by omega⟩
  unfold dcE at h
  rw [if_neg ho, Int.toNat_natCast] at h
  cases hd : L.drop k with
  | nil => rw [hd] at h; exact absurd h (by decide)
  | cons x t =>
    rw [hd] at h
    refine ⟨k, x, t, rfl, hd, ?_, h, ?_⟩
    · unfold opAt; rw [Int.toNat_natCast, hd]
    · unfold dcV
      rw [if_neg ho, Int.toNat_natCast, hd]
      unfold dV
      simp only []
      rw [if_pos h]
theorem opAt_lt (L : List UInt8) (p : Int) : opAt L p < 256 := by
  unfold opAt
  cases L.drop p.toNat with
  | nil => simp
  | cons x t => exact x.toNat_lt
theorem jump_wide {op : Nat} (h : op = 19 ∨ op = 20) : wA op = 2 ∧ wB op = 0 ∧ sizeD op = 3 := by
  rcases h with rfl | rfl <;> decide
theorem jump_in {op : Nat} (h : op = 19 ∨ op = 20) (t : Int) : eE op t 0 = if 0 ≤ t ∧ t ≤ 65535 then 0 else 5 := by
  have h34 : op < 34 := by omega
  unfold eE
  rw [if_pos h34]
  have e : inD op t 0 = decide (0 ≤ t ∧ t ≤ 65535) := by
    rcases h with rfl | rfl <;> simp [inD, loA, hiA, hiB, wA, wB]
  rw [e]
  simp
theorem jump_enc {op : Nat} (h : op = 19 ∨ op = 20) (t : Int) : encL op t 0 = [UInt8.ofNat op, byI t 1, byI t 0] := by
  obtain ⟨h1, h2, _⟩ := jump_wide h
  unfold encL
  rw [h1, h2]
  rfl
theorem dB_jump {op : Nat} (h : op = 19 ∨ op = 20) (t : List UInt8) : dB op t = 0 := by
  unfold dB
  rw [(jump_wide h).2.1, List.take_zero]
  rfl

theorem splice_front {α : Type} (X Y cs : List α) (k : Nat) (h : k + cs.length ≤ X.length) : splice (X ++ Y) k cs = splice X k cs ++ Y := by
  unfold splice
  rw [List.take_append_of_le_length (by omega), List.drop_append_of_le_length (by omega)]
  simp
theorem splice_bvals (L cs : List UInt8) (k : Nat) : splice (bvals L) k (bvals cs) = bvals (splice L k cs) := by
  unfold splice bvals
  simp
theorem own_spliced {w w' : World} {base g cap : Nat} {L cs : List UInt8} {k : Nat} {cur : Array Value} (hg : w.heap[g]? = some (.cells cur 5 (0, 0))) (h : OwnB w base (.slice (some ⟨g, 0, none⟩) L.length cap) L) (hk : k + cs.length ≤ L.length)
    (hw : w'.heap[g]? = some (.cells (splice cur.toList k (bvals cs)).toArray 5 (0, 0))) : OwnB w' base (.slice (some ⟨g, 0, none⟩) L.length cap) (splice L k cs) := by
  have hl : (splice L k cs).length = L.length := length_splice L k cs hk
  rcases h.2 with ⟨e, _⟩ | ⟨g', cap', cur', hv, hb, hh, hn, hm, hs, ht⟩
  · cases e
  · injection hv with e1 e2 e3
    injection e1 with e1
    injection e1 with e1
    subst e1 e3
    rw [hg] at hh
    injection hh with hh
    injection hh with hh
    subst hh
    have hsplit : cur.toList = bvals L ++ cur.toList.drop (L.length * 1) := by rw [← ht, List.take_append_drop]
    have hlen : (bvals L).length = L.length := bvals_length L
    have hcur : cur.toList.length = cap * 1 := by simpa using hs
    have e : splice cur.toList k (bvals cs) = bvals (splice L k cs) ++ cur.toList.drop (L.length * 1) := by
      rw [hsplit, splice_front _ _ _ _ (by rw [bvals_length, bvals_length]; exact hk), splice_bvals, ← hsplit]
    unfold OwnB
    rw [hl]
    refine ⟨by rw [bvals_length, hl]; omega, .inr ⟨g, cap, _, rfl, hb, hw, hn, hm, ?_, ?_⟩⟩
    · rw [e]
      simp only [List.size_toArray, List.length_append, bvals_length, hl, List.length_drop, hcur]
      omega
    · rw [e]
      simp only []
      rw [List.take_append_of_le_length (by rw [bvals_length, hl]; omega), List.take_of_length_le (by rw [bvals_length, hl]; omega)]
theorem set_two (L : List UInt8) (k : Nat) (x y z : UInt8) (r : List UInt8) (h : L.drop k = x :: y :: z :: r) (u v : UInt8) : (L.set (k + 1) u).set (k + 2) v = splice L k [x, u, v] := by
  have hk : k < L.length := by
    have := congrArg List.length h
    simp at this
    omega
  have hL : L = L.take k ++ x :: y :: z :: r := by rw [← h, List.take_append_drop]
  have hl : (L.take k).length = k := by rw [List.length_take]; omega
  have hd : L.drop (k + 3) = r := by rw [← List.drop_drop, h]; rfl
  unfold splice
  rw [show k + [x, u, v].length = k + 3 from rfl, hd]
  conv => lhs; rw [hL]
  rw [List.set_append_right _ _ (by omega), List.set_append_right _ _ (by omega), hl, show k + 1 - k = 1 by omega, show k + 2 - k = 2 by omega]
  rfl
end Go.Proofs.YtihkodfcgfnjoacDoor
