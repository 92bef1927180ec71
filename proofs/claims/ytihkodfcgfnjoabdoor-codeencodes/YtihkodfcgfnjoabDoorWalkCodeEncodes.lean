/-
  The walk of the law CodeEncodes: it returns true for every instruction, and writes nothing that was there.
-/
import Derived.Test.YtihkodfcgfnjoabDoorIn6
namespace Go.Proofs.YtihkodfcgfnjoabDoor
open Go.RowKit

theorem eL_len (op : Nat) (a b : Int) : (eL op a b).length ≤ 6 := by
  unfold eL
  by_cases h0 : eE op a b = 0
  · rw [if_pos h0, encL_length]
    have h : op < 34 := by
      refine Decidable.byContradiction fun h => ?_
      unfold eE at h0
      rw [if_neg h] at h0
      omega
    have := wA_le op h
    have := wB_le op h
    omega
  · rw [if_neg h0]; simp

set_option maxHeartbeats 1000000 in
theorem walkCodeEncodes {w : World} (hW : WidAt w) (p : Int) (op : Nat) (a b : Int) (ho : op < 256) (_ : -9223372036854775808 ≤ a ∧ a ≤ 9223372036854775807) (_ : -9223372036854775808 ≤ b ∧ b ≤ 9223372036854775807) :
    Calls Tryd.prog 4 #[.agg #[.int .i64 p, .int .u8 (op : Int), .int .i64 a, .int .i64 b]] w fun e w' => e = .returned (.bool true) ∧ Below w.heap.size w w' := by
  have hlen := eL_len op a b
  have HB0 : Hid (Below w.heap.size w (w.alloc (.cells #[.int .i64 p, .int .u8 (op : Int), .int .i64 a, .int .i64 b] 29))) := hide ((Below.refl _ _).alloc (Nat.le_refl _) _)
  have HI : Hid (IAt (w.alloc (.cells #[.int .i64 p, .int .u8 (op : Int), .int .i64 a, .int .i64 b] 29)) w.heap.size p op a b) := hide (heap_alloc_new w _)
  have HW := hide (hW.below (unhide HB0))
  clear hW
  go_enter Tryd.func4, Tryd.ntmps4
  go_wp2_with fail
  generalize w.alloc (.cells #[.int .i64 p, .int .u8 (op : Int), .int .i64 a, .int .i64 b] 29) = w0 at HB0 HI HW ⊢
  with_reducible refine (Encode_any p op a b _ (unhide HW) ho).mono ?_
  rintro e w1 ⟨v, rfl, hO1, hB1⟩
  have HO1 := hide hO1
  have HI1 := hide ((unhide HI).below hB1)
  have HB1 := hide ((unhide HB0).trans (hB1.mono (unhide HB0).size))
  clear hO1 hB1 HW HI HB0
  have c0 := (unhide HI1).c0
  obtain ⟨c1, c2, c3⟩ := (unhide HI1).c
  go_wp2_with fail
  with_reducible refine (refEncode_any p op a b _ ho).mono ?_
  rintro e w2 ⟨v2, rfl, hO2, hB2⟩
  have hO1 := (unhide HO1).below hB2
  have HB2 := hide ((unhide HB1).trans (hB2.mono (unhide HB1).size))
  clear HO1 HB1 hB2 HI1 c0 c1 c2 c3
  obtain ⟨a1, c1, rfl, hb1⟩ := hO1.at
  obtain ⟨a2, c2, rfl, hb2⟩ := hO2.at
  have HE : Hid _ := hide (Equal_any a1 a2 c1 c2 (eL op a b) (eL op a b) w2 hb1 hb2 (by unfold maxLen; omega) (by unfold maxLen; omega))
  clear hO1 hO2 hb1 hb2 hlen
  go_wp2_with (first | (go_at_call 19; with_reducible refine (unhide HE).mono ?_; rintro e w3 ⟨rfl, k, rfl⟩))
  go_ret
  exact ⟨ret_bool (by simp), belowD (unhide HB2) _⟩
end Go.Proofs.YtihkodfcgfnjoabDoor
