/-
  The walk of the law CodeWords: it returns true for every byte and text, and writes nothing that was there.
-/
import Derived.Test.YtihkodfcgfnjoabDoorWd2
namespace Go.Proofs.YtihkodfcgfnjoabDoor
open Go.RowKit

set_option maxHeartbeats 1000000 in
theorem walkCodeWords {w : World} (hW : WidAt w ∧ WordsC w) (op : Nat) (ho : op < 256) (s : ByteArray) (_ : s.size ≤ maxLen) (_ : s.size ≤ 140737488351232) :
    Calls Tryd.prog 3 #[.int .u8 (op : Int), .string s] w fun e w' => e = .returned (.bool true) ∧ Below w.heap.size w w' := by
  obtain ⟨hW1, hW2⟩ := hW
  have HW := hide hW1
  have HC := hide hW2
  clear hW1 hW2
  go_enter Tryd.func3, Tryd.ntmps3
  go_wp2_with fail
  with_reducible refine (Op_any s w (unhide HC)).mono ?_
  rintro e w0 ⟨rfl, hw0⟩
  obtain rfl : w = w0 := hw0.symm
  clear hw0
  go_wp2_with fail
  with_reducible refine (refOp_any s _).mono ?_
  rintro e w1 ⟨rfl, hB1⟩
  have HB1 := hide hB1
  have S1 := hide (Size_any op w1 ((unhide HW).below hB1) ho)
  have N1 := hide (fun k => Name_any op (w1.drewN k) (((unhide HC).below hB1).below (belowD (Below.refl _ _) k)) ho)
  have HW1 := hide ((unhide HW).below hB1)
  clear hB1 HC HW
  generalize (opD s).1 = x
  generalize (opD s).2 = y
  go_wp2_with (first
    | (go_at_call 9; with_reducible refine (unhide S1).mono ?_; rintro e w2 ⟨rfl, k1, rfl⟩)
    | (go_at_call 10; with_reducible refine (refSize_any op _).mono ?_; rintro e w3 ⟨rfl, rfl⟩)
    | (go_at_call 11; with_reducible refine (unhide N1 _).mono ?_; rintro e w4 ⟨rfl, rfl⟩))
  with_reducible refine (refName_any op _ ho).mono ?_
  rintro e w5 ⟨rfl, hB5⟩
  have HB5 : Hid (Below w.heap.size w w5) := hide ((belowD (unhide HB1) _).trans (hB5.mono (unhide HB1).size))
  have S5 := hide (Size_any 1 w5 (((unhide HW1).drewN k1).below hB5) (by omega))
  rw [show sizeD 1 = 5 from by decide, show (((1 : Nat)) : Int) = 1 from rfl] at S5
  clear hB5 S1 N1 HW1 HB1
  generalize nmD op = z
  have hz : (z.toList == z.toList) = true := by simp
  go_wp2_with (first
    | (go_at_call 13; with_reducible refine (Jumps_any op _).mono ?_; rintro e w6 ⟨rfl, rfl⟩)
    | (go_at_call 14; with_reducible refine (refJumps_any op _).mono ?_; rintro e w7 ⟨rfl, rfl⟩)
    | (go_at_call 15; with_reducible refine (Ends_any op _).mono ?_; rintro e w8 ⟨rfl, rfl⟩)
    | (go_at_call 16; with_reducible refine (refEnds_any op _).mono ?_; rintro e w9 ⟨rfl, rfl⟩)
    | (go_at_call 9; with_reducible refine (unhide S5).mono ?_; rintro e w10 ⟨rfl, k2, rfl⟩))
  go_ret
  exact ⟨ret_bool (by simp), belowD (unhide HB5) _⟩
end Go.Proofs.YtihkodfcgfnjoabDoor
