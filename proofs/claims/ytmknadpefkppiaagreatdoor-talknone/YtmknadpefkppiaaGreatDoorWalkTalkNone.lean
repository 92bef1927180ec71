/-
  The walk of the law TalkNone: no card, and a session that no call made; and the three variables that its row lays.
-/
import Derived.Test.YtmknadpefkppiaaGreatDoorMem
import Derived.Deep.Cut
import Derived.ProofKit
import Derived.LaidMore
import Derived.OpenShut
import Derived.Stop.Joined
namespace Go.Proofs.YtmknadpefkppiaaGreatDoor
open Go.ChangeShapes Go.WideShapes Go.ChangeAt Go.WideMaps Go.WideElems Go.RowKit
set_option maxRecDepth 20000
set_option linter.unusedVariables false

theorem of_laidN {W : World} (h : laidMetH Tryz.prog Rows.talkNoneRow.laid W) : True := trivial
theorem door_metN (os : Os) (args : Array Value) : laidMetH Tryz.prog Rows.talkNoneRow.laid ((World.doorLaid Tryz.prog 400 os).forCall (fun _ _ => 0) ⟨#[], args, []⟩).memory :=
  laidMetH_of_parts3 (fuel := 8) (laidMet_of_run' 8 (by kernel_rfl) (by kernel_rfl)) (by kernel_rfl) (by kernel_rfl)
theorem madeN_nil (w : World) : Calls Tryz.prog 7 #[.pointer none] w fun e w' => e = .returned (.bool false) ∧ w' = w := by
  go_enter Tryz.func7, Tryz.ntmps7
  go_wp2
  go_ret
  exact ⟨rfl, rfl⟩
theorem madeN_zero (w : World) (g : Nat) (hc : w.cell? ⟨g, 0, none⟩ = some (.pointer none)) : Calls Tryz.prog 7 #[.pointer (some ⟨g, 0, none⟩)] w fun e w' => e = .returned (.bool false) ∧ w' = w := by
  go_enter Tryz.func7, Tryz.ntmps7
  go_wp2
  go_ret
  exact ⟨rfl, rfl⟩
theorem handleN (v b : Value) (w : World) (h : Calls Tryz.prog 7 #[v] w fun e w' => e = .returned (.bool false) ∧ w' = w) : Calls Tryz.prog 5 #[v, b] w fun e w' => e = .returned (.slice none 0 0) ∧ w' = w := by
  have HM := hide h
  clear h
  go_enter Tryz.func5, Tryz.ntmps5
  go_wp2_with fail
  refine (unhide HM).mono ?_
  rintro e W ⟨rfl, hw⟩
  rw [hw]
  clear hw W
  go_wp2
  go_ret
  exact ⟨rfl, rfl⟩
theorem waitsN (v : Value) (w : World) (h : Calls Tryz.prog 7 #[v] w fun e w' => e = .returned (.bool false) ∧ w' = w) : Calls Tryz.prog 6 #[v] w fun e w' => e = .returned (.int .i64 0) ∧ w' = w := by
  have HM := hide h
  clear h
  go_enter Tryz.func6, Tryz.ntmps6
  go_wp2_with fail
  refine (unhide HM).mono ?_
  rintro e W ⟨rfl, hw⟩
  rw [hw]
  clear hw W
  go_wp2
  go_ret
  exact ⟨rfl, rfl⟩
theorem newN (w : World) : Calls Tryz.prog 4 #[.pointer none] w fun e w' => e = .returned (.tuple #[.pointer none, .int .i64 8]) ∧ w' = w := by
  go_enter Tryz.func4, Tryz.ntmps4
  go_wp2
  go_ret2
  exact ⟨rfl, rfl⟩
set_option maxHeartbeats 2000000 in
theorem walkTalkNone {w : World} (hW : True) (ao : Option Addr) (c : Nat) (l : List UInt8) (hd : BAt w ao l) (hn : ao = none → l = []) (hz : l.length ≤ 140737488351232) :
    Calls Tryz.prog 3 #[.slice ao l.length c] w fun e w' => e = .returned (.bool true) ∧ Below w.heap.size w w' := by
  have HN := hide (newN w)
  have HA : Hid (Below w.heap.size w (w.alloc (.cells #[.pointer none, .int .i64 0, .slice none 0 0, .slice none 0 0] 30))) := hide ((Below.refl _ w).alloc (Nat.le_refl _) _)
  have n1 := heap_alloc_new w (.cells #[.pointer none, .int .i64 0, .slice none 0 0, .slice none 0 0] 30)
  have HC : Hid ((w.alloc (.cells #[.pointer none, .int .i64 0, .slice none 0 0, .slice none 0 0] 30)).cell? ⟨w.heap.size, 0, none⟩ = some (.pointer none)) := hide (by rw [cell_of_row _ _ _ _ _ _ n1]; rfl)
  clear hd hn hz n1
  go_enter Tryz.func3, Tryz.ntmps3
  go_wp2_with fail
  refine (unhide HN).mono ?_
  rintro e W ⟨rfl, hw⟩
  rw [hw]
  clear hw W HN
  go_upto_region 6 with fail
  generalize (w.alloc (.cells #[.pointer none, .int .i64 0, .slice none 0 0, .slice none 0 0] 30)) = W1 at HA HC ⊢
  have H1 := hide (handleN (.pointer none) (.slice ao l.length c) W1 (madeN_nil W1))
  have H2 := hide (waitsN (.pointer none) W1 (madeN_nil W1))
  have H3 := hide (handleN (.pointer (some ⟨w.heap.size, 0, none⟩)) (.slice ao l.length c) W1 (madeN_zero W1 _ (unhide HC)))
  have H4 := hide (waitsN (.pointer (some ⟨w.heap.size, 0, none⟩)) W1 (madeN_zero W1 _ (unhide HC)))
  go_wp2_with fail
  refine (unhide H1).mono ?_
  rintro e W ⟨rfl, hw⟩
  rw [hw]
  clear hw W
  go_wp2_with fail
  refine (unhide H2).mono ?_
  rintro e W ⟨rfl, hw⟩
  rw [hw]
  clear hw W
  go_wp2_with fail
  refine (unhide H3).mono ?_
  rintro e W ⟨rfl, hw⟩
  rw [hw]
  clear hw W
  go_wp2_with fail
  refine (unhide H4).mono ?_
  rintro e W ⟨rfl, hw⟩
  rw [hw]
  clear hw W
  go_wp2
  go_ret
  exact ⟨rfl, unhide HA⟩
end Go.Proofs.YtmknadpefkppiaaGreatDoor
