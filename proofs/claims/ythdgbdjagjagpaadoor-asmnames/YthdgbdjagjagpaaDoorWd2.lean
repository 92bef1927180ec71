/-
  The contracts of provisoref04.Name and provisoref04.Op. Conditions: none.
-/
import Derived.Test.YthdgbdjagjagpaaDoorWd1
namespace Go.Proofs.YthdgbdjagjagpaaDoor
open Go.RowKit
set_option maxRecDepth 20000

theorem infoS : (Tryd.prog.info? 9).map (fun i => (i.zero, i.size, i.bytes)) = some (some (.string ⟨#[]⟩), 1, 16) := by kernel_rfl

set_option maxRecDepth 100000 in
set_option maxHeartbeats 1000000 in
theorem refName_any (op : Nat) (w : World) (ho : op < 256) : Calls Tryd.prog 27 #[.int .u8 (op : Int)] w fun e w' => e = .returned (.string (nmD op)) ∧ Below w.heap.size w w' := by
  obtain ⟨ie, hie, hz0, hz1, _⟩ := info_parts infoS
  have HB : Hid (Below w.heap.size w (w.alloc (.cells wA34 9))) := hide ((Below.refl _ _).alloc (Nat.le_refl _) _)
  by_cases h : op < 34
  · have HR : Hid (nmD op = wC op) := hide (by unfold nmD; rw [if_pos h])
    have c0 := wA34_at op h
    generalize wC op = z at c0 HR
    have d1 : decide ((34 : Int) ≤ ((op : Nat) : Int)) = false := decide_eq_false (by omega)
    have i1 : ((op : Nat) : Int) < 34 := by omega
    go_enter Tryd.func27, Tryd.ntmps27
    go_wp2_with (refine wpList_buildSlice rfl 56 9 34 _ rfl wA34 ie (.string ⟨#[]⟩) Tryd.underlying56 hie hz0 (by rw [hz1]; decide) (by rw [hz1]; decide) (by rw [hz1]; kernel_rfl) ?_)
    go_ret
    exact ⟨by rw [unhide HR]; rfl, unhide HB⟩
  · have HR : Hid (nmD op = ⟨#[]⟩) := hide (by unfold nmD; rw [if_neg h])
    have d1 : decide ((34 : Int) ≤ ((op : Nat) : Int)) = true := decide_eq_true (by omega)
    go_enter Tryd.func27, Tryd.ntmps27
    go_wp2_with (refine wpList_buildSlice rfl 56 9 34 _ rfl wA34 ie (.string ⟨#[]⟩) Tryd.underlying56 hie hz0 (by rw [hz1]; decide) (by rw [hz1]; decide) (by rw [hz1]; kernel_rfl) ?_)
    go_ret
    exact ⟨by rw [unhide HR]; rfl, unhide HB⟩

end Go.Proofs.YthdgbdjagjagpaaDoor
