/-
  The contracts of provisoref04.Name and provisoref04.Op. Conditions: none.
-/
import Derived.Test.YthdgbdjagjagpaaGreatDoorWd1
namespace Go.Proofs.YthdgbdjagjagpaaGreatDoor
open Go.RowKit
set_option maxRecDepth 20000

theorem infoS : (Tryz.prog.info? 9).map (fun i => (i.zero, i.size, i.bytes)) = some (some (.string ⟨#[]⟩), 1, 16) := by kernel_rfl

set_option maxRecDepth 100000 in
set_option maxHeartbeats 1000000 in
theorem refName_any (op : Nat) (w : World) (ho : op < 256) : Calls Tryz.prog 39 #[.int .u8 (op : Int)] w fun e w' => e = .returned (.string (nmD op)) ∧ Below w.heap.size w w' := by
  obtain ⟨ie, hie, hz0, hz1, _⟩ := info_parts infoS
  have HB : Hid (Below w.heap.size w (w.alloc (.cells wA34 9))) := hide ((Below.refl _ _).alloc (Nat.le_refl _) _)
  by_cases h : op < 34
  · have HR : Hid (nmD op = wC op) := hide (by unfold nmD; rw [if_pos h])
    have c0 := wA34_at op h
    generalize wC op = z at c0 HR
    have d1 : decide ((34 : Int) ≤ ((op : Nat) : Int)) = false := decide_eq_false (by omega)
    have i1 : ((op : Nat) : Int) < 34 := by omega
    go_enter Tryz.func39, Tryz.ntmps39
    go_wp2_with (refine wpList_buildSlice rfl 41 9 34 _ rfl wA34 ie (.string ⟨#[]⟩) Tryz.underlying41 hie hz0 (by rw [hz1]; decide) (by rw [hz1]; decide) (by rw [hz1]; kernel_rfl) ?_)
    go_ret
    exact ⟨by rw [unhide HR]; rfl, unhide HB⟩
  · have HR : Hid (nmD op = ⟨#[]⟩) := hide (by unfold nmD; rw [if_neg h])
    have d1 : decide ((34 : Int) ≤ ((op : Nat) : Int)) = true := decide_eq_true (by omega)
    go_enter Tryz.func39, Tryz.ntmps39
    go_wp2_with (refine wpList_buildSlice rfl 41 9 34 _ rfl wA34 ie (.string ⟨#[]⟩) Tryz.underlying41 hie hz0 (by rw [hz1]; decide) (by rw [hz1]; decide) (by rw [hz1]; kernel_rfl) ?_)
    go_ret
    exact ⟨by rw [unhide HR]; rfl, unhide HB⟩

set_option maxHeartbeats 1000000 in
theorem refOp_any (s : ByteArray) (w : World) : Calls Tryz.prog 56 #[.string s] w fun e w' => e = .returned (.tuple #[.int .u8 ((opD s).1 : Int), .bool (opD s).2]) ∧ Below w.heap.size w w' := by
  go_enter Tryz.func56, Tryz.ntmps56
  go_wp2
  go_loopw [4] (fun i wr => (∃ k : Nat, k ≤ 34 ∧ i = .int .u8 (k : Int) ∧ Hid (findW (wordsL.drop k) s k = opD s)) ∧ Hid (Below w.heap.size w wr)) (fun i _ => 34 - (intOf i).toNat)
  case atStart => exact ⟨⟨0, by omega, rfl, hide rfl⟩, hide (Below.refl _ _)⟩
  case round =>
    obtain ⟨⟨k, hk, rfl, HE⟩, HB⟩ := hrel
    by_cases hlt : k < 34
    · have i1 : ((k : Nat) : Int) < 34 := by omega
      have HN : Hid (nmD k = wC k) := hide (by unfold nmD; rw [if_pos hlt])
      go_wp2_with fail
      with_reducible refine (refName_any k _ (by omega)).mono ?_
      rintro e w2 ⟨rfl, hB2⟩
      have HB2 : Hid (Below w.heap.size w w2) := hide ((unhide HB).trans (hB2.mono (unhide HB).size))
      clear hB2 HB
      rw [unhide HN]
      cases hb : ((wC k).toList == s.toList)
      · have HE2 : Hid (findW (wordsL.drop (k + 1)) s (k + 1) = opD s) := hide (by rw [← findW_no s k hlt hb]; exact unhide HE)
        clear HE HN
        generalize wC k = z at hb ⊢
        go_wp2
        go_roundw
        case rel => exact ⟨⟨k + 1, by omega, by go_num, HE2⟩, HB2⟩
        case measure => simp [intOf]; omega
      · have HR : Hid (opD s = (k, true)) := hide (by rw [← unhide HE]; exact findW_yes s k hlt hb)
        clear HE HN
        generalize wC k = z at hb ⊢
        go_wp2
        go_ret2
        exact ⟨by rw [unhide HR]; rfl, unhide HB2⟩
    · have HR : Hid (opD s = (0, false)) := hide (by
        obtain rfl : k = 34 := by omega
        rw [← unhide HE]; exact findW_end s)
      have i1 : ¬ ((k : Nat) : Int) < 34 := by omega
      clear HE
      go_wp2
      go_ret2
      exact ⟨by rw [unhide HR]; rfl, unhide HB⟩
end Go.Proofs.YthdgbdjagjagpaaGreatDoor
