/-
  The contract of wire.copied: a row of its own with the same bytes, never nil. Conditions: the length fits.
-/
import Derived.Test.YtkiijdcpfbnacaaGreatDoorMem
import Derived.Laws.CopyOwn
namespace Go.Proofs.YtkiijdcpfbnacaaGreatDoor
open Go.RowKit
set_option maxRecDepth 20000

theorem size8 : (Tryz.prog.info? 5).map (·.size) = some 1 := by kernel_rfl

theorem splice_all {α : Type} (L cs : List α) (h : L.length = cs.length) : splice L 0 cs = cs := by
  unfold splice
  rw [List.take_zero, List.nil_append, List.drop_eq_nil_of_le (by omega), List.append_nil]

set_option maxHeartbeats 400000 in
theorem copied_any (ao : Option Addr) (c : Nat) (l : List UInt8) (w : World) (hl : BAt w ao l) (hb : l.length ≤ 140737488355328) :
    Calls Tryz.prog 83 #[.slice ao l.length c] w fun e w' => e = .returned (.slice (some ⟨w.heap.size, 0, none⟩) l.length l.length) ∧
      OwnB w' w.heap.size (.slice (some ⟨w.heap.size, 0, none⟩) l.length l.length) l ∧ Below w.heap.size w w' := by
  obtain ⟨i0, hi, hz0, hz1, hz2⟩ := info_parts info8
  go_enter Tryz.func83, Tryz.ntmps83
  go_wp2_with (refine wpList_make_full _ rfl _ _ 22 rfl w.heap.size 5 i0 (.int .u8 0) 1 Tryz.underlying22 hi hz0 hz1 .i64 .i64 _ _ l.length rfl rfl rfl rfl (by rw [hz2]; omega) (by unfold maxLen; omega) (Nat.le_refl _) ?_)
  intro w1 hown1 hgrow1
  have hbel1 : Below w.heap.size w w1 := below_grown hgrow1 (Nat.le_refl _) (fun k e => by cases e)
  have hrow : ∃ cur : Array Value, w1.heap[w.heap.size]? = some (.cells cur 5 (0, 0)) ∧ cur.size = l.length := by
    rcases hown1.2 with ⟨h, _⟩ | ⟨g, cap, cur, hv, _, hh, _, _, hs, _⟩
    · cases h
    · injection hv with hv hv2 hv3
      injection hv with hv
      injection hv with hv
      subst hv hv3
      exact ⟨cur, hh, by omega⟩
  obtain ⟨cur, hcur, hcs⟩ := hrow
  have hcl : cur.toList.length = l.length := by simpa using hcs
  have hl1 : BAt w1 ao l := hl.below' hbel1
  have HC : Hid (w1.heap[w.heap.size]? = some (.cells cur.toList.toArray 5 (0, 0))) := hide (by simpa using hcur)
  clear hown1 hgrow1 hcur
  go_wp2_with (refine wpList_copy_splice rfl _ _ 22 22 rfl 5 Tryz.underlying22 size8 (some ⟨w.heap.size, 0, none⟩) ao l.length l.length l.length c rfl rfl w.heap.size 0 cur.toList 5 (unhide HC) (bvals l) ?d1 ?d2 ?d3 (bvals_one l) w.heap.size w hbel1 (Nat.le_refl _) ?_)
  case d1 => rw [bvals_length]; exact (Nat.min_self _).symm
  case d2 =>
    intro hpos
    rw [bvals_length] at hpos
    obtain ⟨b, off, rfl, hc⟩ := hl1.head hpos
    refine ⟨_, rfl, fun j v hj => ?_⟩
    have hjl : j < l.length := by
      have := (List.getElem?_eq_some_iff.1 hj).1
      rw [bvals_length] at this; exact this
    rw [bvals_get hjl] at hj
    injection hj with hj
    subst hj
    rw [Addr.add_lit]
    exact hc j hjl
  case d3 => rw [bvals_length]; omega
  · intro w2 H2 hbel2
    rw [splice_all _ _ (by rw [hcl, bvals_length])] at H2
    clear HC hl1
    have HO : Hid (OwnB w2 w.heap.size (.slice (some ⟨w.heap.size, 0, none⟩) l.length l.length) l) := hide ⟨by rw [bvals_length]; omega, .inr ⟨w.heap.size, l.length, _, rfl, Nat.le_refl _, unhide H2, Nat.le_refl _, by unfold maxLen; omega, by simp [bvals_length], by rw [List.take_of_length_le (by simp [bvals_length])]⟩⟩
    clear H2
    go_wp2
    go_ret
    exact ⟨rfl, unhide HO, hbel2⟩
end Go.Proofs.YtkiijdcpfbnacaaGreatDoor
