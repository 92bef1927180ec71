/-
  Contracts of provisoplain.Roomy, provisoplain.Untouched and provisolaw01.pick: Roomy makes a row of its own with the bytes and four marks behind them, Untouched tells that they are there, pick is the remainder of an unsigned number. Conditions: lengths fit.
-/
import Derived.Test.YthdgbdjagjagpaaDoorMem
namespace Go.Proofs.YthdgbdjagjagpaaDoor
open Go.RowKit
set_option maxRecDepth 20000

/-- The bytes with the marks behind. -/
def roomy (l : List UInt8) : List UInt8 := l ++ [165, 90, 195, 60]
theorem roomy_length (l : List UInt8) : (roomy l).length = l.length + 4 := by simp [roomy]

theorem own_grown {w w' : World} {base : Nat} {v : Value} {l : List UInt8} {row : Option Nat} (h : OwnB w base v l) (hg : w.grownBy w' row) (hne : v.ownBlock = none ∨ v.ownBlock ≠ row) : OwnB w' base v l := h.kept hg hne

set_option maxHeartbeats 400000 in
theorem Roomy_any (ao : Option Addr) (c : Nat) (l : List UInt8) (w : World) (hl : BAt w ao l) (hn : ao = none → l = []) (hb : l.length ≤ 140737488351232) :
    Calls Tryd.prog 5 #[.slice ao l.length c] w fun e w' => ∃ g cap, e = .returned (.tuple #[.slice (some ⟨g, 0, none⟩) l.length cap, .slice (some ⟨g, 0, none⟩) (l.length + 4) cap]) ∧ w.heap.size ≤ g ∧
      OwnB w' w.heap.size (.slice (some ⟨g, 0, none⟩) (l.length + 4) cap) (roomy l) ∧ Below w.heap.size w w' := by
  obtain ⟨i0, hi, hz0, hz1, hz2⟩ := info_parts info8
  go_enter Tryd.func5, Tryd.ntmps5
  go_wp2_with fail
  refine (Clone_any ao c l _ hl hn (by omega)).mono ?_
  rintro e w1 ⟨v, rfl, hown, hbel, hnil⟩
  go_wp2_with (at_builtin; refine wpList_append_own _ rfl _ _ 22 rfl w.heap.size 5 i0 (.int .u8 0) 1 1 Tryd.underlying22 hi hz0 hz1 hz2 rfl (by decide) _ l.length (bvals l) rfl (hown.alloc _) ⟨w1.heap.size, 0, none⟩ 4 4 (bvals [165, 90, 195, 60]) rfl rfl ?c1 ?c2 ?c3 ?c4 ?c5 ?_)
  case c1 =>
    intro j u hj
    match j, hj with
    | 0, hj => simp [bvals] at hj; subst hj; simp [Addr.add]
    | 1, hj => simp [bvals] at hj; subst hj; simp [Addr.add]
    | 2, hj => simp [bvals] at hj; subst hj; simp [Addr.add]
    | 3, hj => simp [bvals] at hj; subst hj; simp [Addr.add]
    | j + 4, hj => simp [bvals] at hj
  case c2 => exact bvals_one _
  case c3 => unfold maxLen; omega
  case c4 => omega
  case c5 => have := hbel.size; simp; omega
  · intro v' w2 hown' hgrow hnil'
    rw [bvals_append] at hown'
    have ho : OwnB w2 w.heap.size v' (roomy l) := by
      unfold OwnB; rw [roomy_length]; exact hown'
    have hbel2 : Below w.heap.size w w2 := (hbel.alloc hbel.size _).trans (below_grown hgrow (by have := hbel.size; simp; omega) (fun k e => (hown.lt k e).1))
    rcases ho.shape with ⟨_, h2⟩ | ⟨g, cap, hv, hg1, hg2, hg3, hg4, hbat⟩
    · simp [roomy] at h2
    rw [roomy_length] at hv hg3
    subst hv
    have hlc : (l.length : Int) ≤ (cap : Int) := by omega
    clear hown' hgrow hnil' hown hnil
    go_wp2
    go_ret2
    exact ⟨g, cap, rfl, hg1, ho, hbel2⟩

theorem at8_mark (l : List UInt8) : at8 (roomy l) l.length = 165 ∧ at8 (roomy l) (l.length + 1) = 90 ∧ at8 (roomy l) (l.length + 2) = 195 ∧ at8 (roomy l) (l.length + 3) = 60 := by
  unfold at8 roomy
  simp only [List.getD_eq_getElem?_getD]
  refine ⟨?_, ?_, ?_, ?_⟩
  · rw [List.getElem?_append_right (by omega)]; simp
  · rw [List.getElem?_append_right (by omega)]; simp
  · rw [List.getElem?_append_right (by omega)]; simp
  · rw [List.getElem?_append_right (by omega)]; simp

set_option maxHeartbeats 400000 in
theorem Untouched_yes (g cap : Nat) (bo : Option Addr) (c' : Nat) (l : List UInt8) (w : World) (ha : BAt w (some ⟨g, 0, none⟩) (roomy l)) (hb : BAt w bo l) (hcap : l.length + 4 ≤ cap) (hcm : l.length ≤ 140737488355328) :
    Calls Tryd.prog 8 #[.slice (some ⟨g, 0, none⟩) (l.length + 4) cap, .slice bo l.length c'] w fun e w' => e = .returned (.bool true) ∧ ∃ k, w' = w.drewN k := by
  have hlc : (l.length : Int) ≤ (cap : Int) := by omega
  have hcell : ∀ i, i < l.length + 4 → w.cell? ⟨g, i, none⟩ = some (.int .u8 (at8 (roomy l) i)) := by
    intro i hi
    obtain ⟨b, off, e, hc⟩ := ha i (by rw [roomy_length]; exact hi)
    injection e with e
    injection e with e1 e2
    subst e1 e2
    rw [Nat.zero_add] at hc
    exact hc
  have m0 := hcell l.length (by omega)
  have m1 := hcell (l.length + 1) (by omega)
  have m2 := hcell (l.length + 2) (by omega)
  have m3 := hcell (l.length + 3) (by omega)
  obtain ⟨e0, e1, e2, e3⟩ := at8_mark l
  rw [e0] at m0
  rw [e1] at m1
  rw [e2] at m2
  rw [e3] at m3
  clear hcell e0 e1 e2 e3
  go_enter Tryd.func8, Tryd.ntmps8
  go_wp2_with fail
  refine (Equal_any (some ⟨g, 0, none⟩) bo cap c' l l _ ha.take hb (by unfold maxLen; omega) (by unfold maxLen; omega)).mono ?_
  rintro e w1 ⟨rfl, k, rfl⟩
  rw [show (l == l) = true from by simp]
  go_wp2
  go_ret
  exact ⟨rfl, k, rfl⟩

/-- The remainder of an int taken as an unsigned one. -/
def pickN (x : Int) (n : Nat) : Nat := ((IntKind.u64.wrap x).tmod (n : Int)).toNat

theorem pickN_eq (x : Int) (n : Nat) (hn : 0 < n) : (IntKind.u64.wrap x).tmod (n : Int) = (pickN x n : Int) ∧ pickN x n < n := by
  have h0 := wrap_u64_nonneg x
  have h1 : (IntKind.u64.wrap x).tmod (n : Int) = (IntKind.u64.wrap x) % (n : Int) := Int.tmod_eq_emod_of_nonneg h0
  have h2 : 0 ≤ (IntKind.u64.wrap x) % (n : Int) := Int.emod_nonneg _ (by omega)
  have h3 : (IntKind.u64.wrap x) % (n : Int) < n := Int.emod_lt_of_pos _ (by omega)
  unfold pickN
  rw [h1]
  omega
theorem pickN_lt (x : Int) (n : Nat) (hn : 0 < n) : pickN x n < n := (pickN_eq x n hn).2
theorem pick_wrap (x : Int) (n : Nat) (hn : 0 < n) (hn2 : n ≤ 140737488355328) : wrap64 ((IntKind.u64.wrap x).tmod (n : Int)) = (pickN x n : Int) := by
  obtain ⟨h1, h2⟩ := pickN_eq x n hn
  rw [h1]
  unfold wrap64
  omega
end Go.Proofs.YthdgbdjagjagpaaDoor
