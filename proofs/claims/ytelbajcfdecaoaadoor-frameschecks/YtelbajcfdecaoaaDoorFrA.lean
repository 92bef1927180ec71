/-
  Contracts of frames.size and frames.shapeCanBe (and of provisoref03.Shape): what the plain functions say; nothing old is turned. Conditions: a frame's numbers fit an int.
-/
import Derived.Test.YtelbajcfdecaoaaDoorFr
namespace Go.Proofs.YtelbajcfdecaoaaDoor
open Go.RowKit
set_option maxRecDepth 20000

def shapeD (f : Fr) : Bool := decide (0 ≤ f.lo ∧ f.lo ≤ 16 ∧ 0 ≤ f.he ∧ f.he ≤ 24 - f.lo)
def nF (f : Fr) : Nat := (f.lo + f.he).toNat
theorem shapeD_iff {f : Fr} : shapeD f = true ↔ (0 ≤ f.lo ∧ f.lo ≤ 16 ∧ 0 ≤ f.he ∧ f.he ≤ 24 - f.lo) := by unfold shapeD; exact decide_eq_true_iff
theorem shapeD_no {f : Fr} (h : ¬ (0 ≤ f.lo ∧ f.lo ≤ 16 ∧ 0 ≤ f.he ∧ f.he ≤ 24 - f.lo)) : shapeD f = false := by unfold shapeD; exact decide_eq_false h

set_option maxHeartbeats 400000 in
theorem size_any (f : Fr) (w : World) (hs : shapeD f = true) :
    Calls Tryd.prog 42 #[.agg (frA f)] w fun e w' => e = .returned (.int .i64 (f.lo + f.he)) ∧ Below w.heap.size w w' := by
  obtain ⟨h0, h1, h2, h3⟩ := shapeD_iff.1 hs
  have c0 := frA_lo f
  have c1 := frA_he f
  clear hs
  go_enter Tryd.func42, Tryd.ntmps42
  go_wp2
  go_ret
  exact ⟨rfl, (Below.refl _ _).alloc (Nat.le_refl _) _⟩

set_option maxHeartbeats 400000 in
theorem shapeCanBe_any (f : Fr) (w : World) (hf : FrOk f) :
    Calls Tryd.prog 40 #[.agg (frA f)] w fun e w' => e = .returned (.bool (shapeD f)) ∧ Below w.heap.size w w' := by
  have c0 := frA_lo f
  have c1 := frA_he f
  obtain ⟨l1, l2⟩ := hf.lo
  obtain ⟨m1, m2⟩ := hf.he
  have hB : Below w.heap.size w (w.alloc (.cells (frA f) 26)) := (Below.refl _ _).alloc (Nat.le_refl _) _
  have HB := hide hB
  clear hf hB
  by_cases h0 : f.lo ≥ 0
  · by_cases h1 : f.lo ≤ 16
    · by_cases h2 : f.he ≥ 0
      · by_cases h3 : f.he ≤ 24 - f.lo
        · have HR : Hid (shapeD f = true) := hide (shapeD_iff.2 (by omega))
          go_enter Tryd.func40, Tryd.ntmps40
          go_wp2
          go_ret
          exact ⟨ret_bool (unhide HR).symm, unhide HB⟩
        · have HR : Hid (shapeD f = false) := hide (shapeD_no (by omega))
          go_enter Tryd.func40, Tryd.ntmps40
          go_wp2
          go_ret
          exact ⟨ret_bool (unhide HR).symm, unhide HB⟩
      · have HR : Hid (shapeD f = false) := hide (shapeD_no (by omega))
        go_enter Tryd.func40, Tryd.ntmps40
        go_wp2
        go_ret
        exact ⟨ret_bool (unhide HR).symm, unhide HB⟩
    · have HR : Hid (shapeD f = false) := hide (shapeD_no (by omega))
      go_enter Tryd.func40, Tryd.ntmps40
      go_wp2
      go_ret
      exact ⟨ret_bool (unhide HR).symm, unhide HB⟩
  · have HR : Hid (shapeD f = false) := hide (shapeD_no (by omega))
    go_enter Tryd.func40, Tryd.ntmps40
    go_wp2
    go_ret
    exact ⟨ret_bool (unhide HR).symm, unhide HB⟩
end Go.Proofs.YtelbajcfdecaoaaDoor
