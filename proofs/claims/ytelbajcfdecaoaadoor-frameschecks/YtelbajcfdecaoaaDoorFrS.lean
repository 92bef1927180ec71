/-
  The contract of provisoref03.Shape: what the plain function 'shapeD' says; nothing old is turned.
-/
import Derived.Test.YtelbajcfdecaoaaDoorFrA
namespace Go.Proofs.YtelbajcfdecaoaaDoor
open Go.RowKit
set_option maxRecDepth 20000

set_option maxHeartbeats 400000 in
theorem refShape_any (f : Fr) (w : World) (hf : FrOk f) :
    Calls Tryd.prog 44 #[.agg (frA f)] w fun e w' => e = .returned (.bool (shapeD f)) ∧ Below w.heap.size w w' := by
  have c0 := frA_lo f
  have c1 := frA_he f
  obtain ⟨l1, l2⟩ := hf.lo
  obtain ⟨m1, m2⟩ := hf.he
  have hB : Below w.heap.size w (w.alloc (.cells (frA f) 26)) := (Below.refl _ _).alloc (Nat.le_refl _) _
  have HB := hide hB
  clear hf hB
  by_cases h0 : f.lo ≥ 0
  · by_cases h1 : f.lo ≤ 16
    · by_cases h2 : f.he ≥ 0
      · by_cases h3 : f.lo + f.he ≤ 24
        · have HR : Hid (shapeD f = true) := hide (shapeD_iff.2 (by omega))
          have h4 : f.he ≤ 24 := by omega
          go_enter Tryd.func44, Tryd.ntmps44
          go_wp2
          go_ret
          exact ⟨ret_bool (unhide HR).symm, unhide HB⟩
        · have HR : Hid (shapeD f = false) := hide (shapeD_no (by omega))
          by_cases h4 : f.he ≤ 24
          · go_enter Tryd.func44, Tryd.ntmps44
            go_wp2
            go_ret
            exact ⟨ret_bool (unhide HR).symm, unhide HB⟩
          · go_enter Tryd.func44, Tryd.ntmps44
            go_wp2
            go_ret
            exact ⟨ret_bool (unhide HR).symm, unhide HB⟩
      · have HR : Hid (shapeD f = false) := hide (shapeD_no (by omega))
        go_enter Tryd.func44, Tryd.ntmps44
        go_wp2
        go_ret
        exact ⟨ret_bool (unhide HR).symm, unhide HB⟩
    · have HR : Hid (shapeD f = false) := hide (shapeD_no (by omega))
      go_enter Tryd.func44, Tryd.ntmps44
      go_wp2
      go_ret
      exact ⟨ret_bool (unhide HR).symm, unhide HB⟩
  · have HR : Hid (shapeD f = false) := hide (shapeD_no (by omega))
    go_enter Tryd.func44, Tryd.ntmps44
    go_wp2
    go_ret
    exact ⟨ret_bool (unhide HR).symm, unhide HB⟩
end Go.Proofs.YtelbajcfdecaoaaDoor
