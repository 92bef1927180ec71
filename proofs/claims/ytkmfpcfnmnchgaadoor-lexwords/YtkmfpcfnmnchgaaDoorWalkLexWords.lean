/-
  The walk of the law LexWords: it returns true for every kind and text, and writes nothing that was there.
-/
import Derived.Test.YtkmfpcfnmnchgaaDoorLw1
import Derived.OpenShut
namespace Go.Proofs.YtkmfpcfnmnchgaaDoor
open Go.RowKit
set_option maxRecDepth 20000

set_option maxHeartbeats 1000000 in
theorem walkLexWords {w : World} (hW : SpAt w) (k : Int) (hk : (Lit.int .i64 k).wf = true) (s : ByteArray) (_hs : s.size ≤ maxLen) (_hz : s.size ≤ 140737488351232) :
    Calls Tryd.prog 4 #[.int .i64 k, .string s] w fun e w' => e = .returned (.bool true) ∧ Below w.heap.size w w' := by
  have HW := hide hW
  have hkb := bounds_i64 hk
  have HK := hide (Kind_any s w hW)
  have HR := hide (fun W => refKind_any s W)
  obtain ⟨a, HA⟩ : ∃ a, Hid (kdD s = a) := ⟨_, hide rfl⟩
  rw [unhide HA] at HK HR
  obtain ⟨a1, a2⟩ := a
  simp only at HK HR
  obtain ⟨z, HZ⟩ : ∃ z, Hid (wdK k = z) := ⟨_, hide rfl⟩
  have HW1 := hide (fun W h => Word_any k W h)
  have HW2 := hide (fun W => refWord_any k W hkb)
  have HW3 := hide (fun W h => Word_any 24 W h)
  rw [show wdK 24 = ⟨#[119, 104, 105, 108, 101]⟩ from rfl] at HW3
  rw [unhide HZ] at HW1 HW2
  have b1 : (((a1 : Nat) : Int) == ((a1 : Nat) : Int)) = true := beq_iff_eq.2 rfl
  have b2 : (a2 == a2) = true := by cases a2 <;> rfl
  have b3 : (z.toList == z.toList) = true := by simp
  clear hW hk
  go_enter Tryd.func4, Tryd.ntmps4
  go_wp2_with fail
  refine (unhide HK).mono ?_
  rintro e w1 ⟨rfl, rfl⟩
  go_wp2_with fail
  refine (unhide HR w1).mono ?_
  rintro e w2 ⟨rfl, hB2⟩
  have HB2 := hide hB2
  have HS2 := hide ((unhide HW).below hB2)
  clear hB2
  go_wp2_with fail
  refine (unhide HW1 w2 (unhide HS2)).mono ?_
  rintro e w3 ⟨rfl, hw3⟩
  subst hw3
  go_wp2_with fail
  refine (unhide HW2 w3).mono ?_
  rintro e w4 ⟨rfl, hB4⟩
  have HB4 := hide ((unhide HB2).trans (hB4.mono (unhide HB2).size))
  have HS4 := hide ((unhide HS2).below hB4)
  clear hB4
  go_wp2_with fail
  refine (unhide HW3 w4 (unhide HS4)).mono ?_
  rintro e w5 ⟨rfl, hw5⟩
  subst hw5
  go_wp2
  go_ret
  exact ⟨rfl, unhide HB4⟩
end Go.Proofs.YtkmfpcfnmnchgaaDoor
