/-
  The walk of the law LexScans: it returns true for every text, and writes nothing that was there.
-/
import Derived.Test.YtgnipgcligmpiaaDoorLx13
namespace Go.Proofs.YtgnipgcligmpiaaDoor
open Go.RowKit
set_option maxRecDepth 20000

set_option maxRecDepth 20000 in
set_option maxHeartbeats 2000000 in
theorem walkLexScans {w : World} (hW : SpAt w) (s : ByteArray) (_hs : s.size ≤ maxLen) (hz : s.size ≤ 140737488351232) :
    Calls Tryd.prog 3 #[.string s] w fun e w' => e = .returned (.bool true) ∧ Below w.heap.size w w' := by
  have HS1 := hide (ScanT_any s w hW hz)
  have HS2 := hide (fun W => refScanT_any s W hz)
  have HWy := hide (fun W => Why_any (scD s).2.1 (scD s).2.2 W (scD_z s))
  have hlen := scD_len s
  generalize scD s = R at HS1 HS2 HWy hlen
  obtain ⟨l, a, e⟩ := R
  simp only [] at HS1 HS2 HWy hlen
  obtain ⟨fv, HFV⟩ : ∃ fv, Hid (ftV a e = fv) := ⟨_, hide rfl⟩
  rw [unhide HFV] at HS1 HWy
  have b1 : (e == e) = true := beq_iff_eq.2 rfl
  have b2 : (((a : Nat) : Int) == ((a : Nat) : Int)) = true := beq_iff_eq.2 rfl
  clear hW _hs
  go_enter Tryd.func3, Tryd.ntmps3
  go_wp2_with fail
  refine (unhide HS1).mono ?_
  rintro e1 w1 ⟨v1, rfl, hO1, hB1⟩
  obtain ⟨ao, ac, rfl, hT1⟩ := hO1.at
  have HT1 := hide hT1
  have HB1 := hide hB1
  clear hO1 hB1 hT1 HS1
  go_wp2_with fail
  refine (unhide HS2 w1).mono ?_
  rintro e2 w2 ⟨v2, rfl, hO2, hB2⟩
  obtain ⟨bo, bc, rfl, hT2⟩ := hO2.at
  have HT2 := hide hT2
  have HT1 := hide ((unhide HT1).below hB2)
  have HB2 := hide ((unhide HB1).trans (hB2.mono (unhide HB1).size))
  clear hO2 hB2 hT2 HS2 HB1
  go_wp2_with fail
  refine (unhide HWy w2).mono ?_
  rintro e3 w3 ⟨rfl, hB3⟩
  have HE := hide (EqualTk_same ao bo ac bc l w3 ((unhide HT1).below hB3) ((unhide HT2).below hB3) (by omega))
  have HB3 := hide ((unhide HB2).trans (hB3.mono (unhide HB2).size))
  clear hB3 HWy HT1 HT2 HB2
  go_wp2_with fail
  refine (unhide HE).mono ?_
  rintro e4 w4 ⟨rfl, k, rfl⟩
  go_wp2
  go_ret
  exact ⟨rfl, belowD (unhide HB3) k⟩
end Go.Proofs.YtgnipgcligmpiaaDoor
