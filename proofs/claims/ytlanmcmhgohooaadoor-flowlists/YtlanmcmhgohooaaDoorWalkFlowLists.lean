/-
  The walk of the law FlowLists: it returns true for all instructions, and writes nothing that was there.
-/
import Derived.Test.YtlanmcmhgohooaaDoorFl3
namespace Go.Proofs.YtlanmcmhgohooaaDoor
open Go.RowKit
set_option maxRecDepth 20000

set_option maxHeartbeats 2000000 in
theorem walkFlowLists {w : World} (hW : WidAt w) (ao : Option Addr) (c : Nat) (l : List Ix) (hx : XsAt w ao l) (hn : ao = none → l = []) (hb : l.length * 32 ≤ 140737488351232) (hbd : ∀ x ∈ l, -9223372036854775808 ≤ x.a ∧ x.a ≤ 9223372036854775807) :
    Calls Tryd.prog 4 #[.slice ao l.length c] w fun e w' => e = .returned (.bool true) ∧ Below w.heap.size w w' := by
  have HX := hide hx
  have HW := hide hW
  have hz : l.length ≤ 4400000000000 := by omega
  have h1 := pts_len (tgs l)
  have h2 := tgs_len l
  have h3 := pts_len (behs l)
  have h4 := behs_len l
  have HC := hide (CloneX_any ao c l w hx hn (by omega))
  clear hx hW
  go_enter Tryd.func4, Tryd.ntmps4
  go_wp2_with fail
  refine (unhide HC).mono ?_
  rintro e w1 ⟨v, rfl, hO, hB1⟩
  obtain ⟨ga, gc, rfl, hgx⟩ := hO.at (unhide HX).ok
  have HG := hide hgx
  have HB := hide hB1
  have HTa := hide (Targets_any ga gc l w1 hgx hz hbd)
  clear hO hgx hB1 HC
  go_wp2_with fail
  refine (unhide HTa).mono ?_
  rintro e w2 ⟨v2, rfl, hO2, hB2⟩
  have B2 := hide hB2
  have O2 := hide hO2
  have HRt := hide (refTargets_any ao c l w2 ((unhide HX).below ((unhide HB).trans (hB2.mono (unhide HB).size))) hz)
  clear hO2 hB2 HTa
  go_wp2_with fail
  refine (unhide HRt).mono ?_
  rintro e w3 ⟨v3, rfl, hO3, hB3⟩
  have B3 := hide ((unhide B2).trans (hB3.mono (unhide B2).size))
  obtain ⟨a2, c2, rfl, j2, _⟩ := ((unhide O2).below hB3).at
  obtain ⟨a3, c3, rfl, j3, _⟩ := hO3.at
  have HEq := hide (EqualJ_same (c := c2) (d := c3) j2 j3 (by omega))
  clear hO3 hB3 HRt j2 j3 O2 B2
  go_wp2_with fail
  refine (unhide HEq).mono ?_
  rintro e w4 ⟨rfl, q4, rfl⟩
  have B4 : Hid (Below w1.heap.size w1 (w3.drewN q4)) := hide (belowD (unhide B3) _)
  generalize w3.drewN q4 = w4 at B4 ⊢
  have HBe := hide (Behind_any ga gc l w4 ((unhide HG).below (unhide B4)) ((unhide HW).below ((unhide HB).trans ((unhide B4).mono (unhide HB).size))) hz)
  clear HEq B3
  go_wp2_with fail
  refine (unhide HBe).mono ?_
  rintro e w5 ⟨v5, rfl, hO5, hB5⟩
  have B5 := hide ((unhide B4).trans (hB5.mono (unhide B4).size))
  have O5 := hide hO5
  have HRb := hide (refBehind_any ao c l w5 ((unhide HX).below ((unhide HB).trans ((unhide B5).mono (unhide HB).size))) hz)
  clear hO5 hB5 HBe B4
  go_wp2_with fail
  refine (unhide HRb).mono ?_
  rintro e w6 ⟨v6, rfl, hO6, hB6⟩
  have B6 := hide ((unhide B5).trans (hB6.mono (unhide B5).size))
  obtain ⟨a5, c5, rfl, j5, _⟩ := ((unhide O5).below hB6).at
  obtain ⟨a6, c6, rfl, j6, _⟩ := hO6.at
  have HEq := hide (EqualJ_same (c := c5) (d := c6) j5 j6 (by omega))
  clear hO6 hB6 HRb j5 j6 O5 B5
  go_wp2_with fail
  refine (unhide HEq).mono ?_
  rintro e w7 ⟨rfl, q7, rfl⟩
  have B7 : Hid (Below w1.heap.size w1 (w6.drewN q7)) := hide (belowD (unhide B6) _)
  generalize w6.drewN q7 = w7 at B7 ⊢
  have HEx := hide (EqualX_same ga ao gc c l w7 ((unhide HG).below (unhide B7)) ((unhide HX).below ((unhide HB).trans ((unhide B7).mono (unhide HB).size))) (by omega))
  clear HEq B6
  go_wp2_with fail
  refine (unhide HEx).mono ?_
  rintro e w8 ⟨rfl, q8, rfl⟩
  go_wp2
  go_ret
  exact ⟨rfl, belowD ((unhide HB).trans ((unhide B7).mono (unhide HB).size)) _⟩
end Go.Proofs.YtlanmcmhgohooaaDoor
