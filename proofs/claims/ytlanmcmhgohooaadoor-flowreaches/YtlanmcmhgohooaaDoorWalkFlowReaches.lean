/-
  The walk of the law FlowReaches: it returns true for all instructions and every address, and writes nothing that was there.
-/
import Derived.Test.YtlanmcmhgohooaaDoorRc3
import Derived.Test.YtlanmcmhgohooaaDoorNr
import Derived.OpenShut
namespace Go.Proofs.YtlanmcmhgohooaaDoor
open Go.RowKit
set_option maxRecDepth 20000

set_option maxHeartbeats 2000000 in
theorem walkFlowReaches {w : World} (hW : WidAt w) (ao : Option Addr) (c : Nat) (l : List Ix) (hx : XsAt w ao l) (hn : ao = none → l = []) (hb : l.length * 32 ≤ 140737488351232) (hbp : ∀ x ∈ l, -9223372036854775808 ≤ x.p ∧ x.p ≤ 9223372036854775807) (hbd : ∀ x ∈ l, -9223372036854775808 ≤ x.a ∧ x.a ≤ 9223372036854775807) (s : Int) (hs : (Lit.int .i64 s).wf = true) :
    Calls Tryd.prog 5 #[.slice ao l.length c, .int .i64 s] w fun e w' => e = .returned (.bool true) ∧ Below w.heap.size w w' := by
  have HX := hide hx
  have HW := hide hW
  have hz : l.length ≤ 4400000000000 := by omega
  have HC := hide (CloneX_any ao c l w hx hn (by omega))
  have HR1 := hide (fun ga gc W h1 h2 => Reach_any ga gc l s W h1 h2 hz hbp hbd (bounds_i64 hs))
  clear hx hW hs hbp hbd
  go_enter Tryd.func5, Tryd.ntmps5
  go_wp2_with fail
  refine (unhide HC).mono ?_
  rintro e w1 ⟨v, rfl, hO, hB1⟩
  obtain ⟨ga, gc, rfl, hgx⟩ := hO.at (unhide HX).ok
  have HG := hide hgx
  have HB := hide hB1
  have HTa := hide (unhide HR1 ga gc w1 hgx ((unhide HW).below hB1))
  clear hO hgx hB1 HC HR1
  go_wp2_with fail
  refine (unhide HTa).mono ?_
  rintro e w2 ⟨v2, js, rfl, hO2, hA2, hm2, hl2, hB2⟩
  have B2 := hide hB2
  have O2 := hide hO2
  have A2 := hide hA2
  have M2 := hide hm2
  have HRt := hide (refReach_any ao c l s w2 ((unhide HX).below ((unhide HB).trans (hB2.mono (unhide HB).size))) hz)
  clear hO2 hB2 HTa hA2 hm2
  go_wp2_with fail
  refine (unhide HRt).mono ?_
  rintro e w3 ⟨v3, js3, rfl, hO3, hA3, hm3, hB3⟩
  obtain rfl : js = js3 := asc_ext (unhide A2) hA3 (fun y => (unhide M2 y).trans (hm3 y).symm)
  have B3 := hide ((unhide B2).trans (hB3.mono (unhide B2).size))
  obtain ⟨a2, c2, rfl, j2, _⟩ := ((unhide O2).below hB3).at
  obtain ⟨a3, c3, rfl, j3, _⟩ := hO3.at
  have HEq := hide (EqualJ_same (c := c2) (d := c3) j2 j3 (by omega))
  clear hO3 hB3 HRt j2 j3 O2 B2 hA3 hm3 A2 M2
  go_wp2_with fail
  refine (unhide HEq).mono ?_
  rintro e w4 ⟨rfl, q4, rfl⟩
  have B7 : Hid (Below w1.heap.size w1 (w3.drewN q4)) := hide (belowD (unhide B3) _)
  generalize w3.drewN q4 = w7 at B7 ⊢
  have HEx := hide (EqualX_same ga ao gc c l w7 ((unhide HG).below (unhide B7)) ((unhide HX).below ((unhide HB).trans ((unhide B7).mono (unhide HB).size))) (by omega))
  clear HEq B3
  go_wp2_with fail
  refine (unhide HEx).mono ?_
  rintro e w8 ⟨rfl, q8, rfl⟩
  go_wp2
  go_ret
  exact ⟨rfl, belowD ((unhide HB).trans ((unhide B7).mono (unhide HB).size)) _⟩
end Go.Proofs.YtlanmcmhgohooaaDoor
