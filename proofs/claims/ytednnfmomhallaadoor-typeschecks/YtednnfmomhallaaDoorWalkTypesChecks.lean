/-
  The walk of the law TypesChecks.
-/
import Derived.Test.YtednnfmomhallaaDoorPlain3
namespace Go.Proofs.YtednnfmomhallaaDoor
open Go.RowKit

set_option maxHeartbeats 2000000 in
theorem walkTypesChecks {w : World} (hW : WordsAt w) (ao : Option Addr) (cap : Nat) (T : List Cl) (hT : TabAt w ao T) (hz : T.length * 48 ≤ 140737488351232) :
    Calls Tryd.prog 3 #[.slice ao T.length cap] w fun e w' => e = .returned (.bool true) ∧ Below w.heap.size w w' := by
  have HW := hide hW
  have HT := hide hT
  have HZ := hide hz
  clear hT hz hW
  go_enter Tryd.func3, Tryd.ntmps3
  go_wp2_with fail
  with_reducible refine (Classes_cap ao cap T _ (unhide HT) (unhide HZ)).mono ?_
  rintro e w4 ⟨ga, gc, G, rfl, hG, hS, hB, hcp⟩
  have H4 : Hid (AS w w4 ao ga T G) := hide ⟨(unhide HT).below hB, hG, (unhide HW).below hB, hB⟩
  have HS := hide hS
  have HGz : Hid (G.length * 48 ≤ 140737488351232) := hide (by rw [hS.1]; exact unhide HZ)
  have HCP := hide hcp
  clear hG hS hB HT HW hcp
  go_wp2_with fail
  with_reducible refine (Check_any ga gc G _ (unhide H4).cop (unhide HCP) (unhide H4).wds (unhide HGz)).mono ?_
  rintro e w5 ⟨⟨n, er, rfl, h1⟩, hB⟩
  have H5 := hide ((unhide H4).below hB)
  have HF1 := hide h1
  clear h1 hB H4
  go_wp2_with fail
  with_reducible refine (refCheck_any ao cap T _ (unhide H5).tab (unhide HZ)).mono ?_
  rintro e w6 ⟨⟨m, why, rfl, h2⟩, hB⟩
  have H6 := hide ((unhide H5).below hB)
  obtain ⟨rfl, rfl⟩ := first_one (unhide HS) (unhide HF1) h2
  clear h2 hB H5 HF1
  have e1 : (((n : Nat) : Int) == ((n : Nat) : Int)) = true := by simp
  have e2 : (er == er) = true := by simp
  go_wp2_with fail
  with_reducible refine (Same_yes ga ao gc cap T G _ (unhide H6).cop (unhide H6).tab (unhide HS) (unhide HZ)).mono ?_
  rintro e w7 ⟨rfl, k, rfl⟩
  go_wp2
  go_ret
  exact ⟨rfl, belowD (unhide H6).bel _⟩
end Go.Proofs.YtednnfmomhallaaDoor
