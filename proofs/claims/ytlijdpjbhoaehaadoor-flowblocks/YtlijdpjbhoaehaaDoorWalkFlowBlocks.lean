/-
  The walk of the law FlowBlocks: it returns true for all instructions, and writes nothing that was there.
-/
import Derived.Test.YtlijdpjbhoaehaaDoorBk9
import Derived.OpenShut
namespace Go.Proofs.YtlijdpjbhoaehaaDoor
open Go.RowKit
set_option maxRecDepth 20000

theorem bk_len (l : List Ix) : (bkD l).length ≤ l.length := by
  unfold bkD
  split
  · have := ldN_len l l.length
    simpa using this
  · simp
theorem bk_nx {l : List Ix} {y : Int × Int × List Int} (h : y ∈ bkD l) : y.2.2.length ≤ 2 := by
  unfold bkD at h
  split at h
  · obtain ⟨k, _, rfl⟩ := List.mem_map.1 h
    unfold blkN nxD
    simp only
    cases l[endN l (ldN l l.length) k - 1]? with
    | none => simp
    | some x => exact Nat.le_trans (List.length_filter_le _ _) (nextD_len _ _ _)
  · simp at h
set_option maxHeartbeats 2000000 in
theorem walkFlowBlocks {w : World} (hW : WidAt w) (ao : Option Addr) (c : Nat) (l : List Ix) (hx : XsAt w ao l) (hn : ao = none → l = []) (hb : l.length * 32 ≤ 140737488351232) (hbp : ∀ x ∈ l, -9223372036854775808 ≤ x.p ∧ x.p ≤ 9223372036854775807) (hbd : ∀ x ∈ l, -9223372036854775808 ≤ x.a ∧ x.a ≤ 9223372036854775807) :
    Calls Tryd.prog 3 #[.slice ao l.length c] w fun e w' => e = .returned (.bool true) ∧ Below w.heap.size w w' := by
  have HX := hide hx
  have HW := hide hW
  have hz : l.length ≤ 4398046511104 := by omega
  have HC := hide (CloneX_any ao c l w hx hn (by omega))
  have HR1 := hide (fun ga gc W h1 h2 => Blocks_any ga gc l W h1 hz h2 (fun x h => ⟨hbd x h, hbp x h⟩))
  clear hx hW hbp hbd
  go_enter Tryd.func3, Tryd.ntmps3
  go_wp2_with fail
  refine (unhide HC).mono ?_
  rintro e w1 ⟨v, rfl, hO, hB1⟩
  obtain ⟨ga, gc, rfl, hgx⟩ := hO.at (unhide HX).ok
  have HG := hide hgx
  have HB := hide hB1
  have HTa := hide (unhide HR1 ga gc w1 hgx ((unhide HW).below hB1))
  clear hO hgx hB1 HC HR1
  go_wp2_with fail
  refine (unhide HTa).mono ?_
  rintro e w2 ⟨v2, M2, rfl, hO2, hN2, hP2, hB2⟩
  have B2 := hide hB2
  obtain ⟨a2, c2, rfl, hK2⟩ := hO2.at hN2
  have K2 := hide hK2
  have P2 := hide hP2
  have HRt := hide (refBlocks_any ao c l w2 ((unhide HX).below ((unhide HB).trans (hB2.mono (unhide HB).size))) hz)
  clear hO2 hB2 HTa hN2 hK2 hP2
  go_wp2_with fail
  refine (unhide HRt).mono ?_
  rintro e w3 ⟨v3, M3, rfl, hO3, hN3, hP3, hB3⟩
  have B3 := hide ((unhide B2).trans (hB3.mono (unhide B2).size))
  obtain ⟨a3, c3, rfl, hK3⟩ := hO3.at hN3
  have hM3 : M3.length ≤ l.length := by have h1 := congrArg List.length hP3; have := bk_len l; simp at h1; omega
  have HEq := hide (SameBlocks_yes a2 a3 c2 c3 M3 M2 w3 ((unhide K2).below hB3) hK3 (by rw [unhide P2, hP3]) (by omega) (fun y hy => by
    have h1 : y.pl ∈ bkD l := by rw [← hP3]; exact List.mem_map_of_mem hy
    have h2 : y.nx.length ≤ 2 := bk_nx h1
    omega))
  clear hO3 hB3 HRt K2 P2 B2 hN3 hP3 hK3 hM3
  go_wp2_with fail
  refine (unhide HEq).mono ?_
  rintro e w4 ⟨rfl, hB4⟩
  have B7 : Hid (Below w1.heap.size w1 w4) := hide ((unhide B3).trans (hB4.mono (unhide B3).size))
  have HEx := hide (EqualX_same ga ao gc c l w4 ((unhide HG).below (unhide B7)) ((unhide HX).below ((unhide HB).trans ((unhide B7).mono (unhide HB).size))) (by omega))
  clear HEq B3 hB4
  go_wp2_with fail
  refine (unhide HEx).mono ?_
  rintro e w8 ⟨rfl, q8, rfl⟩
  go_wp2
  go_ret
  exact ⟨rfl, belowD ((unhide HB).trans ((unhide B7).mono (unhide HB).size)) _⟩
end Go.Proofs.YtlijdpjbhoaehaaDoor
