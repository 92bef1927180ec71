/-
  The walk of the law TypesLeast: it returns true for every table and every three types, and writes nothing that was there.
-/
import Derived.Test.YtggaecmjadkopacMerge
import Derived.Test.YtggaecmjadkopacT02d
namespace Go.Proofs.Ytggaecmjadkopac
open Go.RowKit

theorem lawValid_any (ao : Option Addr) (n cap t : Nat) (w : World) (ht : t < 256) :
    Calls Try.prog 7 #[.slice ao n cap, .int .u8 (t : Int)] w fun e w' => e = .returned (.bool (validD n t)) ∧ w' = w := by
  by_cases h1 : t ≤ 5
  · have HR := hide (validD_lo (n := n) h1)
    have i1 : ((t : Nat) : Int) ≤ 5 := by omega
    go_enter Try.func7, Try.ntmps7
    go_wp2
    go_ret
    exact ⟨ret_bool (unhide HR).symm, rfl⟩
  · have i1 : ¬ ((t : Nat) : Int) ≤ 5 := by omega
    by_cases h2 : 16 ≤ t
    · have i2 : ((t : Nat) : Int) ≥ 16 := by omega
      have HR : Hid (validD n t = decide ((t : Int) - 16 < (n : Int))) := hide (by unfold validD; rw [decide_eq_decide]; omega)
      go_enter Try.func7, Try.ntmps7
      go_wp2
      go_ret
      refine ⟨ret_bool ?_, rfl⟩
      rw [unhide HR]
    · have i2 : ¬ ((t : Nat) : Int) ≥ 16 := by omega
      have HR := hide (validD_no (n := n) h1 (by omega))
      go_enter Try.func7, Try.ntmps7
      go_wp2
      go_ret
      exact ⟨ret_bool (unhide HR).symm, rfl⟩

/-- A world in which the table lies still. -/
structure TB (w W : World) (ao : Option Addr) (T : List Cl) : Prop where
  tab : TabAt W ao T
  bel : Below w.heap.size w W
theorem TB.below {w W W' : World} {ao : Option Addr} {T : List Cl} (h : TB w W ao T) (hb : Below W.heap.size W W') : TB w W' ao T := ⟨h.tab.below hb, h.bel.trans (hb.mono h.bel.size)⟩

set_option maxHeartbeats 4000000 in
theorem walkTypesLeast {w : World} (ao : Option Addr) (cap : Nat) (T : List Cl) (a b c : Nat) (hT : TabAt w ao T) (hz : T.length * 48 ≤ 140737488351232) (ha : a < 256) (hb : b < 256) (hc : c < 256) :
    Calls Try.prog 3 #[.agg #[.slice ao T.length cap, .int .u8 (a : Int), .int .u8 (b : Int), .int .u8 (c : Int)]] w fun e w' => e = .returned (.bool true) ∧ Below w.heap.size w w' := by
  have HT := hide hT
  have HZ := hide hz
  clear hT hz
  go_enter Try.func3, Try.ntmps3
  go_wp2
  obtain ⟨B, HB⟩ : ∃ B, Hid (w.heap.size = B) := ⟨_, hide rfl⟩
  obtain ⟨w1, HW1⟩ : ∃ w1, Hid (w.alloc (Obj.cells #[Value.slice ao T.length cap, Value.int IntKind.u8 (a : Int), Value.int IntKind.u8 (b : Int), Value.int IntKind.u8 (c : Int)] 25) = w1) := ⟨_, hide rfl⟩
  have hrow : w1.heap[B]? = some (.cells #[Value.slice ao T.length cap, Value.int IntKind.u8 (a : Int), Value.int IntKind.u8 (b : Int), Value.int IntKind.u8 (c : Int)] 25) := by rw [← unhide HW1, ← unhide HB]; exact heap_alloc_new w _
  have hB1 : Below w.heap.size w w1 := by rw [← unhide HW1]; exact (Below.refl _ _).alloc (Nat.le_refl _) _
  have H1 : Hid (TB w w1 ao T) := hide ⟨(unhide HT).below hB1, hB1⟩
  have c0 : w1.cell? ⟨B, 0, none⟩ = some (.slice ao T.length cap) := by rw [cell_of_row _ _ _ _ _ _ hrow]; rfl
  have c1 : w1.cell? ⟨B, 1, none⟩ = some (.int .u8 (a : Int)) := by rw [cell_of_row _ _ _ _ _ _ hrow]; rfl
  have c2 : w1.cell? ⟨B, 2, none⟩ = some (.int .u8 (b : Int)) := by rw [cell_of_row _ _ _ _ _ _ hrow]; rfl
  have c3 : w1.cell? ⟨B, 3, none⟩ = some (.int .u8 (c : Int)) := by rw [cell_of_row _ _ _ _ _ _ hrow]; rfl
  rw [unhide HW1, unhide HB]
  clear HW1 HB HT hrow hB1
  go_quiet (fail)
  have H2 := hide ((unhide H1).below (below_drew w1 nq))
  generalize World.drewN w1 nq = w2 at H2 ⊢
  clear c0 c1 c2 c3 H1
  go_wp2_with fail
  refine (Made_any ao cap T _ (unhide H2).tab (unhide HZ)).mono ?_
  rintro e w3 ⟨rfl, hB⟩
  have H3 := hide ((unhide H2).below hB)
  clear H2 hB
  cases madeD T with
  | false =>
    go_wp2
    go_ret
    exact ⟨rfl, (unhide H3).bel⟩
  | true =>
    go_wp2_with fail
    refine (lawValid_any ao T.length cap a _ ha).mono ?_
    rintro e w4 ⟨rfl, rfl⟩
    by_cases va : validD T.length a = true
    · rw [va]
      go_wp2_with fail
      refine (lawValid_any ao T.length cap b _ hb).mono ?_
      rintro e w5 ⟨rfl, rfl⟩
      by_cases vb : validD T.length b = true
      · rw [vb]
        go_wp2_with fail
        refine (lawValid_any ao T.length cap c _ hc).mono ?_
        rintro e w6 ⟨rfl, rfl⟩
        by_cases vc : validD T.length c = true
        · rw [vc]
          obtain ⟨m, HM⟩ : ∃ m, Hid (mergeD T a b = m) := ⟨_, hide rfl⟩
          obtain ⟨k, HBC⟩ : ∃ k, Hid (mergeD T b c = k) := ⟨_, hide rfl⟩
          obtain ⟨q, HAK⟩ : ∃ q, Hid (mergeD T a k = q) := ⟨_, hide rfl⟩
          have HMC : Hid (mergeD T m c = q) := hide (by rw [← unhide HAK, ← unhide HBC, ← unhide HM, merge_assoc va vb vc])
          have HBA : Hid (mergeD T b a = m) := hide (by rw [← unhide HM]; exact (merge_comm va vb).symm)
          have HAA := hide (merge_idem va)
          have HAB : Hid (subD T a b = decide (m = b)) := hide (by rw [← unhide HM]; exact merge_sub va vb)
          have HL : Hid (IsLub T a b m) := hide (by rw [← unhide HM]; exact mergeD_lub va vb)
          have HAM := hide (subD_iff.2 (unhide HL).left)
          have HBM := hide (subD_iff.2 (unhide HL).right)
          have hm : m < 256 := by rw [← unhide HM]; exact merge_lt ha hb
          have hk : k < 256 := by rw [← unhide HBC]; exact merge_lt hb hc
          have e1 : (((m : Nat) : Int) != ((m : Nat) : Int)) = false := by simp
          have e2 : (((a : Nat) : Int) != ((a : Nat) : Int)) = false := by simp
          clear va vb vc
          go_wp2_with fail
          refine (Merge_any ao cap T a b _ (unhide H3).tab (by omega) (by omega)).mono ?_
          rintro e w11 ⟨rfl, hB⟩
          have H11 := hide ((unhide H3).below hB)
          clear hB H3
          rw [unhide HM]
          go_wp2_with fail
          refine (Merge_any ao cap T b a _ (unhide H11).tab (by omega) (by omega)).mono ?_
          rintro e w12 ⟨rfl, hB⟩
          have H12 := hide ((unhide H11).below hB)
          clear hB H11
          rw [unhide HBA]
          go_wp2_with fail
          refine (Merge_any ao cap T a a _ (unhide H12).tab (by omega) (by omega)).mono ?_
          rintro e w13 ⟨rfl, hB⟩
          have H13 := hide ((unhide H12).below hB)
          clear hB H12
          rw [unhide HAA]
          have HD : Hid (decide (m = b) = (((m : Nat) : Int) == ((b : Nat) : Int))) := hide (by
            by_cases e : m = b
            · rw [decide_eq_true e, beq_t (by omega)]
            · rw [decide_eq_false e, beq_f (by omega)])
          rw [unhide HD] at HAB
          clear HD
          go_wp2_with fail
          refine (Sub_any ao cap T a b _ (unhide H13).tab (by omega) (by omega)).mono ?_
          rintro e w14 ⟨rfl, hB⟩
          have H14 := hide ((unhide H13).below hB)
          clear hB H13
          rw [unhide HAB]
          generalize hz3 : (((m : Nat) : Int) == ((b : Nat) : Int)) = z
          have e3 : (z != z) = false := by simp
          go_wp2_with fail
          refine (Sub_any ao cap T a m _ (unhide H14).tab (by omega) (by omega)).mono ?_
          rintro e w15 ⟨rfl, hB⟩
          have H15 := hide ((unhide H14).below hB)
          clear hB H14
          rw [unhide HAM]
          go_wp2_with fail
          refine (Sub_any ao cap T b m _ (unhide H15).tab (by omega) (by omega)).mono ?_
          rintro e w16 ⟨rfl, hB⟩
          have H16 := hide ((unhide H15).below hB)
          clear hB H15
          rw [unhide HBM]
          by_cases s1 : subD T a c = true
          · have S1 := hide s1
            go_wp2_with fail
            refine (Sub_any ao cap T a c _ (unhide H16).tab (by omega) (by omega)).mono ?_
            rintro e w17 ⟨rfl, hB⟩
            have H17 := hide ((unhide H16).below hB)
            clear hB H16
            rw [unhide S1]
            by_cases s2 : subD T b c = true
            · have S2 := hide s2
              have S3 := hide (subD_iff.2 ((unhide HL).least c (subD_iff.1 s1) (subD_iff.1 s2)))
              go_wp2_with fail
              refine (Sub_any ao cap T b c _ (unhide H17).tab (by omega) (by omega)).mono ?_
              rintro e w18 ⟨rfl, hB⟩
              have H18 := hide ((unhide H17).below hB)
              clear hB H17
              rw [unhide S2]
              go_wp2_with fail
              refine (Sub_any ao cap T m c _ (unhide H18).tab (by omega) (by omega)).mono ?_
              rintro e w19 ⟨rfl, hB⟩
              have H19 := hide ((unhide H18).below hB)
              clear hB H18
              rw [unhide S3]
              go_wp2_with fail
              refine (Merge_any ao cap T b c _ (unhide H19).tab (by omega) (by omega)).mono ?_
              rintro e w20 ⟨rfl, hB⟩
              have H20 := hide ((unhide H19).below hB)
              clear hB H19
              rw [unhide HBC]
              go_wp2_with fail
              refine (Merge_any ao cap T a k _ (unhide H20).tab (by omega) (by omega)).mono ?_
              rintro e w21 ⟨rfl, hB⟩
              have H21 := hide ((unhide H20).below hB)
              clear hB H20
              rw [unhide HAK]
              go_wp2_with fail
              refine (Merge_any ao cap T m c _ (unhide H21).tab (by omega) (by omega)).mono ?_
              rintro e w22 ⟨rfl, hB⟩
              have H22 := hide ((unhide H21).below hB)
              clear hB H21
              rw [unhide HMC]
              have e9 : (((q : Nat) : Int) == ((q : Nat) : Int)) = true := by simp
              go_wp2
              go_ret
              exact ⟨ret_bool (by simp), (unhide H22).bel⟩
            · have S2 : Hid (subD T b c = false) := hide (by simpa using s2)
              go_wp2_with fail
              refine (Sub_any ao cap T b c _ (unhide H17).tab (by omega) (by omega)).mono ?_
              rintro e w23 ⟨rfl, hB⟩
              have H23 := hide ((unhide H17).below hB)
              clear hB H17
              rw [unhide S2]
              go_wp2_with fail
              refine (Merge_any ao cap T b c _ (unhide H23).tab (by omega) (by omega)).mono ?_
              rintro e w24 ⟨rfl, hB⟩
              have H24 := hide ((unhide H23).below hB)
              clear hB H23
              rw [unhide HBC]
              go_wp2_with fail
              refine (Merge_any ao cap T a k _ (unhide H24).tab (by omega) (by omega)).mono ?_
              rintro e w25 ⟨rfl, hB⟩
              have H25 := hide ((unhide H24).below hB)
              clear hB H24
              rw [unhide HAK]
              go_wp2_with fail
              refine (Merge_any ao cap T m c _ (unhide H25).tab (by omega) (by omega)).mono ?_
              rintro e w26 ⟨rfl, hB⟩
              have H26 := hide ((unhide H25).below hB)
              clear hB H25
              rw [unhide HMC]
              have e9 : (((q : Nat) : Int) == ((q : Nat) : Int)) = true := by simp
              go_wp2
              go_ret
              exact ⟨ret_bool (by simp), (unhide H26).bel⟩
          · have S1 : Hid (subD T a c = false) := hide (by simpa using s1)
            go_wp2_with fail
            refine (Sub_any ao cap T a c _ (unhide H16).tab (by omega) (by omega)).mono ?_
            rintro e w27 ⟨rfl, hB⟩
            have H27 := hide ((unhide H16).below hB)
            clear hB H16
            rw [unhide S1]
            go_wp2_with fail
            refine (Merge_any ao cap T b c _ (unhide H27).tab (by omega) (by omega)).mono ?_
            rintro e w28 ⟨rfl, hB⟩
            have H28 := hide ((unhide H27).below hB)
            clear hB H27
            rw [unhide HBC]
            go_wp2_with fail
            refine (Merge_any ao cap T a k _ (unhide H28).tab (by omega) (by omega)).mono ?_
            rintro e w29 ⟨rfl, hB⟩
            have H29 := hide ((unhide H28).below hB)
            clear hB H28
            rw [unhide HAK]
            go_wp2_with fail
            refine (Merge_any ao cap T m c _ (unhide H29).tab (by omega) (by omega)).mono ?_
            rintro e w30 ⟨rfl, hB⟩
            have H30 := hide ((unhide H29).below hB)
            clear hB H29
            rw [unhide HMC]
            have e9 : (((q : Nat) : Int) == ((q : Nat) : Int)) = true := by simp
            go_wp2
            go_ret
            exact ⟨ret_bool (by simp), (unhide H30).bel⟩
        · have v' : validD T.length c = false := by simpa using vc
          rw [v']
          clear vc v'
          go_wp2
          go_ret
          exact ⟨rfl, (unhide H3).bel⟩
      · have v' : validD T.length b = false := by simpa using vb
        rw [v']
        clear vb v'
        go_wp2
        go_ret
        exact ⟨rfl, (unhide H3).bel⟩
    · have v' : validD T.length a = false := by simpa using va
      rw [v']
      clear va v'
      go_wp2
      go_ret
      exact ⟨rfl, (unhide H3).bel⟩
end Go.Proofs.Ytggaecmjadkopac
