/-
  The walk of the law TypesSteps: it returns true for every table and every two types, and writes nothing that was there.
-/
import Derived.Test.YtggaecmjadkopacRank
import Derived.Test.YtggaecmjadkopacT02d
namespace Go.Proofs.Ytggaecmjadkopac
open Go.RowKit

theorem made_32 {T : List Cl} (h : madeD T = true) : T.length ≤ 32 := by
  by_cases h0 : T.length = 0
  · omega
  · have hx := List.getElem?_eq_getElem (show T.length - 1 < T.length by omega)
    have := (faultD_zero hx (madeD_all h _ (by omega))).lt
    omega

/-- A world in which the table lies still. -/
structure TS (w W : World) (ao : Option Addr) (T : List Cl) : Prop where
  tab : TabAt W ao T
  bel : Below w.heap.size w W
theorem TS.below {w W W' : World} {ao : Option Addr} {T : List Cl} (h : TS w W ao T) (hb : Below W.heap.size W W') : TS w W' ao T := ⟨h.tab.below hb, h.bel.trans (hb.mono h.bel.size)⟩

set_option maxHeartbeats 4000000 in
theorem walkTypesSteps {w : World} (ao : Option Addr) (cap : Nat) (T : List Cl) (hT : TabAt w ao T) (hz : T.length * 48 ≤ 140737488351232) (a : Nat) (ha : a < 256) (b : Nat) (hb : b < 256) :
    Calls Try.prog 4 #[.slice ao T.length cap, .int .u8 (a : Int), .int .u8 (b : Int)] w fun e w' => e = .returned (.bool true) ∧ Below w.heap.size w w' := by
  have HZ := hide hz
  have H0 : Hid (TS w w ao T) := hide ⟨hT, Below.refl _ _⟩
  clear hT hz
  go_enter Try.func4, Try.ntmps4
  go_wp2_with fail
  refine (Made_any ao cap T _ (unhide H0).tab (unhide HZ)).mono ?_
  rintro e w1 ⟨rfl, hB⟩
  have H1 := hide ((unhide H0).below hB)
  clear hB H0
  by_cases hm : madeD T = true
  · have HM := hide (made_32 hm)
    rw [hm]
    clear hm
    go_wp2_with fail
    refine (Rank_any ao cap T 5 _ (unhide H1).tab (unhide HZ) (by omega)).mono ?_
    rintro e w2 ⟨rfl, hB⟩
    have H2 := hide ((unhide H1).below hB)
    rw [rank_small (t := 5) (by omega)]
    clear hB H1
    go_wp2_with fail
    refine (Rank_any ao cap T 4 _ (unhide H2).tab (unhide HZ) (by omega)).mono ?_
    rintro e w3 ⟨rfl, hB⟩
    have H3 := hide ((unhide H2).below hB)
    rw [rank_4]
    clear hB H2
    go_wp2_with fail
    refine (Rank_any ao cap T a _ (unhide H3).tab (unhide HZ) ha).mono ?_
    rintro e w4 ⟨rfl, hB⟩
    have H4 := hide ((unhide H3).below hB)
    have HA := hide (rank_le (unhide HM) a)
    have HLT : Hid (a ≠ b → subD T a b = true → rankD T b < rankD T a) := hide (fun hne hs => rank_lt (unhide HM) (subD_iff.1 hs) hne)
    generalize rankD T a = n at HA HLT ⊢
    have hn : n ≤ 34 := unhide HA
    clear hB H3 HA HM
    by_cases eab : a = b
    · have e1 : (((a : Nat) : Int) == ((b : Nat) : Int)) = true := beq_t (by omega)
      clear eab HLT
      go_wp2
      go_ret
      exact ⟨rfl, (unhide H4).bel⟩
    · have e1 : (((a : Nat) : Int) == ((b : Nat) : Int)) = false := beq_f (by omega)
      have HLT2 := hide (unhide HLT eab)
      clear eab HLT
      go_wp2_with fail
      refine (Sub_any ao cap T a b _ (unhide H4).tab (by omega) (by omega)).mono ?_
      rintro e w5 ⟨rfl, hB⟩
      have H5 := hide ((unhide H4).below hB)
      clear hB H4
      by_cases hs : subD T a b = true
      · have HLT3 := hide (unhide HLT2 hs)
        rw [hs]
        clear hs HLT2
        go_wp2_with fail
        refine (Rank_any ao cap T b _ (unhide H5).tab (unhide HZ) hb).mono ?_
        rintro e w6 ⟨rfl, hB⟩
        have H6 := hide ((unhide H5).below hB)
        generalize rankD T b = k at HLT3 ⊢
        have hk : k < n := unhide HLT3
        have hk' : ((n : Nat) : Int) > ((k : Nat) : Int) := by omega
        clear hB H5
        go_wp2
        go_ret
        exact ⟨ret_bool (by first | rfl | simp; omega), (unhide H6).bel⟩
      · have hs' : subD T a b = false := by simpa using hs
        rw [hs']
        clear hs hs' HLT2
        go_wp2
        go_ret
        exact ⟨rfl, (unhide H5).bel⟩
  · have hm' : madeD T = false := by simpa using hm
    rw [hm']
    clear hm hm'
    go_wp2
    go_ret
    exact ⟨rfl, (unhide H1).bel⟩
end Go.Proofs.Ytggaecmjadkopac
