/-
  The walk of the law LexBegins: it returns true for every text and number, and writes nothing that was there.
-/
import Derived.Test.YtgnipgcligmpiaaDoorLx16
import Derived.OpenShut
namespace Go.Proofs.YtgnipgcligmpiaaDoor
open Go.RowKit
set_option maxRecDepth 20000

theorem OwnT.at2 {w : World} {base : Nat} {v : Value} {l : List Tk} (h : OwnT w base v l) : ∃ ao cap, v = .slice ao l.length cap ∧ TsAt w ao l ∧ l.length ≤ cap := by
  obtain ⟨ao, cap, rfl, hT⟩ := h.at
  refine ⟨ao, cap, rfl, hT, ?_⟩
  rcases h.2 with ⟨h1, h2⟩ | ⟨g, cap', cur, e, hb, hh, hn, hm, hs, ht⟩
  · rw [h2]; exact Nat.zero_le _
  · injection e with _ _ e2
    omega
theorem rem_pick {u : Int} {n : Nat} (hn : n ≠ 0) (hb : n ≤ 16384) : ∃ k : Nat, u % (n : Int) = (k : Int) ∧ k < n := by
  have h1 : 0 ≤ u % (n : Int) := Int.emod_nonneg _ (by omega)
  have h2 : u % (n : Int) < (n : Int) := Int.emod_lt_of_pos _ (by omega)
  exact ⟨(u % (n : Int)).toNat, by omega, by omega⟩

set_option maxRecDepth 20000 in
set_option maxHeartbeats 4000000 in
theorem walkLexBegins {w : World} (hW : SpAt w) (s : ByteArray) (_hs : s.size ≤ maxLen) (hz : s.size ≤ 140737488351232) (u : Int) (hu : (Lit.int .u64 u).wf = true) :
    Calls Tryd.prog 7 #[.string s, .int .u64 u] w fun e w' => e = .returned (.bool true) ∧ Below w.heap.size w w' := by
  have hu' := bounds_u64 hu
  have HW := hide hW
  have HA := hide (awake_any w hW)
  clear hW _hs hu
  go_enter Tryd.func7, Tryd.ntmps7
  go_wp2_with fail
  refine (unhide HA).mono ?_
  rintro e w1 ⟨rfl, hB1⟩
  have HW1 := hide ((unhide HW).below hB1)
  have HB1 := hide hB1
  clear hB1 HA HW
  have HS := hide (ScanT_any s w1 (unhide HW1) hz)
  have hlen := scD_len s
  by_cases h0 : (scD s).2.2 = 0
  · have hsz : s.size ≤ 65536 := by
      rcases Nat.lt_or_ge 65536 s.size with g | g
      · unfold scD at h0; rw [if_pos g] at h0; cases h0
      · exact g
    have HC := hide (scD_chn h0)
    have h00 := scD_z s h0
    rw [h00, h0, show ftV 0 0 = .nilIface from if_pos rfl] at HS
    generalize (scD s).1 = l at HS HC hlen
    clear h0 h00
    go_wp2_with fail
    refine (unhide HS).mono ?_
    rintro e w2 ⟨v, rfl, hO, hB2⟩
    obtain ⟨ao, ac, rfl, hT, hcap⟩ := hO.at2
    have HT := hide hT
    have HB2 := hide ((unhide HB1).trans (hB2.mono (unhide HB1).size))
    have HW2 := hide ((unhide HW1).below hB2)
    clear hO hB2 hT HS HB1 HW1
    by_cases hl0 : l.length = 0
    · have b0 : (((l.length : Nat) : Int) == 0) = true := by rw [hl0]; rfl
      clear hl0
      go_wp2
      go_ret
      exact ⟨rfl, unhide HB2⟩
    · have b0 : (((l.length : Nat) : Int) == 0) = false := by rw [beq_eq_false_iff_ne]; omega
      obtain ⟨k, hk, hkl⟩ := rem_pick (u := u) hl0 hlen
      obtain ⟨x, hx⟩ : ∃ x, l[k]? = some x := ⟨_, List.getElem?_eq_getElem hkl⟩
      obtain ⟨q, E, hpq, hbq, hqs, hoe, hox, hxa, hxe, hqe, hes⟩ := chn_at l 0 k x (unhide HC) hx
      obtain ⟨b, off, rfl, hcc⟩ := unhide HT k x hx
      have z := ext_sz (s := s) (i := 0) (e := E) (Nat.zero_le _) hes
      have HD := hide (chn_scD (s := s.extract 0 E) (by omega) (chn_take l 0 k x E (unhide HC) hx hxe) (by rw [List.length_take]; omega))
      have HS2 := hide (fun W h => ScanT_any (s.extract 0 E) W h (by omega))
      rw [unhide HD] at HS2
      rw [show ftV 0 0 = .nilIface from if_pos rfl] at HS2
      have hLt : (l.take (k + 1)).length = k + 1 := by rw [List.length_take]; omega
      have HT3 : Hid (TsAt w2 (some ⟨b, off, none⟩) (l.take (k + 1))) := hide (fun i y hy => unhide HT i y (by rw [List.getElem?_take] at hy; split at hy; exact hy; cases hy))
      generalize l.take (k + 1) = L2 at HS2 hLt HT3
      have hc2 := hcc.c2
      rw [hxe] at hc2
      have j1 : ¬ ((E : Nat) : Int) < 0 := by omega
      have j2 : ¬ s.size < E := by omega
      have j3 : decide (((E : Nat) : Int) < 0) = false := decide_eq_false j1
      have j4 : decide (s.size < E) = false := decide_eq_false j2
      have HLt := hide hLt
      have hkb : k + 1 ≤ 16384 := by omega
      have hw64 : wrap64 (k : Int) = (k : Int) := by simp only [wrap64]; omega
      clear hl0 hx hpq hbq hqs hoe hox hxa hxe hqe HC HT hcc HD hLt z j1 j2
      go_upto_region 7 with fail
      clear hk hw64 hu' hlen b0
      go_upto_region 9 with fail
      clear j3 j4
      go_wp2_with fail
      refine (unhide HS2 w2 (unhide HW2)).mono ?_
      rintro e w3 ⟨v3, rfl, hO3, hB3⟩
      obtain ⟨bo, bc, rfl, hT4⟩ := hO3.at
      have HE := hide (EqualTk_same bo (some ⟨b, off, none⟩) bc ac L2 w3 hT4 ((unhide HT3).below hB3) (by rw [unhide HLt]; omega))
      have HB3 := hide ((unhide HB2).trans (hB3.mono (unhide HB2).size))
      rw [unhide HLt] at HE
      simp only [unhide HLt]
      clear hO3 hB3 hT4 HS2 HT3 HB2 HW2 hc2 HLt hes hsz
      have hk1 : k + 1 ≤ ac := by omega
      go_wp2_with fail
      with_reducible refine (unhide HE).mono ?_
      rintro e w4 ⟨rfl, n, rfl⟩
      go_wp2
      go_ret
      exact ⟨rfl, belowD (unhide HB3) n⟩
  · have HF := show ftV (scD s).2.1 (scD s).2.2 = .iface 44 (.agg #[.int .i64 ((scD s).2.1 : Int), .int .i64 (scD s).2.2]) from if_neg h0
    rw [HF] at HS
    generalize scD s = R at HS
    obtain ⟨l, a, ee⟩ := R
    simp only at HS
    clear HF h0 hlen hu'
    go_wp2_with fail
    refine (unhide HS).mono ?_
    rintro e w2 ⟨v, rfl, hO, hB2⟩
    obtain ⟨ao, ac, rfl⟩ := hO.slice
    have HB2 := hide ((unhide HB1).trans (hB2.mono (unhide HB1).size))
    clear hO hB2 HS HB1 HW1
    go_wp2
    go_ret
    exact ⟨rfl, unhide HB2⟩
end Go.Proofs.YtgnipgcligmpiaaDoor
