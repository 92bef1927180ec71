/-
  The walk of the law LexBlanks: it returns true for every text and all numbers, and writes nothing that was there.
-/
import Derived.Test.YtgnipgcligmpiaaDoorLx21
namespace Go.Proofs.YtgnipgcligmpiaaDoor
open Go.RowKit
set_option maxRecDepth 20000

theorem tmod_pick {k n : Nat} (hn : 0 < n) : Int.tmod (k : Int) (n : Int) = ((k % n : Nat) : Int) ∧ k % n < n := ⟨rfl, Nat.mod_lt _ hn⟩
theorem four_pick {u : Int} (h : 0 ≤ u) : ∃ r : Nat, Int.tmod u 4 = (r : Int) ∧ r < 4 := ⟨(u % 4).toNat, by rw [Int.tmod_eq_emod_of_nonneg h]; omega, by omega⟩

set_option maxRecDepth 20000 in
set_option maxHeartbeats 4000000 in
theorem walkLexBlanks {w : World} (hW : SpAt w ∧ PwAt w) (s : ByteArray) (_hs : s.size ≤ maxLen) (hz : s.size ≤ 140737488351232) (uo : Option Addr) (uc : Nat) (us : List Int) (hu : UsAt w uo us) (hul : us.length ≤ 17592186043904) :
    Calls Tryd.prog 6 #[.string s, .slice uo us.length uc] w fun e w' => e = .returned (.bool true) ∧ Below w.heap.size w w' := by
  have HW := hide hW.1
  have HP := hide hW.2
  have HU := hide hu
  have HA := hide (awake_any w hW.1)
  clear hW _hs hu
  go_enter Tryd.func6, Tryd.ntmps6
  go_wp2_with fail
  refine (unhide HA).mono ?_
  rintro e w1 ⟨rfl, hB1⟩
  have HW1 := hide ((unhide HW).below hB1)
  have HP1 := hide ((unhide HP).below hB1)
  have HU1 := hide ((unhide HU).below hB1)
  have HB1 := hide hB1
  clear hB1 HA HW HP HU
  have HS := hide (ScanT_any s w1 (unhide HW1) hz)
  have hlen := scD_len s
  by_cases h0 : (scD s).2.2 = 0
  · have hsz : s.size ≤ 65536 := by
      rcases Nat.lt_or_ge 65536 s.size with g | g
      · unfold scD at h0; rw [if_pos g] at h0; cases h0
      · exact g
    have HC := hide (scD_chn h0)
    have h00 := scD_z s h0
    rw [h00, h0, show ftV 0 0 = .nilIface from if_pos rfl] at HS
    generalize (scD s).1 = l at HS HC hlen
    clear h0 h00
    go_wp2_with fail
    refine (unhide HS).mono ?_
    rintro e w2 ⟨v, rfl, hO, hB2⟩
    obtain ⟨ao, ac, rfl, hT⟩ := hO.at
    have hal : Below w2.heap.size w2 (w2.alloc (.cells gapA 9)) := (Below.refl _ _).alloc (Nat.le_refl _) _
    have HK := hide (show KAt (w2.alloc (.cells gapA 9)) w2.heap.size from heap_alloc_new w2 _)
    have HT := hide (hT.below hal)
    have hB3 := hB2.trans (hal.mono hB2.size)
    have HB3 := hide ((unhide HB1).trans (hB3.mono (unhide HB1).size))
    have HW3 := hide ((unhide HW1).below hB3)
    have HP3 := hide ((unhide HP1).below hB3)
    have HU3 := hide ((unhide HU1).below hB3)
    clear hO hB2 hT HS HB1 HW1 HP1 HU1 hB3 hal
    unfold gapA at HK HT HB3 HW3 HP3 HU3
    go_upto_region 7 with fail
    generalize (w2.alloc (.cells #[.string ⟨#[32]⟩, .string ⟨#[10]⟩, .string ⟨#[32, 47, 47, 32, 120, 32, 121, 10]⟩, .string ⟨#[9, 32, 13]⟩] 9)) = W3 at HK HT HB3 HW3 HP3 HU3 ⊢
    generalize w2.heap.size = gk at HK ⊢
    go_wp2
    go_loopw [8, 26] (fun sv i wr => ∃ (k : Nat) (S : ByteArray) (P : List (ByteArray × ByteArray)), k ≤ l.length ∧ S.size ≤ 3000000000 ∧ sv = .string S ∧ i = .int .i64 (k : Int) ∧ Hid (Fit S 0 P S.size) ∧ Hid (AllW P (l.take k)) ∧ Hid (TsAt wr ao l) ∧ Hid (KAt wr gk) ∧ Hid (UsAt wr uo us) ∧ Hid (SpAt wr) ∧ Hid (PwAt wr) ∧ Hid (Below w.heap.size w wr)) (fun _ i _ => l.length - (intOf i).toNat)
    case atStart => exact ⟨0, ⟨#[]⟩, [], Nat.zero_le _, Nat.zero_le _, rfl, rfl, hide rfl, hide .nil, HT, HK, HU3, HW3, HP3, HB3⟩
    case round =>
      clear HT HK HU3 HW3 HP3 HB3
      obtain ⟨k, S, P, hk, hSz, rfl, rfl, HF, HAW, HT, HK, HU, HW, HP, HB⟩ := hrel
      by_cases hkl : k < l.length
      · obtain ⟨x, hx⟩ : ∃ x, l[k]? = some x := ⟨_, List.getElem?_eq_getElem hkl⟩
        obtain ⟨q, E, hpq, hbq, hqs, hoe, hox, hxa, hxe, hqe, hes⟩ := chn_at l 0 k x (unhide HC) hx
        have hbd := on_bounds (s := s) (q := q) hsz
        have hwo := wr_ok hqs hoe
        rw [hox] at hbd hwo
        obtain ⟨n1, n2, n3⟩ := hbd
        have HWr := hide hwo
        have hws := wr_size n1 n2 n3
        have htk : l.take (k + 1) = l.take k ++ [x] := by rw [List.take_add_one, hx]; rfl
        have HTk := hide htk
        obtain ⟨b, off, rfl, hcc⟩ := unhide HT k x hx
        obtain ⟨c0, c1, c2, c3, c4⟩ := hcc
        have hal : Below wr.heap.size wr (wr.alloc (.cells #[.int .i64 x.k, .int .i64 x.a, .int .i64 x.e, .int .i64 x.n, .string x.t] 34)) := (Below.refl _ _).alloc (Nat.le_refl _) _
        have HX := hide (show TkAt (wr.alloc (.cells #[.int .i64 x.k, .int .i64 x.a, .int .i64 x.e, .int .i64 x.n, .string x.t] 34)) wr.heap.size x from heap_alloc_new wr _)
        have HT4 := hide ((unhide HT).below hal)
        have HK4 := hide ((unhide HK).below hal)
        have HU4 := hide ((unhide HU).below hal)
        have HW4 := hide ((unhide HW).below hal)
        have HP4 := hide ((unhide HP).below hal)
        have HB4 := hide ((unhide HB).trans (hal.mono (unhide HB).size))
        have i1 : ((k : Nat) : Int) < ((l.length : Nat) : Int) := by omega
        clear hx hpq hbq hqs hoe hox hxa hxe hqe hes hwo htk hal HT HK HU HW HP HB
        go_upto_region 11 with fail
        generalize (wr.alloc (.cells #[.int .i64 x.k, .int .i64 x.a, .int .i64 x.e, .int .i64 x.n, .string x.t] 34)) = W4 at HX HT4 HK4 HU4 HW4 HP4 HB4 ⊢
        generalize wr.heap.size = gx at HX ⊢
        clear c0 c1 c2 c3 c4 i1
        by_cases hu0 : 0 < us.length
        · have j1 : ((us.length : Nat) : Int) > 0 := by omega
          go_upto_region 13 with fail
          obtain ⟨y, hy⟩ : ∃ y, us[k % us.length]? = some y := ⟨_, List.getElem?_eq_getElem (Nat.mod_lt _ hu0)⟩
          obtain ⟨ub, uoff, rfl, hcu, hu1, hu2⟩ := unhide HU4 _ y hy
          obtain ⟨r, hr, hr4⟩ := four_pick hu1
          obtain ⟨g, hg, hcg⟩ := (unhide HK4).cell hr4
          have hm := Nat.mod_lt k hu0
          generalize hj : k % us.length = j at hcu hm
          have hj2 : Int.tmod ((k : Nat) : Int) ((us.length : Nat) : Int) = (j : Int) := by rw [← hj]; rfl
          have b0 : (((us.length : Nat) : Int) == 0) = false := beq_eq_false_iff_ne.2 (by omega)
          clear hj hy j1 hu1 hu2
          go_upto_region 14 with fail
          have HG := hide hg
          clear hr hr4 hcg hcu hm hj2 b0 hg hu0
          have hgs := gap_size _ (unhide HG)
          by_cases hS : 65536 < S.size
          · have j2 : ((S.size : Nat) : Int) > 65536 := by omega
            go_wp2
            go_ret
            exact ⟨rfl, unhide HB4⟩
          · have j2 : ¬ ((S.size : Nat) : Int) > 65536 := by omega
            have HY := hide (written_any x W4 (unhide HW4) (unhide HP4) n1 n2)
            have HZ : Hid ((S ++ (g ++ wrT x)).size ≤ 3000000000) := hide (by rw [ByteArray.size_append, ByteArray.size_append]; omega)
            have HF2 := hide (Fit.add (g := g) (T := wrT x) (unhide HF))
            have HA2 := hide (AllW.snoc (unhide HAW) (unhide HG) (unhide HWr))
            rw [← unhide HTk] at HA2
            have z1 : g.size + (wrT x).size ≤ 3000000000 := by omega
            have z2 : S.size + (g ++ wrT x).size ≤ 3000000000 := by rw [ByteArray.size_append]; omega
            have z3 : S.size + (g.size + (wrT x).size) ≤ 3000000000 := by omega
            generalize wrT x = T at HY HZ HF2 HA2 z1 z2 z3
            clear HF HAW HWr hws n1 n2 n3 HTk hgs
            go_wp2_with (first | (refine wpList_load_row rfl 34 (.tmp 10) rfl gx rfl 34 #[.int .i64 x.k, .int .i64 x.a, .int .i64 x.e, .int .i64 x.n, .string x.t] (0, 0) _ (unhide HX) Tryd.underlying34 rfl (by kernel_rfl) ?_) | fail)
            refine (unhide HY).mono ?_
            rintro e5 W5 ⟨rfl, hB5⟩
            have HT5 := hide ((unhide HT4).below hB5)
            have HK5 := hide ((unhide HK4).below hB5)
            have HU5 := hide ((unhide HU4).below hB5)
            have HW5 := hide ((unhide HW4).below hB5)
            have HP5 := hide ((unhide HP4).below hB5)
            have HB5 := hide ((unhide HB4).trans (hB5.mono (unhide HB4).size))
            clear hB5 HY HT4 HK4 HU4 HW4 HP4 HB4 HX
            go_wp2
            refine ⟨⟨k + 1, S ++ (g ++ T), _, by omega, unhide HZ, rfl, by go_num, HF2, HA2, HT5, HK5, HU5, HW5, HP5, HB5⟩, ?_⟩
            simp [intOf]; omega
        · have j1 : ¬ ((us.length : Nat) : Int) > 0 := by omega
          go_upto_region 14 with fail
          have HG : Hid ((⟨#[32]⟩ : ByteArray) ∈ gapL) := hide (by simp [gapL])
          have hgs := gap_size _ (unhide HG)
          by_cases hS : 65536 < S.size
          · have j2 : ((S.size : Nat) : Int) > 65536 := by omega
            go_wp2
            go_ret
            exact ⟨rfl, unhide HB4⟩
          · have j2 : ¬ ((S.size : Nat) : Int) > 65536 := by omega
            have HY := hide (written_any x W4 (unhide HW4) (unhide HP4) n1 n2)
            have HZ : Hid ((S ++ ((⟨#[32]⟩ : ByteArray) ++ wrT x)).size ≤ 3000000000) := hide (by rw [ByteArray.size_append, ByteArray.size_append]; omega)
            have HF2 := hide (Fit.add (g := (⟨#[32]⟩ : ByteArray)) (T := wrT x) (unhide HF))
            have HA2 := hide (AllW.snoc (unhide HAW) (unhide HG) (unhide HWr))
            rw [← unhide HTk] at HA2
            have z1 : (⟨#[32]⟩ : ByteArray).size + (wrT x).size ≤ 3000000000 := by omega
            have z2 : S.size + ((⟨#[32]⟩ : ByteArray) ++ wrT x).size ≤ 3000000000 := by rw [ByteArray.size_append]; omega
            have z3 : S.size + ((⟨#[32]⟩ : ByteArray).size + (wrT x).size) ≤ 3000000000 := by omega
            generalize wrT x = T at HY HZ HF2 HA2 z1 z2 z3
            clear HF HAW HWr hws n1 n2 n3 HTk hgs
            go_wp2_with (first | (refine wpList_load_row rfl 34 (.tmp 10) rfl gx rfl 34 #[.int .i64 x.k, .int .i64 x.a, .int .i64 x.e, .int .i64 x.n, .string x.t] (0, 0) _ (unhide HX) Tryd.underlying34 rfl (by kernel_rfl) ?_) | fail)
            refine (unhide HY).mono ?_
            rintro e5 W5 ⟨rfl, hB5⟩
            have HT5 := hide ((unhide HT4).below hB5)
            have HK5 := hide ((unhide HK4).below hB5)
            have HU5 := hide ((unhide HU4).below hB5)
            have HW5 := hide ((unhide HW4).below hB5)
            have HP5 := hide ((unhide HP4).below hB5)
            have HB5 := hide ((unhide HB4).trans (hB5.mono (unhide HB4).size))
            clear hB5 HY HT4 HK4 HU4 HW4 HP4 HB4 HX
            go_wp2
            refine ⟨⟨k + 1, S ++ ((⟨#[32]⟩ : ByteArray) ++ T), _, by omega, unhide HZ, rfl, by go_num, HF2, HA2, HT5, HK5, HU5, HW5, HP5, HB5⟩, ?_⟩
            simp [intOf]; omega
      · have hkk : l.take k = l := List.take_of_length_le (by omega)
        have hAW := unhide HAW
        rw [hkk] at hAW
        have HAW2 := hide hAW
        have j0 : ¬ ((k : Nat) : Int) < ((l.length : Nat) : Int) := by omega
        have HS := hide (ScanT_any S wr (unhide HW) (by omega))
        clear hAW hkk HAW
        by_cases hS : 65536 < S.size
        · have e1 : scD S = ([], 0, 4) := if_pos hS
          rw [e1] at HS
          rw [show ftV 0 4 = .iface 44 (.agg #[.int .i64 ((0 : Nat) : Int), .int .i64 4]) from if_neg (by decide)] at HS
          have j2 : ((S.size : Nat) : Int) > 65536 := by omega
          clear e1
          go_wp2_with fail
          refine (unhide HS).mono ?_
          rintro e5 w5 ⟨v, rfl, hO, hB5⟩
          obtain ⟨bo, bc, rfl⟩ := hO.slice
          have HB5 := hide ((unhide HB).trans (hB5.mono (unhide HB).size))
          clear hO hB5 HS
          go_wp2
          go_ret
          exact ⟨rfl, unhide HB5⟩
        · obtain ⟨m, hm, hml, hms⟩ := fit_chn (unhide HAW2) (unhide HF)
          rw [chn_scD (by omega) hm (by omega)] at HS
          rw [show ftV 0 0 = .nilIface from if_pos rfl] at HS
          have HMS := hide hms
          have HML := hide hml
          have j2 : ¬ ((S.size : Nat) : Int) > 65536 := by omega
          clear hm hml hms HF HAW2
          go_wp2_with fail
          refine (unhide HS).mono ?_
          rintro e5 w5 ⟨v, rfl, hO, hB5⟩
          obtain ⟨bo, bc, rfl, hT5⟩ := hO.at
          have HT5 := hide hT5
          have HT6 := hide ((unhide HT).below hB5)
          have HB5 := hide ((unhide HB).trans (hB5.mono (unhide HB).size))
          have b0 : (((l.length : Nat) : Int) != ((l.length : Nat) : Int)) = false := bne_f rfl
          simp only [unhide HML]
          clear hO hB5 HS hT5 HML HT HK HU HW HP HB j0
          go_wp2
          go_loopw [76] (fun i wr2 => ∃ i' : Nat, i' ≤ l.length ∧ i = .int .i64 (i' : Int) ∧ ∃ q, wr2 = w5.drewN q) (fun i _ => l.length - (intOf i).toNat)
          case atStart => exact ⟨0, Nat.zero_le _, rfl, 0, rfl⟩
          case round =>
            obtain ⟨i', hi', rfl, q, rfl⟩ := hrel
            by_cases hil : i' < l.length
            · obtain ⟨x, hx⟩ : ∃ x, l[i']? = some x := ⟨_, List.getElem?_eq_getElem hil⟩
              obtain ⟨y, hy, y1, y2, y3⟩ := unhide HMS i' x hx
              obtain ⟨b1, o1, rfl, hc⟩ := unhide HT5 i' y hy
              obtain ⟨b2, o2, rfl, hd⟩ := unhide HT6 i' x hx
              have c0 := hc.c0
              have c3 := hc.c3
              have c4 := hc.c4
              have d0 := hd.c0
              have d3 := hd.c3
              have d4 := hd.c4
              rw [y1] at c0
              rw [y2] at c3
              rw [y3] at c4
              have k1 : ((i' : Nat) : Int) < ((l.length : Nat) : Int) := by omega
              have f1 : (x.k != x.k) = false := bne_f rfl
              have f2 : (x.n != x.n) = false := bne_f rfl
              clear hx hy y1 y2 y3 hc hd
              go_wp2
              go_quiet (fail)
              go_wp2
              go_roundw
              case rel => exact ⟨i' + 1, by omega, by go_num, _, rfl⟩
              case measure => simp [intOf]; omega
            · go_wp2
              go_ret
              exact ⟨rfl, belowD (unhide HB5) _⟩
  · have HF := show ftV (scD s).2.1 (scD s).2.2 = .iface 44 (.agg #[.int .i64 ((scD s).2.1 : Int), .int .i64 (scD s).2.2]) from if_neg h0
    rw [HF] at HS
    generalize scD s = R at HS
    obtain ⟨l, a, ee⟩ := R
    simp only at HS
    clear HF h0 hlen
    go_wp2_with fail
    refine (unhide HS).mono ?_
    rintro e w2 ⟨v, rfl, hO, hB2⟩
    obtain ⟨ao, ac, rfl⟩ := hO.slice
    have HB2 := hide ((unhide HB1).trans (hB2.mono (unhide HB1).size))
    clear hO hB2 HS HB1 HW1
    go_wp2
    go_ret
    exact ⟨rfl, unhide HB2⟩
end Go.Proofs.YtgnipgcligmpiaaDoor
