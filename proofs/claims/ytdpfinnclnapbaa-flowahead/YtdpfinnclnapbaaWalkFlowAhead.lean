/-
  The walk of the law FlowAhead: it returns true for all bytes, and writes nothing that was there.
-/
import Derived.Test.YtdpfinnclnapbaaAh2
import Derived.Test.YtdpfinnclnapbaaAh3
import Derived.Test.YtdpfinnclnapbaaBk9
import Derived.OpenShut
namespace Go.Proofs.Ytdpfinnclnapbaa
open Go.RowKit

theorem idx_at {l : List Int} {a : Int} {k : Nat} (h : a ∉ l.take k) (hk : l[k]? = some a) : l.idxOf a = k := by
  have hl := (List.getElem?_eq_some_iff.1 hk).1
  have e : l = l.take k ++ (a :: l.drop (k + 1)) := by
    conv => lhs; rw [← List.take_append_drop k l]
    rw [← List.getElem_cons_drop hl, (List.getElem?_eq_some_iff.1 hk).2]
  rw [e, List.idxOf_append, if_neg h, List.idxOf_cons_self, List.length_take]
  omega
set_option maxRecDepth 20000 in
set_option maxHeartbeats 4000000 in
theorem IndexJ_is (ao : Option Addr) (c : Nat) (l : List Int) (a : Int) (w : World) (hx : JsAt w ao l) (hz : l.length ≤ 4400000000000) (hm : a ∈ l) :
    Calls Try.prog 12 #[.slice ao l.length c, .int .i64 a] w fun e w' => e = .returned (.int .i64 ((l.idxOf a : Nat) : Int)) ∧ w' = w := by
  have HX := hide hx
  have HMM := hide hm
  clear hx hm
  go_enter Try.func12, Try.ntmps12
  go_wp2
  go_loopw [8] (fun i wr => ∃ k : Nat, k ≤ l.length ∧ i = .int .i64 (k : Int) ∧ Hid (a ∉ l.take k) ∧ wr = w) (fun i _ => l.length - (intOf i).toNat)
  case atStart => exact ⟨0, by omega, rfl, hide (by simp), rfl⟩
  case round =>
    obtain ⟨k, hk, rfl, HN, rfl⟩ := hrel
    by_cases hkl : k < l.length
    · have j1 : ((k : Nat) : Int) < ((l.length : Nat) : Int) := by omega
      have hy := List.getElem?_eq_getElem hkl
      generalize l[k] = y at hy
      obtain ⟨b, off, rfl, hyc⟩ := (unhide HX) k y hy
      have HTk := hide (take_snocJ hy)
      have HY := hide hy
      clear hy
      by_cases hp : a = y
      · have hq : (a == y) = true := by simpa using hp
        have HF : Hid (l.idxOf a = k) := hide (idx_at (unhide HN) (by rw [unhide HY, hp]))
        clear hp
        go_wp2
        go_ret
        exact ⟨by rw [unhide HF]; rfl, rfl⟩
      · have hq : (a == y) = false := by simpa using hp
        have HT2 : Hid (a ∉ l.take (k + 1)) := hide (by rw [unhide HTk, List.mem_append, List.mem_singleton]; rintro (h | h); exact unhide HN h; exact hp h)
        clear hp
        go_wp2
        go_roundw
        case rel => exact ⟨k + 1, by omega, by go_num, HT2, trivial⟩
        case measure => simp [intOf]; omega
    · obtain rfl : k = l.length := by omega
      rw [List.take_length] at HN
      exact absurd (unhide HMM) (unhide HN)
theorem jn_idx (L : List Nat) (i : Nat) : (jn L).idxOf ((i : Nat) : Int) = L.idxOf i := by
  unfold jn
  induction L with
  | nil => rfl
  | cons x t ih =>
    rw [List.map_cons, List.idxOf_cons, List.idxOf_cons, ih]
    have e : ((Int.ofNat x == ((i : Nat) : Int))) = (x == i) := by
      rw [Bool.eq_iff_iff]
      simp
      omega
    rw [e]
theorem jn_mem {L : List Nat} {i : Nat} (h : i ∈ L) : ((i : Nat) : Int) ∈ jn L := by
  unfold jn
  exact List.mem_map.2 ⟨i, h, rfl⟩
/-- Places under way. -/
def plAt (L : List Nat) (k j : Nat) : Value := if j < k then .int .i64 ((L.idxOf j : Nat) : Int) else .int .i64 0
structure PR (w wr : World) (g n : Nat) (F : Nat → Value) : Prop where
  row : wr.rowIs g 3 n F
  ge : w.heap.size ≤ g
  bel : Below w.heap.size w wr
theorem PR.below {w wr w' : World} {g n : Nat} {F : Nat → Value} (h : PR w wr g n F) (hb : Below wr.heap.size wr w') : PR w w' g n F := ⟨h.row.of_block (hb.block _ h.row.lt), h.ge, h.bel.trans (hb.mono h.bel.size)⟩
theorem PR.put {w wr : World} {g n k : Nat} {L : List Nat} (h : PR w wr g n (plAt L k)) : PR w (wr.setCell ⟨g, k, none⟩ (.int .i64 ((L.idxOf k : Nat) : Int))) g n (plAt L (k + 1)) :=
  ⟨(h.row.set k _).congr (fun j _ => by
    unfold plAt
    by_cases e : j = k
    · rw [if_pos e, e, if_pos (by omega)]
    · rw [if_neg e]
      by_cases e2 : j < k
      · rw [if_pos e2, if_pos (by omega)]
      · rw [if_neg e2, if_neg (by omega)]), h.ge, h.bel.setCell (p := ⟨g, k, none⟩) h.ge _⟩
theorem PR.made {w : World} (L : List Nat) (n : Nat) : PR w (w.alloc (.cells (madeCells #[.int .i64 0] n) 3)) w.heap.size n (plAt L 0) :=
  ⟨(World.rowIs_made w (.int .i64 0) n 3).congr (fun j _ => by unfold plAt; rw [if_neg (by omega)]), Nat.le_refl _, (Below.refl _ _).alloc (Nat.le_refl _) _⟩
theorem PR.at {w wr : World} {g n k j : Nat} {L : List Nat} (h : PR w wr g n (plAt L k)) (hj : j < k) (hn : j < n) : wr.cell? ⟨g, j, none⟩ = some (.int .i64 ((L.idxOf j : Nat) : Int)) := by
  rw [h.row.cell hn]
  unfold plAt
  rw [if_pos hj]
theorem asc_len : ∀ (l : List Int) (lo hi : Int), AscJ l → (∀ x ∈ l, lo ≤ x ∧ x < hi) → l.length ≤ (hi - lo).toNat
  | [], lo, hi, _, _ => by simp
  | x :: t, lo, hi, h, hb => by
    have h1 := List.pairwise_cons.1 h
    have h2 := hb x (by simp)
    have h3 := asc_len t (x + 1) hi h1.2 (fun y hy => ⟨by have := h1.1 y hy; omega, (hb y (by simp [hy])).2⟩)
    rw [List.length_cons]
    omega
theorem noneOrder : ordD [] = [] := rfl
theorem bk_boundsA {l : List Ix} (hk : xok l) {y : Int × Int × List Int} (h : y ∈ bkD l) : (-9223372036854775808 ≤ y.1 ∧ y.1 ≤ 9223372036854775807) ∧ ∀ a ∈ y.2.2, -9223372036854775808 ≤ a ∧ a ≤ 9223372036854775807 := by
  unfold bkD at h
  split at h
  · obtain ⟨k, _, rfl⟩ := List.mem_map.1 h
    unfold blkN
    simp only
    constructor
    · unfold pD
      cases hx : l[(ldN l l.length).getD k 0]? with
      | none => simp
      | some x =>
        have := hk x (List.mem_of_getElem? hx)
        simp only
        omega
    · intro a ha
      unfold nxD at ha
      split at ha
      · have hp := (List.mem_filter.1 ha).2
        unfold hasP at hp
        rw [List.any_eq_true] at hp
        obtain ⟨z, hz, e⟩ := hp
        have e : z.p = a := by simpa using e
        have := hk z hz
        omega
      · cases ha
  · cases h
theorem frI_plA {M G : List Bx} (h : M.map Bx.pl = G.map Bx.pl) : frI M = frI G := by
  funext a
  have e : ∀ L : List Bx, frI L a = (L.map Bx.pl).findIdx? (fun q => decide (q.1 = a)) := fun L => by
    unfold frI
    rw [List.findIdx?_map]
    rfl
  rw [e, e, h]
theorem suG_plA {M G : List Bx} (h : M.map Bx.pl = G.map Bx.pl) : suG M = suG G := by
  funext i
  have h1 := congrArg (fun q => q[i]?) h
  simp only [List.getElem?_map] at h1
  unfold suG
  rw [frI_plA h]
  cases hm : M[i]? with
  | none =>
    rw [hm] at h1
    cases hg : G[i]? with
    | none => rfl
    | some y => rw [hg] at h1; cases h1
  | some x =>
    rw [hm] at h1
    cases hg : G[i]? with
    | none => rw [hg] at h1; cases h1
    | some y =>
      rw [hg] at h1
      have h2 : x.nx = y.nx := congrArg (fun q => q.2.2) (Option.some.inj h1)
      simp only [h2]
theorem ordD_plA {M G : List Bx} (h : M.map Bx.pl = G.map Bx.pl) : ordD M = ordD G := by
  have hl : M.length = G.length := by have := congrArg List.length h; simpa using this
  unfold ordD lvO
  rw [suG_plA h, hl]

set_option maxRecDepth 20000 in
set_option maxHeartbeats 8000000 in
theorem walkFlowAhead {w : World} (ao : Option Addr) (c : Nat) (L : List UInt8) (hl : BAt w ao L) (_hn : ao = none → L = []) (hb : L.length ≤ 140737488351232) (hc : L.length ≤ c) :
    Calls Try.prog 4 #[.slice ao L.length c] w fun e w' => e = .returned (.bool true) ∧ Below w.heap.size w w' := by
  have hmk := fun n (hn : n ≤ 1000000) => run_make_row' (P := Try.prog) 23 3 (.int .i64 0) 8 Try.underlying23 infoJ rfl .i64 .i64 n (by omega) (by omega)
  have HMK := hide hmk
  clear hmk
  have HC := hide (refScan_any ao c L w hl (by omega) hc)
  have hlen := scR_len L
  have HPA := hide (fun h => sc_parts (L := L) h)
  clear hl hc
  generalize scR L = R at HC hlen HPA
  obtain ⟨l, p, er⟩ := R
  simp only [] at HC hlen HPA
  go_enter Try.func4, Try.ntmps4
  go_wp2_with fail
  with_reducible refine (unhide HC).mono ?_
  rintro e w1 ⟨v, rfl, hO, hK, hB1⟩
  obtain ⟨oa, oc, rfl, hX⟩ := hO.at (fun f hf => by have := (hK f hf).1; omega)
  have HX := hide hX
  have HKO := hide hK
  have HB1 := hide hB1
  clear hO hX hK hB1 HC
  by_cases hok : er = 0 ∧ 1 ≤ l.length
  · obtain ⟨he, hl1⟩ := hok
    subst he
    obtain ⟨h4096, hch⟩ := unhide HPA rfl
    have HCH := hide hch
    have hl0 : (((l.length : Nat) : Int) == 0) = false := beq_eq_false_iff_ne.2 (by omega)
    have HR1 := hide (refBlocks_any oa oc l w1 (unhide HX) (by omega))
    clear hch HPA
    go_wp2_with fail
    refine (unhide HR1).mono ?_
    rintro e w2 ⟨v, G, rfl, hO, hN, hP, hB⟩
    obtain ⟨ga, gc, rfl, hKG⟩ := hO.at hN
    have HKG := hide hKG
    have HPG := hide hP
    have hgl : G.length ≤ 4097 := by have h1 := congrArg List.length hP; have := bk_len2 l; simp at h1; omega
    have hg1 : 1 ≤ G.length := by
      have h1 := congrArg List.length hP
      unfold bkD at h1
      rw [if_pos ((rsB_iff l).2 (unhide HCH).rises)] at h1
      have := (begN_zero hl1).2
      simp at h1
      omega
    have HB2 := hide ((unhide HB1).trans (hB.mono (unhide HB1).size))
    have HX2 := hide ((unhide HX).below hB)
    have HR2 := hide (refBlocks_any oa oc l w2 (unhide HX2) (by omega))
    clear hO hN hP hB hKG HR1 HB1 HX hl0
    go_wp2_with fail
    refine (unhide HR2).mono ?_
    rintro e w3 ⟨v, M, rfl, hO, hN, hP, hB⟩
    obtain ⟨ma, mc, rfl, hKM⟩ := hO.at hN
    have hml : M.length ≤ 4097 := by have h1 := congrArg List.length hP; have := bk_len2 l; simp at h1; omega
    have HMEM : Hid (∀ y ∈ M, y.pl ∈ bkD l) := hide (fun y hy => by rw [← hP]; exact List.mem_map_of_mem hy)
    have HOr := hide (Order_any ma mc M w3 hKM (by omega) (fun y hy => by have := bk_nx2 (unhide HMEM y hy); have e : y.pl.2.2 = y.nx := rfl; rw [e] at this; omega) (fun y hy => (bk_boundsA (unhide HKO) (unhide HMEM y hy)).1) (fun y hy => (bk_boundsA (unhide HKO) (unhide HMEM y hy)).2))
    rw [ordD_plA (hP.trans (unhide HPG).symm)] at HOr
    have HB3 := hide ((unhide HB2).trans (hB.mono (unhide HB2).size))
    have HX3 := hide ((unhide HX2).below hB)
    have HK3 := hide ((unhide HKG).below hB)
    clear hO hN hP hB hKM HR2 HB2 HX2 HKG HMEM
    go_wp2_with fail
    refine (unhide HOr).mono ?_
    rintro e w4 ⟨v, rfl, hO, hB⟩
    obtain ⟨ra, rc, rfl, hJ, _⟩ := hO.at
    obtain ⟨t0, ht0⟩ := ordD_first hg1
    have HOL := hide (ordD_length G)
    have HOM := hide (fun i (h : i < G.length) => ordD_mem h)
    have HAO := hide (fun hA i j y a h1 h2 h3 h4 => ahead_ok (unhide HCH) h4096 hl1 (unhide HPG) hA (i := i) (j := j) (y := y) (a := a) h1 h2 h3 h4)
    have HFEW : Hid (∀ y ∈ G, y.nx.length ≤ 2) := hide (fun y hy => bk_nx2 (l := l) (y := y.pl) (by rw [← unhide HPG]; exact List.mem_map_of_mem hy))
    have HB4 := hide ((unhide HB3).trans (hB.mono (unhide HB3).size))
    have HX4 := hide ((unhide HX3).below hB)
    have HK4 := hide ((unhide HK3).below hB)
    obtain ⟨rb, ro, rfl, hr0⟩ := hJ 0 0 (by rw [ht0]; rfl)
    rw [Nat.add_zero] at hr0
    have HJ := hide hJ
    rw [jn_len]
    generalize hod : ordD G = od at HOL HOM HAO HJ
    have hjod : (jn od).length ≤ 4097 := by rw [jn_len, unhide HOL]; exact hgl
    have hjs : Hid ((((od.length : Nat) : Int) != ((G.length : Nat) : Int)) = false) := hide (by rw [unhide HOL]; simp)
    have hne0 := unhide hjs
    have hodp : (0 : Int) < ((od.length : Nat) : Int) := by have := unhide HOL; omega
    have hodl : od.length ≤ 4097 := by have := unhide HOL; omega
    clear hO hB hJ hod ht0 HOr HB3 HX3 HK3
    have HWY : Hid (∀ y ∈ G, ∀ a ∈ y.nx, ∃ j, frI G a = some j) := hide (fun y hy a ha => by
      obtain ⟨k, hk⟩ := List.mem_iff_getElem?.1 hy
      exact (blk_of (unhide HCH) h4096 (unhide HPG) hk).ways a ha)
    have HP0 := hide (PR.made (w := w4) od G.length)
    have hmk2 := unhide HMK G.length (by omega)
    clear hjs
    go_upto_region 9 with fail
    clear hr0 hne0 hmk2 hodp
    generalize (w4.alloc (.cells (madeCells #[.int .i64 0] G.length) 3)) = w5 at HP0 ⊢
    generalize hgP : w4.heap.size = gP at HP0 ⊢
    clear hgP
    go_wp2
    go_loopw [53] (fun i wr => ∃ k : Nat, k ≤ G.length ∧ i = .int .i64 (k : Int) ∧ Hid (PR w4 wr gP G.length (plAt od k))) (fun i _ => G.length - (intOf i).toNat)
    case atStart => exact ⟨0, by omega, rfl, HP0⟩
    case round =>
      clear HP0
      obtain ⟨k, hk, rfl, HP⟩ := hrel
      by_cases hkl : k < G.length
      · have j1 : ((k : Nat) : Int) < ((G.length : Nat) : Int) := by omega
        have hIx := IndexJ_is (some ⟨rb, ro, none⟩) rc (jn od) ((k : Nat) : Int) wr ((unhide HJ).below (unhide HP).bel) (by omega) (jn_mem (unhide HOM k hkl))
        rw [jn_len, jn_idx] at hIx
        have HIx := hide hIx
        have hck := (unhide HP).row.cell hkl
        have hfk := (unhide HP).row.frozen k
        have HP2 := hide (unhide HP).put
        clear hIx
        go_upto_region 13 with (go_at_call 12; refine (unhide HIx).mono ?_; rintro e wq ⟨rfl, hwq⟩; rw [hwq]; clear hwq wq)
        generalize (wr.setCell ⟨gP, k, none⟩ (.int .i64 ((od.idxOf k : Nat) : Int))) = wz at HP2 ⊢
        clear hck hfk HIx
        have hcz := (unhide HP2).at (show k < k + 1 by omega) hkl
        generalize od.idxOf k = ik at hcz
        have jneg : ¬ ((ik : Nat) : Int) < 0 := by omega
        go_wp2
        go_roundw
        case rel => exact ⟨k + 1, by omega, by go_num, HP2⟩
        case measure => simp [intOf]; omega
      · obtain rfl : k = G.length := by omega
        have HBr := hide ((unhide HB4).trans ((unhide HP).bel.mono (unhide HB4).size))
        have HRg := hide (ring_any ga gc G wr ((unhide HK4).below (unhide HP).bel) (by omega) (fun y hy => by have := unhide HFEW y hy; omega))
        go_wp2_with fail
        refine (unhide HRg).mono ?_
        rintro e w6 ⟨rb1, rfl, hac, hB6⟩
        have HAC := hide hac
        have HP6 := hide ((unhide HP).below hB6)
        have HB6 := hide ((unhide HBr).trans (hB6.mono (unhide HBr).size))
        clear hac hB6 HP HBr HRg
        by_cases hrb : rb1 = 1
        · rw [decide_eq_true hrb]
          clear hrb
          go_wp2
          go_ret
          exact ⟨rfl, unhide HB6⟩
        · rw [decide_eq_false hrb]
          have HA := hide (unhide HAC hrb)
          clear hrb HAC
          have HRc := hide (refReach_any oa oc l 0 w6 ((unhide HX4).below (unhide HP6).bel) (by omega))
          go_wp2_with fail
          refine (unhide HRc).mono ?_
          rintro e w7 ⟨v, js, rfl, hO, hasc, hm, hB7⟩
          obtain ⟨ja, jc, rfl, hJs, _⟩ := hO.at
          have hjl : js.length ≤ 4400000000000 := by
            have := asc_len js 0 5000 hasc (fun x hx => by
              have hp := ((hm x).1 hx).has
              unfold hasP at hp
              rw [List.any_eq_true] at hp
              obtain ⟨z, hz, e⟩ := hp
              have e : z.p = x := by simpa using e
              have := unhide HKO z hz
              omega)
            omega
          have HJs := hide hJs
          have HM := hide hm
          have HP7 := hide ((unhide HP6).below hB7)
          have HB7 := hide ((unhide HB6).trans (hB7.mono (unhide HB6).size))
          clear hO hJs hm hasc hB7 HP6 HB6 HRc
          go_wp2
          go_loopw [74] (fun i wr => ∃ k : Nat, k ≤ G.length ∧ i = .int .i64 (k : Int) ∧ Hid (Below w7.heap.size w7 wr)) (fun i _ => G.length - (intOf i).toNat)
          case atStart => exact ⟨0, by omega, rfl, hide (Below.refl _ _)⟩
          case round =>
            obtain ⟨k, hk, rfl, HBk⟩ := hrel
            by_cases hkl : k < G.length
            · have j1 : ((k : Nat) : Int) < ((G.length : Nat) : Int) := by omega
              have hy := List.getElem?_eq_getElem hkl
              generalize G[k] = y at hy
              have HB4k := hide ((unhide HP7).bel.trans ((unhide HBk).mono (unhide HP7).bel.size))
              obtain ⟨b, off, rfl, hyb⟩ := (unhide HK4).below (unhide HB4k) k y hy
              have HYN := hide hyb.nxt
              obtain ⟨c0, c1, c2, _⟩ := hyb
              have HY := hide hy
              have hfew := unhide HFEW y (List.mem_of_getElem? hy)
              have HWy := hide (unhide HWY y (List.mem_of_getElem? hy))
              obtain ⟨yf, yl, yo, yc, yn⟩ := y
              simp only at c0 c1 c2 HYN hfew HWy
              have hal : Below wr.heap.size wr (wr.alloc (.cells #[.int .i64 yf, .int .i64 yl, .slice yo yn.length yc] 25)) := (Below.refl _ _).alloc (Nat.le_refl _) _
              have n1 : Hid ((wr.alloc (.cells #[.int .i64 yf, .int .i64 yl, .slice yo yn.length yc] 25)).heap[wr.heap.size]? = some (.cells #[.int .i64 yf, .int .i64 yl, .slice yo yn.length yc] 25 (0, 0))) := hide (heap_alloc_new wr _)
              have HBa := hide ((unhide HBk).trans (hal.mono (unhide HBk).size))
              have HYa := hide ((unhide HYN).below hal)
              clear hal hy
              go_upto_region 22 with fail
              generalize (wr.alloc (.cells #[.int .i64 yf, .int .i64 yl, .slice yo yn.length yc] 25)) = wa at n1 HBa HYa ⊢
              generalize wr.heap.size = gb at n1 ⊢
              clear c0 c1 c2 HYN HB4k HBk
              have d2 : wa.cell? ⟨gb, 2, none⟩ = some (.slice yo yn.length yc) := cell_of_row _ _ 2 _ _ _ (unhide n1)
              go_wp2
              clear d2
              go_loopw [82] (fun i wr => ∃ m : Nat, m ≤ yn.length ∧ i = .int .i64 (m : Int) ∧ Hid (Below wa.heap.size wa wr)) (fun i _ => yn.length - (intOf i).toNat)
              case atStart => exact ⟨0, by omega, rfl, hide (Below.refl _ _)⟩
              case round =>
                obtain ⟨m, hm, rfl, HBm⟩ := hrel
                by_cases hml2 : m < yn.length
                · have j2 : ((m : Nat) : Int) < ((yn.length : Nat) : Int) := by omega
                  have ha := List.getElem?_eq_getElem hml2
                  generalize yn[m] = a at ha
                  obtain ⟨nb, no, rfl, hac⟩ := ((unhide HYa).below (unhide HBm)) m a ha
                  obtain ⟨j, hfr⟩ := unhide HWy a (List.mem_of_getElem? ha)
                  obtain ⟨xx, hxj, _⟩ := frI_some hfr
                  have hjl2 : j < G.length := (List.getElem?_eq_some_iff.1 hxj).1
                  have HBt := hide ((unhide HBa).trans ((unhide HBm).mono (unhide HBa).size))
                  have HB4t := hide ((unhide HP7).bel.trans ((unhide HBt).mono (unhide HP7).bel.size))
                  have HFr := hide (lawFrom_any (some ⟨b, off, none⟩) gc G a wr ((unhide HK4).below (unhide HB4t)) (by omega))
                  rw [frZ_at hfr] at HFr
                  have HAH : Hid (yf ∈ js → od.idxOf k < od.idxOf j) := hide (fun h => unhide HAO (unhide HA) k j _ a (unhide HY) (List.mem_of_getElem? ha) hfr ((unhide HM yf).1 h))
                  have jj0 : ((j : Nat) : Int) ≥ 0 := by omega
                  have jjl : ((j : Nat) : Int) < ((G.length : Nat) : Int) := by omega
                  clear ha hfr hxj HB4t
                  go_wp2_with fail
                  refine (unhide HFr).mono ?_
                  rintro e wf ⟨rfl, hBf⟩
                  have HBf := hide ((unhide HBm).trans (hBf.mono (unhide HBm).size))
                  have HBg := hide ((unhide HBa).trans ((unhide HBf).mono (unhide HBa).size))
                  have HPf := hide ((unhide HP7).below (unhide HBg))
                  have cj := (unhide HPf).at hjl2 hjl2
                  have ck := (unhide HPf).at hkl hkl
                  have d0 : wf.cell? ⟨gb, 0, none⟩ = some (.int .i64 yf) := cell_of_row _ _ 0 _ _ _ (((unhide HBf).block gb (Array.getElem?_eq_some_iff.1 (unhide n1)).1).trans (unhide n1))
                  have HCo : Hid (∀ n, Calls Try.prog 16 #[.slice ja js.length jc, .int .i64 yf] (wf.drewN n) fun e w' => e = .returned (.bool (decide (yf ∈ js))) ∧ w' = wf.drewN n) := hide (fun n => ContainsJ_any ja jc js yf (wf.drewN n) ((unhide HJs).below (belowD (unhide HBg) n)) hjl)
                  generalize od.idxOf j = ij at cj HAH
                  generalize od.idxOf k = ik at ck HAH
                  clear hBf hac HFr HBt HBm HBg HPf
                  by_cases hin : yf ∈ js
                  · rw [decide_eq_true hin] at HCo
                    have hlt := unhide HAH hin
                    have jlt : ¬ ((ij : Nat) : Int) < ((ik : Nat) : Int) := by omega
                    have jlt2 : ¬ ij < ik := by omega
                    clear hin
                    go_wp2
                    go_quiet ((go_at_call 16; with_reducible exact Calls.quiet_of_same (unhide HCo _)))
                    have HBq := hide (belowD (unhide HBf) nq)
                    go_wp2
                    go_roundw
                    case rel => exact ⟨m + 1, by omega, by go_num, HBq⟩
                    case measure => simp [intOf]; omega
                  · rw [decide_eq_false hin] at HCo
                    clear hin
                    go_wp2
                    go_quiet ((go_at_call 16; with_reducible exact Calls.quiet_of_same (unhide HCo _)))
                    have HBq := hide (belowD (unhide HBf) nq)
                    go_wp2
                    go_roundw
                    case rel => exact ⟨m + 1, by omega, by go_num, HBq⟩
                    case measure => simp [intOf]; omega
                · obtain rfl : m = yn.length := by omega
                  have HBt := hide ((unhide HBa).trans ((unhide HBm).mono (unhide HBa).size))
                  go_wp2
                  go_roundw
                  case rel => exact ⟨k + 1, by omega, by go_num, HBt⟩
                  case measure => simp [intOf]; omega
            · obtain rfl : k = G.length := by omega
              go_wp2
              go_ret
              exact ⟨rfl, (unhide HB7).trans ((unhide HBk).mono (unhide HB7).size)⟩
  · have HBn := hide (Order_any none 0 [] w1 (fun i x hx => by simp at hx) (by simp) (fun y h => by cases h) (fun y h => by cases h) (fun y h => by cases h))
    by_cases he : er = 0
    · subst he
      have hl0 : l.length = 0 := by
        rcases Nat.eq_zero_or_pos l.length with h | h
        · exact h
        · exact absurd ⟨rfl, h⟩ hok
      have hl1 : (((l.length : Nat) : Int) == 0) = true := by rw [hl0]; rfl
      clear hok HPA
      go_wp2_with fail
      refine (unhide HBn).mono ?_
      rintro e w2 ⟨v2, rfl, hO2, hB2⟩
      obtain ⟨a3, c3, rfl, _, _⟩ := hO2.at
      go_wp2
      go_ret
      exact ⟨ret_bool (by rfl), (unhide HB1).trans (hB2.mono (unhide HB1).size)⟩
    · have hk' : (er != 0) = true := bne_iff_ne.2 he
      clear hok HPA he
      go_wp2_with fail
      refine (unhide HBn).mono ?_
      rintro e w2 ⟨v2, rfl, hO2, hB2⟩
      obtain ⟨a3, c3, rfl, _, _⟩ := hO2.at
      go_wp2
      go_ret
      exact ⟨ret_bool (by rfl), (unhide HB1).trans (hB2.mono (unhide HB1).size)⟩
end Go.Proofs.Ytdpfinnclnapbaa
