/-
  The walk of the law FlowOrders: it returns true for all blocks, and writes nothing that was there.
-/
import Derived.Test.YtdpfinnclnapbaaOd2
import Derived.Test.YtdpfinnclnapbaaRdBk
import Derived.OpenShut
namespace Go.Proofs.Ytdpfinnclnapbaa
open Go.RowKit

theorem jvals_one (l : List Int) : ∀ u ∈ jvals l, u.oneCell' = true := by
  intro u hu
  unfold jvals at hu
  obtain ⟨x, _, rfl⟩ := List.mem_map.1 hu
  rfl
set_option maxHeartbeats 400000 in
theorem CloneJ_any (ao : Option Addr) (c : Nat) (l : List Int) (w : World) (hl : JsAt w ao l) (hn : ao = none → l = []) (hb : l.length ≤ 17592186043904) :
    Calls Try.prog 5 #[.slice ao l.length c] w fun e w' => ∃ v, e = .returned v ∧ OwnJ w' w.heap.size v l ∧ Below w.heap.size w w' := by
  have q22 : ∀ (w : World) (a : Option Addr) (n c n' c' : Nat), (binOp .eql 23 (.slice a n c) (.slice none n' c')).run Try.prog w = .ok (.bool a.isNone) w := fun w a n c n' c' => Lib.run_eql_slice_nil w _ _ a n c n' c' Try.underlying23
  obtain ⟨i0, hi, hz0, hz1, hz2⟩ := info_parts infoJ
  cases ao with
  | none =>
    have hl0 := hn rfl
    subst hl0
    go_enter Try.func5, Try.ntmps5
    go_wp2
    go_ret
    exact ⟨_, rfl, World.ownsRow_nil _ _ _ _, Below.refl _ _⟩
  | some x =>
    go_enter Try.func5, Try.ntmps5
    go_wp2_with (at_builtin; refine wpList_append_own _ rfl _ _ 23 rfl w.heap.size 3 i0 (.int .i64 0) 1 8 Try.underlying23 hi hz0 hz1 hz2 rfl (by decide) _ 0 [] rfl (World.ownsRow_made w #[] 0 (Nat.le_refl _) (by decide) rfl) x l.length c (jvals l) rfl ?c0 ?c1 ?c2 ?c3 ?c4 ?c5 ?_)
    case c0 => simp [jvals]
    case c1 =>
      intro j u hj
      unfold jvals at hj
      rw [List.getElem?_map] at hj
      obtain ⟨a, ha, rfl⟩ := Option.map_eq_some_iff.1 hj
      obtain ⟨b, off, e, hcell⟩ := hl j a ha
      injection e with e
      subst e
      have hlt := World.block_lt_of_cell? w _ hcell
      rw [Addr.add_lit]
      exact (((Below.refl w.heap.size w).alloc (Nat.le_refl _) _).cell (p := ⟨b, off + j, none⟩) hlt).trans hcell
    case c2 => exact jvals_one l
    case c3 => unfold maxLen; omega
    case c4 => omega
    case c5 => simp
    · intro v' w1 hown hgrow _
      have HX : Hid (OwnJ w1 w.heap.size v' l) := hide (by simpa [OwnJ] using hown)
      have HB : Hid (Below w.heap.size w w1) := hide (((Below.refl w.heap.size w).alloc (Nat.le_refl _) _).trans (below_grown hgrow (by simp) (fun k e => by simp [Value.ownBlock] at e; omega)))
      clear hown hgrow hl
      go_wp2
      go_ret
      exact ⟨_, rfl, unhide HX, unhide HB⟩

def KBx (W : World) (g : Nat) (fr la : Int) (v : Value) : Prop := W.heap[g]? = some (.cells #[.int .i64 fr, .int .i64 la, v] 25 (0, 0))
theorem KBx.c2 {W : World} {g : Nat} {fr la : Int} {v : Value} (h : KBx W g fr la v) : W.cell? ⟨g, 2, none⟩ = some v := cell_of_row _ _ 2 _ _ _ h
theorem KBx.f {W : World} {g : Nat} {fr la : Int} {v : Value} (h : KBx W g fr la v) (i : Nat) : W.frozen? ⟨g, i, none⟩ = false := frozen_of_row _ _ _ _ _ h
theorem KBx.set2 {W : World} {g : Nat} {fr la : Int} {v : Value} (h : KBx W g fr la v) (v' : Value) : KBx (W.setCell ⟨g, 2, none⟩ v') g fr la v' := by
  unfold KBx at h ⊢
  simp only [World.setCell, Array.getElem?_modify, if_true, h]
  rfl
/-- While the copy is laid out. -/
structure GR (w wr : World) (v : Value) (M : List Bx) : Prop where
  own : OwnK wr w.heap.size v M
  nxs : ∀ y ∈ M, NxOwn wr w.heap.size y
  bel : Below w.heap.size w wr
theorem GR.below {w wr w' : World} {v : Value} {M : List Bx} (h : GR w wr v M) (hb : Below wr.heap.size wr w') : GR w w' v M := ⟨rowBelowJ h.own hb, fun y hy => (h.nxs y hy).below hb, h.bel.trans (hb.mono h.bel.size)⟩

theorem ordD_len (G : List Bx) : (ordD G).length ≤ G.length + G.length := by
  unfold ordD
  by_cases h : G.length = 0
  · rw [if_pos h]; simp
  · rw [if_neg h, List.length_append, List.length_reverse]
    have h1 := lvO_ct (G := G) (by omega)
    have h2 := unm_len (lvO G).1 G.length
    omega
theorem frI_pl {M G : List Bx} (h : M.map Bx.pl = G.map Bx.pl) : frI M = frI G := by
  funext a
  have e : ∀ L : List Bx, frI L a = (L.map Bx.pl).findIdx? (fun q => decide (q.1 = a)) := fun L => by
    unfold frI
    rw [List.findIdx?_map]
    rfl
  rw [e, e, h]
theorem suG_pl {M G : List Bx} (h : M.map Bx.pl = G.map Bx.pl) : suG M = suG G := by
  funext i
  have h1 := congrArg (fun q => q[i]?) h
  simp only [List.getElem?_map] at h1
  unfold suG
  rw [frI_pl h]
  cases hm : M[i]? with
  | none =>
    rw [hm] at h1
    cases hg : G[i]? with
    | none => rfl
    | some y => rw [hg] at h1; cases h1
  | some x =>
    rw [hm] at h1
    cases hg : G[i]? with
    | none => rw [hg] at h1; cases h1
    | some y =>
      rw [hg] at h1
      have h2 : x.nx = y.nx := congrArg (fun q => q.2.2) (Option.some.inj h1)
      simp only [h2]
theorem ordD_pl {M G : List Bx} (h : M.map Bx.pl = G.map Bx.pl) : ordD M = ordD G := by
  have hl : M.length = G.length := by have := congrArg List.length h; simpa using this
  unfold ordD lvO
  rw [suG_pl h, hl]

set_option maxRecDepth 20000 in
set_option maxHeartbeats 8000000 in
theorem walkFlowOrders {w : World} (ao : Option Addr) (c : Nat) (G : List Bx) (hx : BksAt w ao G) (hb : G.length * 40 ≤ 140737488351232) (hok : ∀ y ∈ G, BkOk y) :
    Calls Try.prog 3 #[.slice ao G.length c] w fun e w' => e = .returned (.bool true) ∧ Below w.heap.size w w' := by
  obtain ⟨i0, hi, hz0, hz1, hz2⟩ := info_parts infoBk
  have hz : G.length ≤ 3518437208783 := by omega
  have HX := hide hx
  have HOK := hide hok
  clear hx hok
  go_enter Try.func3, Try.ntmps3
  go_wp2
  go_loopw [3, 8] (fun v i wr => ∃ (k : Nat) (M : List Bx), k ≤ G.length ∧ i = .int .i64 (k : Int) ∧ Hid (GR w wr v M) ∧ Hid (M.map Bx.pl = (G.take k).map Bx.pl)) (fun _ i _ => G.length - (intOf i).toNat)
  case atStart => exact ⟨0, [], by omega, rfl, hide ⟨World.ownsRow_nil _ _ _ _, fun y hy => by simp at hy, Below.refl _ _⟩, hide rfl⟩
  case round =>
    obtain ⟨k, M, hk, rfl, HR, HP⟩ := hrel
    by_cases hkl : k < G.length
    · have j1 : ((k : Nat) : Int) < ((G.length : Nat) : Int) := by omega
      have hy := List.getElem?_eq_getElem hkl
      have hyo := unhide HOK _ (List.getElem_mem hkl)
      have HT : Hid ((G.take (k + 1)).map Bx.pl = (G.take k).map Bx.pl ++ [G[k].pl]) := hide (by rw [List.take_succ_eq_append_getElem hkl, List.map_append]; rfl)
      generalize G[k] = y at hy hyo HT
      obtain ⟨b, off, rfl, hyb⟩ := (unhide HX).below (unhide HR).bel k y hy
      obtain ⟨yf, yl, yo, yc, yn⟩ := y
      obtain ⟨c0, c1, c2, hyn⟩ := hyb
      simp only at c0 c1 c2 hyn
      have hal : Below wr.heap.size wr (wr.alloc (.cells #[.int .i64 yf, .int .i64 yl, .slice yo yn.length yc] 25)) := (Below.refl _ _).alloc (Nat.le_refl _) _
      have HR2 := hide ((unhide HR).below hal)
      have I2 : Hid (KBx (wr.alloc (.cells #[.int .i64 yf, .int .i64 yl, .slice yo yn.length yc] 25)) wr.heap.size yf yl (.slice yo yn.length yc)) := hide (heap_alloc_new wr _)
      have HN2 := hide (hyn.below hal)
      have HNN := hide hyo.nn
      have hnl := hyo.nl
      simp only at hnl
      have hML : M.length ≤ k := by have := congrArg List.length (unhide HP); rw [List.length_map, List.length_map, List.length_take] at this; omega
      clear hal hy hyn hyo
      go_upto_region 5 with fail
      generalize (wr.alloc (.cells #[.int .i64 yf, .int .i64 yl, .slice yo yn.length yc] 25)) = w2 at HR2 I2 HN2 ⊢
      generalize hgi : wr.heap.size = gi at I2 ⊢
      clear c0 c1 c2
      have HCl := hide (CloneJ_any yo yc yn w2 (unhide HN2) (unhide HNN) hnl)
      have d2 := (unhide I2).c2
      have hg2 : gi < w2.heap.size := (Array.getElem?_eq_some_iff.1 (unhide I2)).1
      have hgw : w.heap.size ≤ gi := by rw [← hgi]; exact (unhide HR).bel.size
      have HGI := hide hgi
      clear hgi
      go_wp2_with fail
      refine (unhide HCl).mono ?_
      rintro e w3 ⟨nv, rfl, hO3, hB3⟩
      obtain ⟨na, nc, rfl, _, _⟩ := hO3.at
      have I3 : Hid (KBx w3 gi yf yl (.slice yo yn.length yc)) := hide ((hB3.block gi hg2).trans (unhide I2))
      have HR3 := hide ((unhide HR2).below hB3)
      have d3 := (unhide I3).c2
      have f3 := (unhide I3).f 2
      have I4 := hide ((unhide I3).set2 (.slice na yn.length nc))
      have hg4 : w3.grownBy (w3.setCell ⟨gi, 2, none⟩ (.slice na yn.length nc)) (some gi) := ⟨rfl, rfl, rfl, by rw [World.size_setCell]; exact Nat.le_refl _, fun q _ hn => Below.heap_setCell w3 ⟨gi, 2, none⟩ (.slice na yn.length nc) q (fun e => hn (by rw [e]))⟩
      have hneK : ∀ g, u3.ownBlock = some g → g < gi := fun g e => by have := (World.ownsRow.lt (unhide HR).own g e).2; have := unhide HGI; omega
      have hw2s := (unhide HR2).bel.size
      have HOW : Hid (NxOwn (w3.setCell ⟨gi, 2, none⟩ (.slice na yn.length nc)) w.heap.size ⟨yf, yl, na, nc, yn⟩) := hide (ownJ_mono (rows_grownB hO3 hg4 (fun g e e2 => by have := (World.ownsRow.lt hO3 g e).1; injection e2 with e2; omega)) hw2s)
      have HNS : Hid (∀ y ∈ M, NxOwn (w3.setCell ⟨gi, 2, none⟩ (.slice na yn.length nc)) w.heap.size y) := hide (fun y hy => by
        refine rows_grownB ((unhide HR3).nxs y hy) hg4 (fun g e e2 => ?_)
        have := (World.ownsRow.lt ((unhide HR).nxs y hy) g e).2
        have := unhide HGI
        injection e2 with e2
        omega)
      have HR4 : Hid (GR w (w3.setCell ⟨gi, 2, none⟩ (.slice na yn.length nc)) u3 M) := hide ⟨rows_grownB (unhide HR3).own hg4 (fun g e e2 => by have := hneK g e; injection e2 with e2; omega), unhide HNS, (unhide HR3).bel.setCell (p := ⟨gi, 2, none⟩) hgw _⟩
      clear hO3 hB3 HCl d2 HNS hg4 hneK
      go_upto_region 6 with fail
      generalize (w3.setCell ⟨gi, 2, none⟩ (.slice na yn.length nc)) = w4 at I4 HR4 HOW ⊢
      clear d3 f3
      have hal : Below w4.heap.size w4 (w4.alloc (.cells #[.int .i64 yf, .int .i64 yl, .slice na yn.length nc] 25)) := (Below.refl _ _).alloc (Nat.le_refl _) _
      have HR5 := hide ((unhide HR4).below hal)
      have HOW5 := hide ((unhide HOW).below hal)
      have hs4 := (unhide HR4).bel.size
      clear hal
      go_wp2_with (first | (refine wpList_load_row rfl 25 (.tmp 5) rfl gi rfl 25 #[.int .i64 yf, .int .i64 yl, .slice na yn.length nc] (0, 0) _ (unhide I4) Try.underlying25 rfl (by kernel_rfl) ?_) | (at_builtin; refine wpList_append_own _ rfl _ _ 22 rfl w.heap.size 25 i0 (.agg #[.int .i64 0, .int .i64 0, .slice none 0 0]) 3 40 Try.underlying22 hi hz0 hz1 hz2 rfl (by decide) _ M.length (kvals M) rfl (unhide HR5).own ⟨w4.heap.size, 0, none⟩ 1 1 (kcells ⟨yf, yl, na, nc, yn⟩) rfl rfl (World.news_of_block (cs := #[.int .i64 yf, .int .i64 yl, .slice na yn.length nc]) (t := 25) (fr := (0, 0)) (heap_alloc_new w4 _)) (kcells_one _) ?a3 ?a4 ?a5 ?_))
      case a3 => unfold maxLen; omega
      case a4 => omega
      case a5 => first | omega | (rw [World.size_alloc]; omega)
      intro v8 w8 hO8 hG8 _
      have HR8 : Hid (GR w w8 v8 (M ++ [⟨yf, yl, na, nc, yn⟩])) := hide ⟨by unfold OwnK; rw [kvals_snoc, List.length_append]; exact hO8, fun y hy => by
        rcases List.mem_append.1 hy with hy | hy
        · exact ((unhide HR5).nxs y hy).grown (unhide HR5).own hG8
        · rw [List.mem_singleton.1 hy]
          exact (unhide HOW5).grown (unhide HR5).own hG8, (unhide HR5).bel.grown hG8 (unhide HR5).bel.size (fun q e => (World.ownsRow.lt (unhide HR5).own q e).1)⟩
      have HP8 : Hid ((M ++ [(⟨yf, yl, na, nc, yn⟩ : Bx)]).map Bx.pl = (G.take (k + 1)).map Bx.pl) := hide (by rw [List.map_append, unhide HP, unhide HT]; rfl)
      clear hO8 hG8
      go_wp2
      go_roundw
      case rel => exact ⟨k + 1, _, by omega, by go_num, HR8, HP8⟩
      case measure => simp [intOf]; omega
    · obtain rfl : k = G.length := by omega
      rw [List.take_length] at HP
      obtain ⟨a3, c3, rfl, hK3⟩ := (unhide HR).own.at (unhide HR).nxs
      have hML : M.length ≤ G.length := by have := congrArg List.length (unhide HP); simp at this; omega
      have HOKM : Hid (∀ y ∈ M, (y.nx.length ≤ 17592186043904) ∧ (-9223372036854775808 ≤ y.fr ∧ y.fr ≤ 9223372036854775807) ∧ (∀ a ∈ y.nx, -9223372036854775808 ≤ a ∧ a ≤ 9223372036854775807)) := hide (fun y hy => by
        have h1 : y.pl ∈ G.map Bx.pl := by rw [← unhide HP]; exact List.mem_map_of_mem hy
        obtain ⟨g, hg, e⟩ := List.mem_map.1 h1
        have h2 := unhide HOK g hg
        have e1 : g.fr = y.fr := congrArg (fun q => q.1) e
        have e2 : g.nx = y.nx := congrArg (fun q => q.2.2) e
        rw [← e1, ← e2]
        exact ⟨h2.nl, h2.fb, h2.nb⟩)
      have HO := hide (Order_any a3 c3 M wr hK3 (by omega) (fun y hy => by have := (unhide HOKM y hy).1; omega) (fun y hy => (unhide HOKM y hy).2.1) (fun y hy => (unhide HOKM y hy).2.2))
      rw [ordD_pl (unhide HP)] at HO
      have HK3 := hide hK3
      have HB3 := hide (unhide HR).bel
      have hol : (ordD G).length ≤ G.length + G.length := ordD_len G
      clear hK3 HR HOKM
      go_wp2_with fail
      refine (unhide HO).mono ?_
      rintro e w4 ⟨v4, rfl, hO4, hB4⟩
      obtain ⟨a4, c4, rfl, hJ4, _⟩ := hO4.at
      have HJ4 := hide hJ4
      have HK4 := hide ((unhide HK3).below hB4)
      have HB4 := hide ((unhide HB3).trans (hB4.mono (unhide HB3).size))
      have HO5 := hide (refOrder_any ao c G w4 ((unhide HX).below (unhide HB4)) (by omega) (fun y hy => by have := (unhide HOK y hy).nl; omega))
      clear hO4 hJ4 hB4 HO HK3 HB3
      go_wp2_with fail
      refine (unhide HO5).mono ?_
      rintro e w5 ⟨v5, rfl, hO5, hB5⟩
      obtain ⟨a5, c5, rfl, hJ5, _⟩ := hO5.at
      have HK5 := hide ((unhide HK4).below hB5)
      have HB5 := hide ((unhide HB4).trans (hB5.mono (unhide HB4).size))
      have HE := hide (EqualJ_same (c := c4) (d := c5) ((unhide HJ4).below hB5) hJ5 (by rw [jn_len]; omega))
      clear hO5 hJ5 hB5 HO5 HK4 HB4 HJ4
      go_wp2_with fail
      refine (unhide HE).mono ?_
      rintro e w6 ⟨rfl, q6, rfl⟩
      have HB6 := hide (belowD (unhide HB5) q6)
      have HS := hide (SameBlocks_yes a3 ao c3 c G M (w5.drewN q6) ((unhide HK5).below (belowD (Below.refl _ _) q6)) ((unhide HX).below (unhide HB6)) (unhide HP) (by omega) (fun y hy => by have := (unhide HOK y hy).nl; omega))
      clear HE HK5 HB5
      generalize w5.drewN q6 = w6 at HB6 HS ⊢
      go_wp2_with fail
      refine (unhide HS).mono ?_
      rintro e w7 ⟨rfl, hB7⟩
      go_wp2
      go_ret
      exact ⟨rfl, (unhide HB6).trans (hB7.mono (unhide HB6).size)⟩
end Go.Proofs.Ytdpfinnclnapbaa
