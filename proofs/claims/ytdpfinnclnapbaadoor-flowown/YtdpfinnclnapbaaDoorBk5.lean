/-
  flow.Blocks: what the plain function says, in rows of its own.
-/
import Derived.Test.YtdpfinnclnapbaaDoorBk1
import Derived.Test.YtdpfinnclnapbaaDoorSc1
import Derived.Deep.AppendLies
import Derived.Deep.DeepAppendWide
namespace Go.Proofs.YtdpfinnclnapbaaDoor
open Go.RowKit Go.Maps
set_option maxRecDepth 20000

theorem ownK_mono {w : World} {b b' : Nat} {v : Value} {l : List Bx} (h : OwnK w b v l) (hb : b' ≤ b) : OwnK w b' v l := by
  rcases h with ⟨h1, h2 | ⟨g, cap, cur, a, h3, rest⟩⟩
  · exact ⟨h1, .inl h2⟩
  · exact ⟨h1, .inr ⟨g, cap, cur, a, Nat.le_trans hb h3, rest⟩⟩
/-- Their ways on lie in different blocks. -/
def AptK (M : List Bx) : Prop := M.Pairwise (fun a b => ∀ q, (Value.slice a.no a.nx.length a.nc).ownBlock = some q → (Value.slice b.no b.nx.length b.nc).ownBlock ≠ some q)
/-- While blocks are told. -/
structure KRun (w3 wr : World) (l : List Ix) (ls : List Nat) (v : Value) (M : List Bx) (k : Nat) : Prop where
  own : OwnK wr w3.heap.size v M
  nxs : ∀ y ∈ M, NxOwn wr w3.heap.size y
  bel : Below w3.heap.size w3 wr
  pls : M.map Bx.pl = (List.range k).map (blkN l ls)
  apt : AptK M
theorem KRun.len {w3 wr : World} {l : List Ix} {ls : List Nat} {v : Value} {M : List Bx} {k : Nat} (h : KRun w3 wr l ls v M k) : M.length = k := by
  have := congrArg List.length h.pls
  simpa using this
theorem KRun.step {w3 wr w6 w7 : World} {l : List Ix} {ls : List Nat} {v v' : Value} {M : List Bx} {k : Nat} {y : Bx} {b6 : Nat} {obj : Obj} (h : KRun w3 wr l ls v M k) (hB : Below wr.heap.size wr w6) (hO : OwnJ w6 b6 (.slice y.no y.nx.length y.nc) y.nx) (hb6 : w3.heap.size ≤ b6) (hbr : wr.heap.size ≤ b6) (hy : y.pl = blkN l ls k) (hown : w7.ownsRow w3.heap.size 34 3 v' (M.length + 1) (kvals M ++ kcells y)) (hg : (w6.alloc obj).grownBy w7 v.ownBlock) : KRun w3 w7 l ls v' (M ++ [y]) (k + 1) := by
  have hB3 : Below wr.heap.size wr (w6.alloc obj) := hB.alloc hB.size _
  have hS3 : OwnK (w6.alloc obj) w3.heap.size v M := rowBelowJ h.own hB3
  refine ⟨?_, ?_, ?_, ?_, ?_⟩
  · unfold OwnK
    rw [kvals_snoc, List.length_append]
    exact hown
  · intro z hz
    rcases List.mem_append.1 hz with hz | hz
    · exact ((h.nxs z hz).below hB3).grown hS3 hg
    · simp at hz
      subst hz
      have h1 : NxOwn (w6.alloc obj) w3.heap.size z := ownJ_mono (World.ownsRow.alloc hO _) hb6
      exact h1.grown hS3 hg
  · exact (h.bel.trans (hB3.mono h.bel.size)).grown hg (Nat.le_trans h.bel.size hB3.size) (fun q e => (World.ownsRow.lt h.own q e).1)
  · rw [List.map_append, h.pls, List.range_succ, List.map_append]
    simp [hy]
  · refine List.pairwise_append.2 ⟨h.apt, List.pairwise_singleton _ _, fun a ha b hb q e1 e2 => ?_⟩
    rw [List.mem_singleton.1 hb] at e2
    have h1 := (World.ownsRow.lt (h.nxs a ha) q e1).2
    have h2 := (World.ownsRow.lt hO q e2).1
    omega

set_option maxRecDepth 20000 in
set_option maxHeartbeats 8000000 in
theorem Blocks_apt (ao : Option Addr) (c : Nat) (l : List Ix) (w : World) (hx : XsAt w ao l) (hz : l.length ≤ 4398046511104) (hW : WidAt w) (hbd : ∀ x ∈ l, (-9223372036854775808 ≤ x.a ∧ x.a ≤ 9223372036854775807) ∧ (-9223372036854775808 ≤ x.p ∧ x.p ≤ 9223372036854775807)) :
    Calls Tryd.prog 6 #[.slice ao l.length c] w fun e w' => ∃ v M, e = .returned v ∧ OwnK w' w.heap.size v M ∧ (∀ y ∈ M, NxOwn w' w.heap.size y) ∧ M.map Bx.pl = bkD l ∧ Below w.heap.size w w' ∧ AptK M := by
  obtain ⟨i0, hi, hz0, hz1, hz2⟩ := info_parts infoBk
  have HRI := hide (rises_any ao c l w hx (by omega))
  have HX := hide hx
  have HBD := hide hbd
  have HW := hide hW
  clear hx hbd hW
  go_enter Tryd.func6, Tryd.ntmps6
  go_wp2_with fail
  refine (unhide HRI).mono ?_
  rintro e w1 ⟨rfl, hB1⟩
  have HB1 := hide hB1
  clear hB1 HRI
  cases hr : rsB l
  · have HR : Hid (bkD l = []) := hide (by unfold bkD; rw [hr]; rfl)
    clear hr
    go_wp2
    go_ret
    exact ⟨_, [], rfl, World.ownsRow_nil _ _ _ _, fun y hy => by simp at hy, (unhide HR).symm, unhide HB1, List.Pairwise.nil⟩
  have HR : Hid (bkD l = (List.range (ldN l l.length).length).map (blkN l (ldN l l.length))) := hide (by unfold bkD; rw [if_pos hr])
  clear hr
  have HF := hide (firsts_any ao c l w1 ((unhide HX).below (unhide HB1)) (by omega) (fun x h => (unhide HBD x h).2))
  go_wp2_with fail
  refine (unhide HF).mono ?_
  rintro e w2 ⟨rfl, hM2, hB2⟩
  have HM2 := hide hM2
  have HB2 := hide ((unhide HB1).trans (hB2.mono (unhide HB1).size))
  have HL := hide (leading_any ao c l w2 ((unhide HX).below (unhide HB2)) (by omega) (unhide HBD))
  obtain ⟨m, HMm⟩ : ∃ m, Hid (w1.heap.size + 1 = m) := ⟨_, hide rfl⟩
  rw [unhide HMm] at HM2 ⊢
  clear hM2 hB2 HF HB1
  go_wp2_with fail
  refine (unhide HL).mono ?_
  rintro e w3 ⟨lv, rfl, hO3, hB3⟩
  have HB3 := hide ((unhide HB2).trans (hB3.mono (unhide HB2).size))
  have HM3 : Hid (MapAt w3 m l.length (bks l)) := hide (World.ownsMap.kept (unhide HM2) (grownX hB3) (fun e => by cases e))
  have HX3 := hide ((unhide HX).below (unhide HB3))
  have HW3 := hide ((unhide HW).below (unhide HB3))
  obtain ⟨la, lc, rfl, hJ3, _⟩ := hO3.at
  have HJ3 := hide hJ3
  have HEN := hide (fun k (h : k < (ldN l l.length).length) => endN_in h)
  have hll := ldN_len l l.length
  rw [show (jn (ldN l l.length)).length = (ldN l l.length).length from by unfold jn; rw [List.length_map]]
  generalize ldN l l.length = ls at HR HJ3 HEN hll ⊢
  clear hJ3 hO3 hB3 HL HM2 HB2 HX HW HMm w1 w2
  go_wp2
  go_loopw [5, 19] (fun v i wr => ∃ (k : Nat) (M : List Bx), k ≤ ls.length ∧ i = .int .i64 (k : Int) ∧ Hid (KRun w3 wr l ls v M k)) (fun _ i _ => ls.length - (intOf i).toNat)
  case atStart => exact ⟨0, [], by omega, rfl, hide ⟨World.ownsRow_nil _ _ _ _, fun y hy => by simp at hy, Below.refl _ _, rfl, List.Pairwise.nil⟩⟩
  case round =>
    obtain ⟨k, M, hk, rfl, HK⟩ := hrel
    by_cases hlt : k < ls.length
    · have j1 : ((k : Nat) : Int) < ((ls.length : Nat) : Int) := by omega
      have hlk := List.getElem?_eq_getElem hlt
      have hen := unhide HEN k hlt
      have HGK : Hid (ls.getD k 0 = ls[k]) := hide (by rw [List.getD_eq_getElem?_getD, hlk]; rfl)
      obtain ⟨lb, lo, rfl, hlc⟩ := (unhide HJ3).below (unhide HK).bel k ((ls[k] : Nat) : Int) (by unfold jn; rw [List.getElem?_map, hlk]; rfl)
      generalize ls[k] = f at hlc hen HGK
      have hfl : f < l.length := by omega
      have jf : ((f : Nat) : Int) < ((l.length : Nat) : Int) := by omega
      have jf0 : (0 : Int) ≤ ((f : Nat) : Int) := by omega
      have hxf := List.getElem?_eq_getElem hfl
      obtain ⟨b, off, rfl, hxa⟩ := (unhide HX3).below (unhide HK).bel f _ hxf
      have HXF := hide hxf
      generalize l[f] = xf at hxa HXF
      have c0 := hxa.c0
      clear hlk hxf hxa
      by_cases h2 : k + 1 < ls.length
      · have ja : ((k : Nat) : Int) + 1 < ((ls.length : Nat) : Int) := by omega
        have hl2 := List.getElem?_eq_getElem h2
        obtain ⟨lb', lo', e, hlc2⟩ := (unhide HJ3).below (unhide HK).bel (k + 1) ((ls[k + 1] : Nat) : Int) (by unfold jn; rw [List.getElem?_map, hl2]; rfl)
        injection e with e
        injection e with e1 e2
        subst e1 e2
        have HEE : Hid (endN l ls k = ls[k + 1]) := hide (by unfold endN; rw [if_pos h2, List.getD_eq_getElem?_getD, hl2]; rfl)
        generalize ls[k + 1] = E at hlc2 HEE
        rw [unhide HEE] at hen
        have hlc3 : wr.cell? ⟨lb, lo + (k + 1), none⟩ = some (.int .i64 ((E : Nat) : Int)) := hlc2
        clear hl2 hlc2
        obtain ⟨q, rfl⟩ : ∃ q, E = q + 1 := ⟨E - 1, by omega⟩
        have jq : ((q + 1 : Nat) : Int) - 1 = ((q : Nat) : Int) := by omega
        have hql : q < l.length := by omega
        have jql : ((q : Nat) : Int) < ((l.length : Nat) : Int) := by omega
        have hxq := List.getElem?_eq_getElem hql
        obtain ⟨b', off', e, hya⟩ := (unhide HX3).below (unhide HK).bel q _ hxq
        injection e with e
        injection e with e1 e2
        subst e1 e2
        have HXQ := hide hxq
        have hym := (unhide HBD) _ (List.getElem_mem hql)
        generalize l[q] = y at hya HXQ hym
        have HPL : Hid ((pD l f, pD l q, nxD l q) = blkN l ls k) := hide (by unfold blkN; rw [unhide HGK, unhide HEE]; rfl)
        have HP1 : Hid (pD l f = xf.p) := hide (by unfold pD; rw [unhide HXF])
        have HP2 : Hid (pD l q = y.p) := hide (by unfold pD; rw [unhide HXQ])
        have HP3 : Hid (nxD l q = (nextD y.p y.op y.a).filter (hasP l)) := hide (by unfold nxD; rw [unhide HXQ])
        rw [unhide HP1, unhide HP2, unhide HP3] at HPL
        obtain ⟨d0, d1, d2, d3, ho⟩ := hya
        have HNB : Hid (∀ z ∈ nextD y.p y.op y.a, -9223372036854775808 ≤ z ∧ z ≤ 9223372036854775807) := hide (fun z hz => next_bd hym.1 hz)
        have hnl := nextD_len y.p y.op y.a
        have hbw3 : b < w3.heap.size := by obtain ⟨b2, o2, e, hh⟩ := (unhide HX3) f xf (unhide HXF); injection e with e; injection e with e; rw [e]; exact World.block_lt_of_cell? w3 _ hh.c0
        clear hxq hym HP1 HP2 HP3 HGK HEE hen HXQ HXF
        go_upto_region 12 with fail
        obtain ⟨gi, HGI⟩ : ∃ gi, Hid (wr.heap.size = gi) := ⟨_, hide rfl⟩
        obtain ⟨w4, HW4⟩ : ∃ w4, Hid (wr.alloc (.cells #[.int .i64 y.p, .int .u8 (y.op : Int), .int .i64 y.a, .int .i64 y.b] 31) = w4) := ⟨_, hide rfl⟩
        have hB4 : Below wr.heap.size wr w4 := by rw [← unhide HW4]; exact (Below.refl _ _).alloc (Nat.le_refl _) _
        have hrow : w4.heap[gi]? = some (.cells #[.int .i64 y.p, .int .u8 (y.op : Int), .int .i64 y.a, .int .i64 y.b] 31) := by rw [← unhide HW4, ← unhide HGI]; exact heap_alloc_new wr _
        rw [unhide HW4, unhide HGI]
        have s0 : w4.cell? ⟨gi, 0, none⟩ = some (.int .i64 y.p) := by rw [cell_of_row _ _ _ _ _ _ hrow]; rfl
        have s1 : w4.cell? ⟨gi, 1, none⟩ = some (.int .u8 (y.op : Int)) := by rw [cell_of_row _ _ _ _ _ _ hrow]; rfl
        have s2 : w4.cell? ⟨gi, 2, none⟩ = some (.int .i64 y.a) := by rw [cell_of_row _ _ _ _ _ _ hrow]; rfl
        have s3 : w4.cell? ⟨gi, 3, none⟩ = some (.int .i64 y.b) := by rw [cell_of_row _ _ _ _ _ _ hrow]; rfl
        have hgi : gi < w4.heap.size := World.block_lt_of_cell? w4 _ s0
        have hbr : b < wr.heap.size := World.block_lt_of_cell? wr _ c0
        have hb4 : b < w4.heap.size := Nat.lt_of_lt_of_le hbr hB4.size
        have a0 : w4.cell? ⟨b, off + f * 4, none⟩ = some (.int .i64 xf.p) := (hB4.cell (p := ⟨b, off + f * 4, none⟩) hbr).trans c0
        have HB4 := hide hB4
        have hw34 : w3.heap.size ≤ wr.heap.size := (unhide HK).bel.size
        have HVb : Hid (some b ≠ u5.ownBlock) := hide (fun e => by have := (World.ownsRow.lt (unhide HK).own b e.symm).1; omega)
        have HVg : Hid (some gi ≠ u5.ownBlock) := hide (fun e => by have := (World.ownsRow.lt (unhide HK).own gi e.symm).2; have := unhide HGI; omega)
        have HQ : Hid (∀ W, Below w4.heap.size w4 W → (fun W => W.cell? ⟨b, off + f * 4, none⟩ = some (.int .i64 xf.p) ∧ W.cell? ⟨gi, 0, none⟩ = some (.int .i64 y.p) ∧ W.cell? ⟨gi, 1, none⟩ = some (.int .u8 (y.op : Int)) ∧ W.cell? ⟨gi, 2, none⟩ = some (.int .i64 y.a) ∧ W.cell? ⟨gi, 3, none⟩ = some (.int .i64 y.b)) W) := hide (fun W hW => ⟨(hW.cell (p := ⟨b, off + f * 4, none⟩) hb4).trans a0, (hW.cell (p := ⟨gi, 0, none⟩) hgi).trans s0, (hW.cell (p := ⟨gi, 1, none⟩) hgi).trans s1, (hW.cell (p := ⟨gi, 2, none⟩) hgi).trans s2, (hW.cell (p := ⟨gi, 3, none⟩) hgi).trans s3⟩)
        have HD : Hid (Below w4.heap.size w4 w4.drew) := hide (belowD (Below.refl _ _) 1)
        have HB34 : Hid (Below w3.heap.size w3 w4) := hide ((unhide HK).bel.trans (hB4.mono hw34))
        have HNX := hide (Next_any y.p y.op y.a y.b w4.drew ((unhide HW3).below ((unhide HB34).trans ((unhide HD).mono (unhide HB34).size))) ho)
        have HM4 : Hid (∀ W, Below w4.heap.size w4 W → MapAt W m l.length (bks l)) := hide (fun W hW => World.ownsMap.kept (unhide HM3) (grownX ((unhide HB34).trans (hW.mono (unhide HB34).size))) (fun e => by cases e))
        have HMM : Hid (m < w3.heap.size) := hide (World.ownsMap.lt (unhide HM3))
        have HMk : Hid (M.length + 1 ≤ maxLen ∧ ((M.length + 1) + (M.length + 1) / 4 + 192) * 40 ≤ 281474976710656) := hide (by have := (unhide HK).len; unfold maxLen; omega)
        have h44 : wr.heap.size ≤ w4.heap.size := hB4.size
        clear d0 d1 d2 d3 hB4 hrow HW4
        go_region_held3 (fun W => W.cell? ⟨b, off + f * 4, none⟩ = some (.int .i64 xf.p) ∧ W.cell? ⟨gi, 0, none⟩ = some (.int .i64 y.p) ∧ W.cell? ⟨gi, 1, none⟩ = some (.int .u8 (y.op : Int)) ∧ W.cell? ⟨gi, 2, none⟩ = some (.int .i64 y.a) ∧ W.cell? ⟨gi, 3, none⟩ = some (.int .i64 y.b)) (first | exact q7 | exact unhide HQ _ (hB6.alloc hB6.size _) | exact unhide HQ _ hB6 | exact unhide HQ _ hB5 | go_keep) (first | (go_at_call 8; refine (unhide HNX).mono ?_; rintro e w5 ⟨nv, rfl, hO5, hB5'⟩; have hB5 : Below w4.heap.size w4 w5 := (unhide HD).trans hB5'; clear hB5') | (go_at_call 28; refine (among_any nv w4.drew.heap.size (nextD y.p y.op y.a) m l w5 hO5 (show w4.heap.size ≤ w5.heap.size from hB5.size) (by omega) (unhide HM4 w5 hB5) (fun e => by have h1 := (World.ownsRow.lt hO5 m e.symm).1; have h3 : w4.heap.size ≤ m := h1; have := unhide HMM; omega) (unhide HNB)).mono ?_; rintro e w6 ⟨nv2, rfl, hO6, hG6⟩; obtain ⟨na, ncap, rfl, _, _⟩ := hO6.at; have hB6 : Below w4.heap.size w4 w6 := hB5.grown hG6 hB5.size (fun q e => (World.ownsRow.lt hO5 q e).1); clear hG6) | (rw [if_pos (by rfl)]; refine wp_append_own_wide (w6.alloc (.cells #[.int .i64 xf.p, .int .i64 y.p, .slice na ((nextD y.p y.op y.a).filter (hasP l)).length ncap] 34)) (.tmp 41) (.tmp 54) 27 (by rfl) w3.heap.size 34 i0 _ 3 40 Tryd.underlying27 hi hz0 hz1 hz2 rfl (by omega) u5 M.length (kvals M) (by rfl) (rowBelowJ (unhide HK).own ((unhide HB4).trans ((hB6.alloc hB6.size _).mono h44))) ⟨w6.heap.size, 0, none⟩ 1 1 (kcells ⟨xf.p, y.p, na, ncap, (nextD y.p y.op y.a).filter (hasP l)⟩) (by rfl) (by rfl) (World.news_of_block (cs := #[.int .i64 xf.p, .int .i64 y.p, .slice na ((nextD y.p y.op y.a).filter (hasP l)).length ncap]) (t := 34) (fr := (0, 0)) (heap_alloc_new w6 _)) (kcells_one _) (unhide HMk).1 (unhide HMk).2 (by have := hB6.size; simp; omega) ?_; intro v7 w7 hown hgrow hat; have hB6a := hB6.alloc hB6.size (.cells #[.int .i64 xf.p, .int .i64 y.p, .slice na ((nextD y.p y.op y.a).filter (hasP l)).length ncap] 34); have q6 := unhide HQ _ hB6a; have q7 : (fun W => W.cell? ⟨b, off + f * 4, none⟩ = some (.int .i64 xf.p) ∧ W.cell? ⟨gi, 0, none⟩ = some (.int .i64 y.p) ∧ W.cell? ⟨gi, 1, none⟩ = some (.int .u8 (y.op : Int)) ∧ W.cell? ⟨gi, 2, none⟩ = some (.int .i64 y.a) ∧ W.cell? ⟨gi, 3, none⟩ = some (.int .i64 y.b)) w7 := ⟨(hgrow.cell_far ⟨b, off + f * 4, none⟩ (Nat.lt_of_lt_of_le hb4 hB6a.size) (unhide HVb)).trans q6.1, (hgrow.cell_far ⟨gi, 0, none⟩ (Nat.lt_of_lt_of_le hgi hB6a.size) (unhide HVg)).trans q6.2.1, (hgrow.cell_far ⟨gi, 1, none⟩ (Nat.lt_of_lt_of_le hgi hB6a.size) (unhide HVg)).trans q6.2.2.1, (hgrow.cell_far ⟨gi, 2, none⟩ (Nat.lt_of_lt_of_le hgi hB6a.size) (unhide HVg)).trans q6.2.2.2.1, (hgrow.cell_far ⟨gi, 3, none⟩ (Nat.lt_of_lt_of_le hgi hB6a.size) (unhide HVg)).trans q6.2.2.2.2⟩))
        have HK2 := hide (KRun.step (y := ⟨xf.p, y.p, na, ncap, (nextD y.p y.op y.a).filter (hasP l)⟩) (unhide HK) ((unhide HB4).trans (hB6.mono h44)) hO6 (show w3.heap.size ≤ w4.heap.size by omega) h44 (unhide HPL) hown hgrow)
        clear hown hgrow hat hO5 hO6 hB5 hB6 hB6a q6 q7
        go_wp2
        go_roundw
        case rel => exact ⟨k + 1, _, by omega, by go_num, HK2⟩
        case measure => simp [intOf]; omega
      · have ja : ¬ ((k : Nat) : Int) + 1 < ((ls.length : Nat) : Int) := by omega
        have HEE : Hid (endN l ls k = l.length) := hide (by unfold endN; rw [if_neg h2])
        obtain ⟨E, hE⟩ : ∃ E, E = l.length := ⟨_, rfl⟩
        rw [unhide HEE, ← hE] at hen
        rw [← hE] at HEE
        obtain ⟨q, rfl⟩ : ∃ q, E = q + 1 := ⟨E - 1, by omega⟩
        have jq : ((q + 1 : Nat) : Int) - 1 = ((q : Nat) : Int) := by omega
        have hql : q < l.length := by omega
        have jql : ((q : Nat) : Int) < ((l.length : Nat) : Int) := by omega
        have jq2 : ((l.length : Nat) : Int) - 1 = ((q : Nat) : Int) := by omega
        clear hE
        have hxq := List.getElem?_eq_getElem hql
        obtain ⟨b', off', e, hya⟩ := (unhide HX3).below (unhide HK).bel q _ hxq
        injection e with e
        injection e with e1 e2
        subst e1 e2
        have HXQ := hide hxq
        have hym := (unhide HBD) _ (List.getElem_mem hql)
        generalize l[q] = y at hya HXQ hym
        have HPL : Hid ((pD l f, pD l q, nxD l q) = blkN l ls k) := hide (by unfold blkN; rw [unhide HGK, unhide HEE]; rfl)
        have HP1 : Hid (pD l f = xf.p) := hide (by unfold pD; rw [unhide HXF])
        have HP2 : Hid (pD l q = y.p) := hide (by unfold pD; rw [unhide HXQ])
        have HP3 : Hid (nxD l q = (nextD y.p y.op y.a).filter (hasP l)) := hide (by unfold nxD; rw [unhide HXQ])
        rw [unhide HP1, unhide HP2, unhide HP3] at HPL
        obtain ⟨d0, d1, d2, d3, ho⟩ := hya
        have HNB : Hid (∀ z ∈ nextD y.p y.op y.a, -9223372036854775808 ≤ z ∧ z ≤ 9223372036854775807) := hide (fun z hz => next_bd hym.1 hz)
        have hnl := nextD_len y.p y.op y.a
        have hbw3 : b < w3.heap.size := by obtain ⟨b2, o2, e, hh⟩ := (unhide HX3) f xf (unhide HXF); injection e with e; injection e with e; rw [e]; exact World.block_lt_of_cell? w3 _ hh.c0
        clear hxq hym HP1 HP2 HP3 HGK HEE hen HXQ HXF
        go_upto_region 12 with fail
        obtain ⟨gi, HGI⟩ : ∃ gi, Hid (wr.heap.size = gi) := ⟨_, hide rfl⟩
        obtain ⟨w4, HW4⟩ : ∃ w4, Hid (wr.alloc (.cells #[.int .i64 y.p, .int .u8 (y.op : Int), .int .i64 y.a, .int .i64 y.b] 31) = w4) := ⟨_, hide rfl⟩
        have hB4 : Below wr.heap.size wr w4 := by rw [← unhide HW4]; exact (Below.refl _ _).alloc (Nat.le_refl _) _
        have hrow : w4.heap[gi]? = some (.cells #[.int .i64 y.p, .int .u8 (y.op : Int), .int .i64 y.a, .int .i64 y.b] 31) := by rw [← unhide HW4, ← unhide HGI]; exact heap_alloc_new wr _
        rw [unhide HW4, unhide HGI]
        have s0 : w4.cell? ⟨gi, 0, none⟩ = some (.int .i64 y.p) := by rw [cell_of_row _ _ _ _ _ _ hrow]; rfl
        have s1 : w4.cell? ⟨gi, 1, none⟩ = some (.int .u8 (y.op : Int)) := by rw [cell_of_row _ _ _ _ _ _ hrow]; rfl
        have s2 : w4.cell? ⟨gi, 2, none⟩ = some (.int .i64 y.a) := by rw [cell_of_row _ _ _ _ _ _ hrow]; rfl
        have s3 : w4.cell? ⟨gi, 3, none⟩ = some (.int .i64 y.b) := by rw [cell_of_row _ _ _ _ _ _ hrow]; rfl
        have hgi : gi < w4.heap.size := World.block_lt_of_cell? w4 _ s0
        have hbr : b < wr.heap.size := World.block_lt_of_cell? wr _ c0
        have hb4 : b < w4.heap.size := Nat.lt_of_lt_of_le hbr hB4.size
        have a0 : w4.cell? ⟨b, off + f * 4, none⟩ = some (.int .i64 xf.p) := (hB4.cell (p := ⟨b, off + f * 4, none⟩) hbr).trans c0
        have HB4 := hide hB4
        have hw34 : w3.heap.size ≤ wr.heap.size := (unhide HK).bel.size
        have HVb : Hid (some b ≠ u5.ownBlock) := hide (fun e => by have := (World.ownsRow.lt (unhide HK).own b e.symm).1; omega)
        have HVg : Hid (some gi ≠ u5.ownBlock) := hide (fun e => by have := (World.ownsRow.lt (unhide HK).own gi e.symm).2; have := unhide HGI; omega)
        have HQ : Hid (∀ W, Below w4.heap.size w4 W → (fun W => W.cell? ⟨b, off + f * 4, none⟩ = some (.int .i64 xf.p) ∧ W.cell? ⟨gi, 0, none⟩ = some (.int .i64 y.p) ∧ W.cell? ⟨gi, 1, none⟩ = some (.int .u8 (y.op : Int)) ∧ W.cell? ⟨gi, 2, none⟩ = some (.int .i64 y.a) ∧ W.cell? ⟨gi, 3, none⟩ = some (.int .i64 y.b)) W) := hide (fun W hW => ⟨(hW.cell (p := ⟨b, off + f * 4, none⟩) hb4).trans a0, (hW.cell (p := ⟨gi, 0, none⟩) hgi).trans s0, (hW.cell (p := ⟨gi, 1, none⟩) hgi).trans s1, (hW.cell (p := ⟨gi, 2, none⟩) hgi).trans s2, (hW.cell (p := ⟨gi, 3, none⟩) hgi).trans s3⟩)
        have HD : Hid (Below w4.heap.size w4 w4.drew) := hide (belowD (Below.refl _ _) 1)
        have HB34 : Hid (Below w3.heap.size w3 w4) := hide ((unhide HK).bel.trans (hB4.mono hw34))
        have HNX := hide (Next_any y.p y.op y.a y.b w4.drew ((unhide HW3).below ((unhide HB34).trans ((unhide HD).mono (unhide HB34).size))) ho)
        have HM4 : Hid (∀ W, Below w4.heap.size w4 W → MapAt W m l.length (bks l)) := hide (fun W hW => World.ownsMap.kept (unhide HM3) (grownX ((unhide HB34).trans (hW.mono (unhide HB34).size))) (fun e => by cases e))
        have HMM : Hid (m < w3.heap.size) := hide (World.ownsMap.lt (unhide HM3))
        have HMk : Hid (M.length + 1 ≤ maxLen ∧ ((M.length + 1) + (M.length + 1) / 4 + 192) * 40 ≤ 281474976710656) := hide (by have := (unhide HK).len; unfold maxLen; omega)
        have h44 : wr.heap.size ≤ w4.heap.size := hB4.size
        clear d0 d1 d2 d3 hB4 hrow HW4
        go_region_held3 (fun W => W.cell? ⟨b, off + f * 4, none⟩ = some (.int .i64 xf.p) ∧ W.cell? ⟨gi, 0, none⟩ = some (.int .i64 y.p) ∧ W.cell? ⟨gi, 1, none⟩ = some (.int .u8 (y.op : Int)) ∧ W.cell? ⟨gi, 2, none⟩ = some (.int .i64 y.a) ∧ W.cell? ⟨gi, 3, none⟩ = some (.int .i64 y.b)) (first | exact q7 | exact unhide HQ _ (hB6.alloc hB6.size _) | exact unhide HQ _ hB6 | exact unhide HQ _ hB5 | go_keep) (first | (go_at_call 8; refine (unhide HNX).mono ?_; rintro e w5 ⟨nv, rfl, hO5, hB5'⟩; have hB5 : Below w4.heap.size w4 w5 := (unhide HD).trans hB5'; clear hB5') | (go_at_call 28; refine (among_any nv w4.drew.heap.size (nextD y.p y.op y.a) m l w5 hO5 (show w4.heap.size ≤ w5.heap.size from hB5.size) (by omega) (unhide HM4 w5 hB5) (fun e => by have h1 := (World.ownsRow.lt hO5 m e.symm).1; have h3 : w4.heap.size ≤ m := h1; have := unhide HMM; omega) (unhide HNB)).mono ?_; rintro e w6 ⟨nv2, rfl, hO6, hG6⟩; obtain ⟨na, ncap, rfl, _, _⟩ := hO6.at; have hB6 : Below w4.heap.size w4 w6 := hB5.grown hG6 hB5.size (fun q e => (World.ownsRow.lt hO5 q e).1); clear hG6) | (rw [if_pos (by rfl)]; refine wp_append_own_wide (w6.alloc (.cells #[.int .i64 xf.p, .int .i64 y.p, .slice na ((nextD y.p y.op y.a).filter (hasP l)).length ncap] 34)) (.tmp 41) (.tmp 54) 27 (by rfl) w3.heap.size 34 i0 _ 3 40 Tryd.underlying27 hi hz0 hz1 hz2 rfl (by omega) u5 M.length (kvals M) (by rfl) (rowBelowJ (unhide HK).own ((unhide HB4).trans ((hB6.alloc hB6.size _).mono h44))) ⟨w6.heap.size, 0, none⟩ 1 1 (kcells ⟨xf.p, y.p, na, ncap, (nextD y.p y.op y.a).filter (hasP l)⟩) (by rfl) (by rfl) (World.news_of_block (cs := #[.int .i64 xf.p, .int .i64 y.p, .slice na ((nextD y.p y.op y.a).filter (hasP l)).length ncap]) (t := 34) (fr := (0, 0)) (heap_alloc_new w6 _)) (kcells_one _) (unhide HMk).1 (unhide HMk).2 (by have := hB6.size; simp; omega) ?_; intro v7 w7 hown hgrow hat; have hB6a := hB6.alloc hB6.size (.cells #[.int .i64 xf.p, .int .i64 y.p, .slice na ((nextD y.p y.op y.a).filter (hasP l)).length ncap] 34); have q6 := unhide HQ _ hB6a; have q7 : (fun W => W.cell? ⟨b, off + f * 4, none⟩ = some (.int .i64 xf.p) ∧ W.cell? ⟨gi, 0, none⟩ = some (.int .i64 y.p) ∧ W.cell? ⟨gi, 1, none⟩ = some (.int .u8 (y.op : Int)) ∧ W.cell? ⟨gi, 2, none⟩ = some (.int .i64 y.a) ∧ W.cell? ⟨gi, 3, none⟩ = some (.int .i64 y.b)) w7 := ⟨(hgrow.cell_far ⟨b, off + f * 4, none⟩ (Nat.lt_of_lt_of_le hb4 hB6a.size) (unhide HVb)).trans q6.1, (hgrow.cell_far ⟨gi, 0, none⟩ (Nat.lt_of_lt_of_le hgi hB6a.size) (unhide HVg)).trans q6.2.1, (hgrow.cell_far ⟨gi, 1, none⟩ (Nat.lt_of_lt_of_le hgi hB6a.size) (unhide HVg)).trans q6.2.2.1, (hgrow.cell_far ⟨gi, 2, none⟩ (Nat.lt_of_lt_of_le hgi hB6a.size) (unhide HVg)).trans q6.2.2.2.1, (hgrow.cell_far ⟨gi, 3, none⟩ (Nat.lt_of_lt_of_le hgi hB6a.size) (unhide HVg)).trans q6.2.2.2.2⟩))
        have HK2 := hide (KRun.step (y := ⟨xf.p, y.p, na, ncap, (nextD y.p y.op y.a).filter (hasP l)⟩) (unhide HK) ((unhide HB4).trans (hB6.mono h44)) hO6 (show w3.heap.size ≤ w4.heap.size by omega) h44 (unhide HPL) hown hgrow)
        clear hown hgrow hat hO5 hO6 hB5 hB6 hB6a q6 q7
        go_wp2
        go_roundw
        case rel => exact ⟨k + 1, _, by omega, by go_num, HK2⟩
        case measure => simp [intOf]; omega
    · have j1 : ¬ ((k : Nat) : Int) < ((ls.length : Nat) : Int) := by omega
      have ek : k = ls.length := by omega
      have HB4 := hide ((unhide HB3).trans ((unhide HK).bel.mono (unhide HB3).size))
      have HPLS : Hid (M.map Bx.pl = bkD l) := hide (by rw [(unhide HK).pls, unhide HR, ek])
      have HBS := hide (unhide HB3).size
      clear ek
      go_wp2
      go_ret
      exact ⟨_, rfl, M, ownK_mono (unhide HK).own (unhide HBS), fun y hy => ownJ_mono ((unhide HK).nxs y hy) (unhide HBS), unhide HPLS, unhide HB4, (unhide HK).apt⟩
theorem Blocks_any (ao : Option Addr) (c : Nat) (l : List Ix) (w : World) (hx : XsAt w ao l) (hz : l.length ≤ 4398046511104) (hW : WidAt w) (hbd : ∀ x ∈ l, (-9223372036854775808 ≤ x.a ∧ x.a ≤ 9223372036854775807) ∧ (-9223372036854775808 ≤ x.p ∧ x.p ≤ 9223372036854775807)) :
    Calls Tryd.prog 6 #[.slice ao l.length c] w fun e w' => ∃ v M, e = .returned v ∧ OwnK w' w.heap.size v M ∧ (∀ y ∈ M, NxOwn w' w.heap.size y) ∧ M.map Bx.pl = bkD l ∧ Below w.heap.size w w' :=
  (Blocks_apt ao c l w hx hz hW hbd).mono fun _ _ ⟨v, M, h1, h2, h3, h4, h5, _⟩ => ⟨v, M, h1, h2, h3, h4, h5⟩
end Go.Proofs.YtdpfinnclnapbaaDoor
