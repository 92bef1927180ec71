/-
  The walk of the law FramesRanks: it returns true for every table and every two frames, and writes nothing that was there.
-/
import Derived.Test.YtihkodfcgfnjoabTbl
import Derived.Test.YtihkodfcgfnjoabMeetF
import Derived.Test.YtihkodfcgfnjoabFrR
namespace Go.Proofs.Ytihkodfcgfnjoab
open Go.RowKit

theorem tab_32 {T : List Cl} (h : madeD T = true) : T.length ≤ 32 := by
  by_cases h0 : T.length = 0
  · omega
  · have hx := List.getElem?_eq_getElem (show T.length - 1 < T.length by omega)
    have := (faultD_zero hx (madeD_all h _ (by omega))).lt
    omega
theorem SameT.rankTo {T G : List Cl} (h : SameT T G) (l : List Nat) : ∀ k, rankTo G l k = rankTo T l k
  | 0 => rfl
  | k + 1 => by unfold Proofs.Ytihkodfcgfnjoab.rankTo; rw [h.rankTo l k, h.rank]
theorem SameT.rankF {T G : List Cl} (h : SameT T G) (f : Fr) : rankF G f = rankF T f := by
  unfold Proofs.Ytihkodfcgfnjoab.rankF
  rw [h.1, h.rankTo]
theorem RankG_any {T G : List Cl} (hs : SameT T G) (ao : Option Addr) (cap : Nat) (f : Fr) (w : World) (hT : TabAt w ao G) (hz : T.length * 48 ≤ 140737488351232) (h32 : T.length ≤ 32) (hf : FrOk f) :
    Calls Try.prog 7 #[.slice ao G.length cap, .agg (frA f)] w fun e w' => e = .returned (intTwo (rankF T f)) ∧ Below w.heap.size w w' := by
  rw [← hs.rankF f]
  exact RankF_any ao cap G f w hT (by rw [hs.1]; exact hz) (by rw [hs.1]; exact h32) hf
theorem subF_refl {T : List Cl} {a : Fr} (ha : FrOk a) (h0 : chkF T.length a = 0) : subF T a a = true :=
  (subF_iff ha ha h0 h0 rfl rfl).2 (fun i x y hi hx hy => by
    rw [hx] at hy
    injection hy with hy
    rw [← hy]
    exact subD_iff.2 (Le.refl (good_valid ha h0 hi hx)))
theorem rank_fall {T : List Cl} (h32 : T.length ≤ 32) {l m : List Nat} : ∀ k, (∀ i x y, i < k → l[i]? = some x → m[i]? = some y → subD T x y = true) → k ≤ l.length → k ≤ m.length →
    rankTo T m k ≤ rankTo T l k ∧ (rankTo T m k = rankTo T l k → ∀ i, i < k → l[i]? = m[i]?)
  | 0, _, _, _ => ⟨Nat.le_refl _, fun _ i hi => by omega⟩
  | k + 1, h, hl, hm => by
    obtain ⟨h1, h2⟩ := rank_fall h32 k (fun i x y hi hx hy => h i x y (by omega) hx hy) (by omega) (by omega)
    have hx := List.getElem?_eq_getElem (show k < l.length by omega)
    have hy := List.getElem?_eq_getElem (show k < m.length by omega)
    have hs := subD_iff.1 (h k _ _ (by omega) hx hy)
    unfold rankTo
    rw [getD_some hx, getD_some hy]
    by_cases e : l[k] = m[k]
    · rw [e]
      refine ⟨by omega, fun q i hi => ?_⟩
      by_cases e2 : i = k
      · rw [e2, hx, hy, e]
      · exact h2 (by omega) i (by omega)
    · have := rank_lt h32 hs e
      exact ⟨by omega, fun q => by omega⟩
theorem rank_less {T : List Cl} (h32 : T.length ≤ 32) {a b : Fr} (ha : FrOk a) (hb : FrOk b) (h : subF T a b = true) (hne : frEq a b = false) : rankTo T b.sl (nF b) < rankTo T a.sl (nF a) := by
  obtain ⟨h0, h1, h2, h3⟩ := subF_parts h
  have hn : nF b = nF a := by unfold nF; rw [h2, h3]
  have h24 : nF a ≤ 24 := shape_n (check_good h0).1
  obtain ⟨k1, k2⟩ := rank_fall h32 (nF a) ((subF_iff ha hb h0 h1 h2 h3).1 h) (by rw [ha.len]; exact h24) (by rw [hb.len]; exact h24)
  rw [hn]
  by_cases e : rankTo T b.sl (nF a) = rankTo T a.sl (nF a)
  · exfalso
    have hs : a.sl = b.sl := by
      apply List.ext_getElem?
      intro i
      by_cases hi : i < nF a
      · exact k2 e i hi
      · by_cases h : i < 24
        · rw [good_zero ha h0 (by omega) h, good_zero hb h1 (by omega) h]
        · rw [List.getElem?_eq_none (by rw [ha.len]; omega), List.getElem?_eq_none (by rw [hb.len]; omega)]
    have : frEq a b = true := by unfold frEq; rw [h2, h3, hs]; simp
    rw [hne] at this
    cases this
  · omega
theorem rank_some {T : List Cl} (h32 : T.length ≤ 32) {a : Fr} (ha : FrOk a) (h0 : chkF T.length a = 0) (hn : 0 < nF a) {x : Nat} (hx : a.sl[0]? = some x) (hne : x ≠ 0) : 0 < rankTo T a.sl (nF a) := by
  have hv := good_valid ha h0 hn hx
  have h1 : 0 < rankD T x := by
    have := rank_lt h32 (a := x) (b := 0) ⟨validD_iff.1 hv, Or.inl (by omega), Or.inr (Or.inl rfl)⟩ hne
    omega
  have : ∀ k, 0 < k → 0 < rankTo T a.sl k := by
    intro k hk
    induction k with
    | zero => omega
    | succ k ih =>
      unfold rankTo
      by_cases h : k = 0
      · subst h; rw [getD_some hx]; omega
      · have := ih (by omega); omega
  exact this _ hn

set_option maxRecDepth 100000 in
set_option maxHeartbeats 8000000 in
theorem walkFramesRanks {w : World} (ao : Option Addr) (cap : Nat) (T : List Cl) (hT : TabAt w ao T) (hz : T.length * 48 ≤ 140737488351232) (a : Fr) (ha : FrOk a) (b : Fr) (hb : FrOk b) :
    Calls Try.prog 3 #[.slice ao T.length cap, .agg (frA a), .agg (frA b)] w fun e w' => e = .returned (.bool true) ∧ Below w.heap.size w w' := by
  have HA := hide ha
  have HB := hide hb
  have hal1 : Below w.heap.size w (w.alloc (.cells (frA a) 26)) := (Below.refl _ _).alloc (Nat.le_refl _) _
  have fa1 := FAt.new w a
  have fb1 : FAt ((w.alloc (.cells (frA a) 26)).alloc (.cells (frA b) 26)) (w.heap.size + 1) b := by
    have := FAt.new (w.alloc (.cells (frA a) 26)) b
    rw [World.size_alloc] at this
    exact this
  have fa2 : FAt ((w.alloc (.cells (frA a) 26)).alloc (.cells (frA b) 26)) w.heap.size a := fa1.below ((Below.refl _ _).alloc (Nat.le_refl _) _) (by simp)
  have hal2 : Below w.heap.size w ((w.alloc (.cells (frA a) 26)).alloc (.cells (frA b) 26)) := hal1.alloc (by simp) _
  have F1 := hide fa2
  have F2 := hide fb1
  have HB0 := hide hal2
  have HT := hide hT
  have HZ := hide hz
  have hq : ∀ W, (binOp .eql 26 (.agg (frA a)) (.agg (frA b))).run Try.prog W = .ok (.bool (frEq a b)) W := fun W => run_eqlFr W ha hb
  clear hT hal1 hal2 fa1 fa2 fb1 ha hb hz
  go_enter Try.func3, Try.ntmps3
  go_wp2_with fail
  generalize ((w.alloc (.cells (frA a) 26)).alloc (.cells (frA b) 26)) = W at F1 F2 HB0 ⊢
  refine (table_any ao cap T _ ((unhide HT).below (unhide HB0)) (unhide HZ)).mono ?_
  rintro e W21 ⟨rfl, hB22⟩
  have F23 := hide ((unhide F1).below hB22 (unhide F1).lt)
  have F24 := hide ((unhide F2).below hB22 (unhide F2).lt)
  have HB25 := hide ((unhide HB0).trans (hB22.mono (unhide HB0).size))
  clear hB22 F1 F2 HB0 W
  by_cases hmd : madeD T = true
  rotate_left
  · have hmd' : madeD T = false := by simpa using hmd
    rw [hmd']
    clear hmd hmd'
    go_wp2
    go_ret
    exact ⟨rfl, unhide HB25⟩
  have HMD := hide hmd
  have H32 := hide (tab_32 hmd)
  rw [hmd]
  clear hmd
  go_wp2_with (refine wpList_load_rowG rfl 26 _ rfl w.heap.size rfl 26 (frA a) (0, 0) _ (unhide F23) Try.underlying26 rfl (sizeFr (unhide HA)) ?_)
  refine (refCheckF_any ao cap T.length a _ (unhide HA)).mono ?_
  rintro e W26 ⟨rfl, hB27⟩
  have F28 := hide ((unhide F23).below hB27 (unhide F23).lt)
  have F29 := hide ((unhide F24).below hB27 (unhide F24).lt)
  have HB30 := hide ((unhide HB25).trans (hB27.mono (unhide HB25).size))
  clear hB27 F23 F24 HB25 W21
  by_cases ea : chkF T.length a = 0
  rotate_left
  · generalize chkF T.length a = er at ea ⊢
    have b1 := bne_t ea
    clear ea
    go_wp2
    go_ret
    exact ⟨rfl, unhide HB30⟩
  have EA := hide ea
  rw [ea]
  clear ea
  go_wp2_with (refine wpList_load_rowG rfl 26 _ rfl (w.heap.size + 1) rfl 26 (frA b) (0, 0) _ (unhide F29) Try.underlying26 rfl (sizeFr (unhide HB)) ?_)
  refine (refCheckF_any ao cap T.length b _ (unhide HB)).mono ?_
  rintro e W31 ⟨rfl, hB32⟩
  have F33 := hide ((unhide F28).below hB32 (unhide F28).lt)
  have F34 := hide ((unhide F29).below hB32 (unhide F29).lt)
  have HB35 := hide ((unhide HB30).trans (hB32.mono (unhide HB30).size))
  clear hB32 F28 F29 HB30 W26
  by_cases eb : chkF T.length b = 0
  rotate_left
  · generalize chkF T.length b = er at eb ⊢
    have b1 := bne_t eb
    clear eb
    go_wp2
    go_ret
    exact ⟨rfl, unhide HB35⟩
  have EB := hide eb
  rw [eb]
  clear eb
  go_wp2
  have F36 : Hid (FAt W31.drew w.heap.size a) := hide (unhide F33)
  have F37 : Hid (FAt W31.drew (w.heap.size + 1) b) := hide (unhide F34)
  have HB38 : Hid (Below w.heap.size w W31.drew) := hide ((unhide HB35).trans ⟨rfl, rfl, rfl, Nat.le_refl _, fun _ _ => rfl⟩)
  refine wp_region_held_drew (S := fun w' => FAt w' w.heap.size a ∧ FAt w' (w.heap.size + 1) b) (by kernel_rfl) ⟨unhide F36, unhide F37⟩ (fun hS39 => ?_)
  clear F33 F34 HB35
  generalize W31.drew = W40 at F36 F37 HB38 hS39 ⊢
  clear W31
  refine wpAnyH_take (i := 0) (v := .slice ao T.length cap) rfl (by kernel_rfl) (by kernel_rfl) (by kernel_rfl) (fun _ _ _ h => h) (Or.inl ⟨by rfl, fun w _ => by go_simp⟩) hS39 ?_
  refine wpAnyH_take (i := 2) (v := .agg (frA a)) rfl (by kernel_rfl) (by kernel_rfl) (by kernel_rfl) (fun _ _ _ h => h) (yieldsIf_load_fr (by rfl) _ rfl w.heap.size rfl a (unhide HA) (fun _ h => h.1)) hS39 ?_
  refine wpAnyH_ready (rs := [1]) (by kernel_rfl) (by simp) ?_
  refine AllReadyH.cons rfl (fun K hK => ?_) AllReadyH.nil
  go_simp
  go_wp2_with (go_at_call 8; refine (Classes_any ao cap T _ ((unhide HT).below (unhide HB38)) (unhide HZ)).mono ?_; rintro e W41 ⟨ga, gc, G, rfl, hG, hSm, hB42⟩)
  have F43 := hide ((unhide F36).below hB42 (unhide F36).lt)
  have F44 := hide ((unhide F37).below hB42 (unhide F37).lt)
  have HB45 := hide ((unhide HB38).trans (hB42.mono (unhide HB38).size))
  refine hK.out _ _ ⟨unhide F43, unhide F44⟩ (fun hS46 => ?_)
  clear hK K hS39 hB42 F36 F37 HB38 W40
  have TG := hide hG
  have HSm := hide hSm
  clear hG hSm
  refine wpAnyH_ready (rs := [3]) (by kernel_rfl) (by simp) ?_
  refine AllReadyH.cons rfl (fun K hK => ?_) AllReadyH.nil
  go_simp
  go_wp2_with (go_at_call 7; refine (RankG_any (unhide HSm) ga gc a _ (unhide TG) (unhide HZ) (unhide H32) (unhide HA)).mono ?_; rintro e W47 ⟨rfl, hB48⟩)
  have F49 := hide ((unhide F43).below hB48 (unhide F43).lt)
  have F50 := hide ((unhide F44).below hB48 (unhide F44).lt)
  have T51 := hide ((unhide TG).below hB48)
  have HB52 := hide ((unhide HB45).trans (hB48.mono (unhide HB45).size))
  refine hK.out _ _ ⟨unhide F49, unhide F50⟩ (fun hS53 => ?_)
  clear hK K hS46 hB48 F43 F44 TG HB45 W41
  have HKa : Hid (rankF T a = (rankTo T a.sl (nF a), 0)) := hide (by unfold rankF; rw [if_neg (by rw [unhide EA]; simp)])
  have hka := rankTo_le (unhide H32) a.sl (nF a)
  have hna := shape_n (check_good (unhide EA)).1
  obtain ⟨ra, HRa⟩ : ∃ r, Hid (rankTo T a.sl (nF a) = r) := ⟨_, hide rfl⟩
  rw [unhide HRa] at HKa hka
  have ha816 : ra ≤ 816 := by omega
  rw [unhide HKa, show intTwo (ra, 0) = .tuple #[.int .i64 (ra : Int), .int .i64 0] from rfl]
  clear hka hna T51 HSm
  refine wpAnyH_take (i := 4) (v := .tuple #[.int .i64 (ra : Int), .int .i64 0]) rfl (by kernel_rfl) (by kernel_rfl) (by kernel_rfl) (fun _ _ _ h => h) (Or.inl ⟨by rfl, fun w _ => by go_simp⟩) hS53 ?_
  refine wpAnyH_take (i := 5) (v := .int .i64 (ra : Int)) rfl (by kernel_rfl) (by kernel_rfl) (by kernel_rfl) (fun _ _ _ h => h) (Or.inl ⟨by rfl, fun w _ => by go_simp⟩) hS53 ?_
  refine wpAnyH_take (i := 6) (v := .int .i64 0) rfl (by kernel_rfl) (by kernel_rfl) (by kernel_rfl) (fun _ _ _ h => h) (Or.inl ⟨by rfl, fun w _ => by go_simp⟩) hS53 ?_
  refine wpAnyH_take (i := 7) (v := .int .i64 (ra : Int)) rfl (by kernel_rfl) (by kernel_rfl) (by kernel_rfl) (fun _ _ _ h => h) (Or.inl ⟨by rfl, fun w _ => by go_simp⟩) hS53 ?_
  refine wpAnyH_take (i := 8) (v := .int .i64 0) rfl (by kernel_rfl) (by kernel_rfl) (by kernel_rfl) (fun _ _ _ h => h) (Or.inl ⟨by rfl, fun w _ => by go_simp⟩) hS53 ?_
  refine wpAnyH_done (by kernel_rfl) ?_ _
  clear hS53
  go_wp2
  have F54 : Hid (FAt W47.drew w.heap.size a) := hide (unhide F49)
  have F55 : Hid (FAt W47.drew (w.heap.size + 1) b) := hide (unhide F50)
  have HB56 : Hid (Below w.heap.size w W47.drew) := hide ((unhide HB52).trans ⟨rfl, rfl, rfl, Nat.le_refl _, fun _ _ => rfl⟩)
  refine wp_region_held_drew (S := fun w' => FAt w' w.heap.size a ∧ FAt w' (w.heap.size + 1) b) (by kernel_rfl) ⟨unhide F54, unhide F55⟩ (fun hS57 => ?_)
  clear F49 F50 HB52
  generalize W47.drew = W58 at F54 F55 HB56 hS57 ⊢
  clear W47
  refine wpAnyH_take (i := 0) (v := .slice ao T.length cap) rfl (by kernel_rfl) (by kernel_rfl) (by kernel_rfl) (fun _ _ _ h => h) (Or.inl ⟨by rfl, fun w _ => by go_simp⟩) hS57 ?_
  refine wpAnyH_take (i := 2) (v := .agg (frA b)) rfl (by kernel_rfl) (by kernel_rfl) (by kernel_rfl) (fun _ _ _ h => h) (yieldsIf_load_fr (by rfl) _ rfl (w.heap.size + 1) rfl b (unhide HB) (fun _ h => h.2)) hS57 ?_
  refine wpAnyH_ready (rs := [1]) (by kernel_rfl) (by simp) ?_
  refine AllReadyH.cons rfl (fun K hK => ?_) AllReadyH.nil
  go_simp
  go_wp2_with (go_at_call 8; refine (Classes_any ao cap T _ ((unhide HT).below (unhide HB56)) (unhide HZ)).mono ?_; rintro e W59 ⟨ga, gc, G, rfl, hG, hSm, hB60⟩)
  have F61 := hide ((unhide F54).below hB60 (unhide F54).lt)
  have F62 := hide ((unhide F55).below hB60 (unhide F55).lt)
  have HB63 := hide ((unhide HB56).trans (hB60.mono (unhide HB56).size))
  refine hK.out _ _ ⟨unhide F61, unhide F62⟩ (fun hS64 => ?_)
  clear hK K hS57 hB60 F54 F55 HB56 W58
  have TG := hide hG
  have HSm := hide hSm
  clear hG hSm
  refine wpAnyH_ready (rs := [3]) (by kernel_rfl) (by simp) ?_
  refine AllReadyH.cons rfl (fun K hK => ?_) AllReadyH.nil
  go_simp
  go_wp2_with (go_at_call 7; refine (RankG_any (unhide HSm) ga gc b _ (unhide TG) (unhide HZ) (unhide H32) (unhide HB)).mono ?_; rintro e W65 ⟨rfl, hB66⟩)
  have F67 := hide ((unhide F61).below hB66 (unhide F61).lt)
  have F68 := hide ((unhide F62).below hB66 (unhide F62).lt)
  have T69 := hide ((unhide TG).below hB66)
  have HB70 := hide ((unhide HB63).trans (hB66.mono (unhide HB63).size))
  refine hK.out _ _ ⟨unhide F67, unhide F68⟩ (fun hS71 => ?_)
  clear hK K hS64 hB66 F61 F62 TG HB63 W59
  have HKb : Hid (rankF T b = (rankTo T b.sl (nF b), 0)) := hide (by unfold rankF; rw [if_neg (by rw [unhide EB]; simp)])
  have hkb := rankTo_le (unhide H32) b.sl (nF b)
  have hnb := shape_n (check_good (unhide EB)).1
  obtain ⟨rb, HRb⟩ : ∃ r, Hid (rankTo T b.sl (nF b) = r) := ⟨_, hide rfl⟩
  rw [unhide HRb] at HKb hkb
  have hb816 : rb ≤ 816 := by omega
  rw [unhide HKb, show intTwo (rb, 0) = .tuple #[.int .i64 (rb : Int), .int .i64 0] from rfl]
  clear hkb hnb T69 HSm
  refine wpAnyH_take (i := 4) (v := .tuple #[.int .i64 (rb : Int), .int .i64 0]) rfl (by kernel_rfl) (by kernel_rfl) (by kernel_rfl) (fun _ _ _ h => h) (Or.inl ⟨by rfl, fun w _ => by go_simp⟩) hS71 ?_
  refine wpAnyH_take (i := 5) (v := .int .i64 (rb : Int)) rfl (by kernel_rfl) (by kernel_rfl) (by kernel_rfl) (fun _ _ _ h => h) (Or.inl ⟨by rfl, fun w _ => by go_simp⟩) hS71 ?_
  refine wpAnyH_take (i := 6) (v := .int .i64 0) rfl (by kernel_rfl) (by kernel_rfl) (by kernel_rfl) (fun _ _ _ h => h) (Or.inl ⟨by rfl, fun w _ => by go_simp⟩) hS71 ?_
  refine wpAnyH_take (i := 7) (v := .int .i64 (rb : Int)) rfl (by kernel_rfl) (by kernel_rfl) (by kernel_rfl) (fun _ _ _ h => h) (Or.inl ⟨by rfl, fun w _ => by go_simp⟩) hS71 ?_
  refine wpAnyH_take (i := 8) (v := .int .i64 0) rfl (by kernel_rfl) (by kernel_rfl) (by kernel_rfl) (fun _ _ _ h => h) (Or.inl ⟨by rfl, fun w _ => by go_simp⟩) hS71 ?_
  refine wpAnyH_done (by kernel_rfl) ?_ _
  clear hS71
  obtain ⟨h0, h1, h2, h3⟩ := shapeD_iff.1 (check_good (unhide EA)).1
  obtain ⟨x0, hx0⟩ := slot_of (unhide HA) (show 0 < 24 by omega)
  have c0 := (unhide F67).lo
  have c1 := (unhide F67).he
  have cx : W65.cell? ⟨w.heap.size, 2, none⟩ = some (.int .u8 (x0 : Int)) := (unhide F67).slot hx0
  have HPOS : Hid (0 < nF a → x0 ≠ 0 → 0 < ra) := hide (fun hp hne => by rw [← unhide HRa]; exact rank_some (unhide H32) (unhide HA) (unhide EA) hp hx0 hne)
  have HLess : Hid (subF T a b = true → frEq a b = false → rb < ra) := hide (fun k1 k2 => by rw [← unhide HRa, ← unhide HRb]; exact rank_less (unhide H32) (unhide HA) (unhide HB) k1 k2)
  clear hx0
  have hdone : Hid (∀ K : Prop, K → K) := hide (fun _ h => h)
  by_cases p1 : a.lo + a.he > 0
  · by_cases p2 : x0 = 0
    · have b1 : (((x0 : Nat) : Int) != 0) = false := bne_f (by omega)
      go_wp2_with (refine wpList_load_row rfl 26 _ rfl w.heap.size rfl 26 (frA a) (0, 0) _ (unhide F67) Try.underlying26 rfl (sizeFr (unhide HA)) ?_)
      clear c0 c1 cx
      refine (SubF_any ao cap T a a _ ((unhide HT).below (unhide HB70)) (unhide HA) (unhide HA)).mono ?_
      rintro e W72 ⟨rfl, hB73⟩
      have F74 := hide ((unhide F67).below hB73 (unhide F67).lt)
      have F75 := hide ((unhide F68).below hB73 (unhide F68).lt)
      have HB76 := hide ((unhide HB70).trans (hB73.mono (unhide HB70).size))
      clear hB73 F67 F68 HB70 W65
      rw [subF_refl (unhide HA) (unhide EA)]
      go_wp2_with (first | (refine wpList_load_row rfl 26 _ rfl w.heap.size rfl 26 (frA a) (0, 0) _ (unhide F74) Try.underlying26 rfl (sizeFr (unhide HA)) ?_) | (refine wpList_load_row rfl 26 _ rfl (w.heap.size + 1) rfl 26 (frA b) (0, 0) _ (unhide F75) Try.underlying26 rfl (sizeFr (unhide HB)) ?_))
      refine (SubF_any ao cap T a b _ ((unhide HT).below (unhide HB76)) (unhide HA) (unhide HB)).mono ?_
      rintro e W77 ⟨rfl, hB78⟩
      have F79 := hide ((unhide F74).below hB78 (unhide F74).lt)
      have F80 := hide ((unhide F75).below hB78 (unhide F75).lt)
      have HB81 := hide ((unhide HB76).trans (hB78.mono (unhide HB76).size))
      clear hB78 F74 F75 HB76 W72
      cases k1 : subF T a b
      · go_wp2
        go_ret
        exact ⟨by simp, unhide HB81⟩
      cases k2 : frEq a b
      · rw [k2] at hq
        have hlt := unhide HLess k1 k2
        have hlt2 : ((rb : Nat) : Int) < ((ra : Nat) : Int) := by omega
        clear k1 k2
        go_wp2_with (first | (refine wpList_load_rowG rfl 26 _ rfl w.heap.size rfl 26 (frA a) (0, 0) _ (unhide F79) Try.underlying26 rfl (sizeFr (unhide HA)) ?_) | (refine wpList_load_rowG rfl 26 _ rfl (w.heap.size + 1) rfl 26 (frA b) (0, 0) _ (unhide F80) Try.underlying26 rfl (sizeFr (unhide HB)) ?_))
        go_ret
        exact ⟨by simp, unhide HB81⟩
      · rw [k2] at hq
        clear k1 k2
        go_wp2_with (first | (refine wpList_load_rowG rfl 26 _ rfl w.heap.size rfl 26 (frA a) (0, 0) _ (unhide F79) Try.underlying26 rfl (sizeFr (unhide HA)) ?_) | (refine wpList_load_rowG rfl 26 _ rfl (w.heap.size + 1) rfl 26 (frA b) (0, 0) _ (unhide F80) Try.underlying26 rfl (sizeFr (unhide HB)) ?_))
        go_ret
        exact ⟨by simp, unhide HB81⟩
    · have b1 : (((x0 : Nat) : Int) != 0) = true := bne_t (by omega)
      have b2 : (((ra : Nat) : Int) == 0) = false := beq_f (by have := unhide HPOS (by unfold nF; omega) p2; omega)
      go_wp2_with (refine wpList_load_row rfl 26 _ rfl w.heap.size rfl 26 (frA a) (0, 0) _ (unhide F67) Try.underlying26 rfl (sizeFr (unhide HA)) ?_)
      clear c0 c1 cx
      refine (SubF_any ao cap T a a _ ((unhide HT).below (unhide HB70)) (unhide HA) (unhide HA)).mono ?_
      rintro e W82 ⟨rfl, hB83⟩
      have F84 := hide ((unhide F67).below hB83 (unhide F67).lt)
      have F85 := hide ((unhide F68).below hB83 (unhide F68).lt)
      have HB86 := hide ((unhide HB70).trans (hB83.mono (unhide HB70).size))
      clear hB83 F67 F68 HB70 W65
      rw [subF_refl (unhide HA) (unhide EA)]
      go_wp2_with (first | (refine wpList_load_row rfl 26 _ rfl w.heap.size rfl 26 (frA a) (0, 0) _ (unhide F84) Try.underlying26 rfl (sizeFr (unhide HA)) ?_) | (refine wpList_load_row rfl 26 _ rfl (w.heap.size + 1) rfl 26 (frA b) (0, 0) _ (unhide F85) Try.underlying26 rfl (sizeFr (unhide HB)) ?_))
      refine (SubF_any ao cap T a b _ ((unhide HT).below (unhide HB86)) (unhide HA) (unhide HB)).mono ?_
      rintro e W87 ⟨rfl, hB88⟩
      have F89 := hide ((unhide F84).below hB88 (unhide F84).lt)
      have F90 := hide ((unhide F85).below hB88 (unhide F85).lt)
      have HB91 := hide ((unhide HB86).trans (hB88.mono (unhide HB86).size))
      clear hB88 F84 F85 HB86 W82
      cases k1 : subF T a b
      · go_wp2
        go_ret
        exact ⟨by simp, unhide HB91⟩
      cases k2 : frEq a b
      · rw [k2] at hq
        have hlt := unhide HLess k1 k2
        have hlt2 : ((rb : Nat) : Int) < ((ra : Nat) : Int) := by omega
        clear k1 k2
        go_wp2_with (first | (refine wpList_load_rowG rfl 26 _ rfl w.heap.size rfl 26 (frA a) (0, 0) _ (unhide F89) Try.underlying26 rfl (sizeFr (unhide HA)) ?_) | (refine wpList_load_rowG rfl 26 _ rfl (w.heap.size + 1) rfl 26 (frA b) (0, 0) _ (unhide F90) Try.underlying26 rfl (sizeFr (unhide HB)) ?_))
        go_ret
        exact ⟨by simp, unhide HB91⟩
      · rw [k2] at hq
        clear k1 k2
        go_wp2_with (first | (refine wpList_load_rowG rfl 26 _ rfl w.heap.size rfl 26 (frA a) (0, 0) _ (unhide F89) Try.underlying26 rfl (sizeFr (unhide HA)) ?_) | (refine wpList_load_rowG rfl 26 _ rfl (w.heap.size + 1) rfl 26 (frA b) (0, 0) _ (unhide F90) Try.underlying26 rfl (sizeFr (unhide HB)) ?_))
        go_ret
        exact ⟨by simp, unhide HB91⟩
  · have p1' : a.lo + a.he ≤ 0 := by omega
    go_wp2_with (refine wpList_load_row rfl 26 _ rfl w.heap.size rfl 26 (frA a) (0, 0) _ (unhide F67) Try.underlying26 rfl (sizeFr (unhide HA)) ?_)
    clear c0 c1 cx
    refine (SubF_any ao cap T a a _ ((unhide HT).below (unhide HB70)) (unhide HA) (unhide HA)).mono ?_
    rintro e W92 ⟨rfl, hB93⟩
    have F94 := hide ((unhide F67).below hB93 (unhide F67).lt)
    have F95 := hide ((unhide F68).below hB93 (unhide F68).lt)
    have HB96 := hide ((unhide HB70).trans (hB93.mono (unhide HB70).size))
    clear hB93 F67 F68 HB70 W65
    rw [subF_refl (unhide HA) (unhide EA)]
    go_wp2_with (first | (refine wpList_load_row rfl 26 _ rfl w.heap.size rfl 26 (frA a) (0, 0) _ (unhide F94) Try.underlying26 rfl (sizeFr (unhide HA)) ?_) | (refine wpList_load_row rfl 26 _ rfl (w.heap.size + 1) rfl 26 (frA b) (0, 0) _ (unhide F95) Try.underlying26 rfl (sizeFr (unhide HB)) ?_))
    refine (SubF_any ao cap T a b _ ((unhide HT).below (unhide HB96)) (unhide HA) (unhide HB)).mono ?_
    rintro e W97 ⟨rfl, hB98⟩
    have F99 := hide ((unhide F94).below hB98 (unhide F94).lt)
    have F100 := hide ((unhide F95).below hB98 (unhide F95).lt)
    have HB101 := hide ((unhide HB96).trans (hB98.mono (unhide HB96).size))
    clear hB98 F94 F95 HB96 W92
    cases k1 : subF T a b
    · go_wp2
      go_ret
      exact ⟨by simp, unhide HB101⟩
    cases k2 : frEq a b
    · rw [k2] at hq
      have hlt := unhide HLess k1 k2
      have hlt2 : ((rb : Nat) : Int) < ((ra : Nat) : Int) := by omega
      clear k1 k2
      go_wp2_with (first | (refine wpList_load_rowG rfl 26 _ rfl w.heap.size rfl 26 (frA a) (0, 0) _ (unhide F99) Try.underlying26 rfl (sizeFr (unhide HA)) ?_) | (refine wpList_load_rowG rfl 26 _ rfl (w.heap.size + 1) rfl 26 (frA b) (0, 0) _ (unhide F100) Try.underlying26 rfl (sizeFr (unhide HB)) ?_))
      go_ret
      exact ⟨by simp, unhide HB101⟩
    · rw [k2] at hq
      clear k1 k2
      go_wp2_with (first | (refine wpList_load_rowG rfl 26 _ rfl w.heap.size rfl 26 (frA a) (0, 0) _ (unhide F99) Try.underlying26 rfl (sizeFr (unhide HA)) ?_) | (refine wpList_load_rowG rfl 26 _ rfl (w.heap.size + 1) rfl 26 (frA b) (0, 0) _ (unhide F100) Try.underlying26 rfl (sizeFr (unhide HB)) ?_))
      go_ret
      exact ⟨by simp, unhide HB101⟩
end Go.Proofs.Ytihkodfcgfnjoab
