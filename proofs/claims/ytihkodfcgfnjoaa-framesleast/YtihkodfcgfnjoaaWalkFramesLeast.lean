/-
  The walk of the law FramesLeast: it returns true for every table and every three frames, and writes nothing that was there.
-/
import Derived.Test.YtihkodfcgfnjoaaTbl
import Derived.Test.YtihkodfcgfnjoaaMeetF
import Derived.Deep.DeepCutAuto
namespace Go.Proofs.Ytihkodfcgfnjoaa
open Go.RowKit

set_option maxRecDepth 100000 in
set_option maxHeartbeats 8000000 in
theorem walkFramesLeast {w : World} (ao : Option Addr) (cap : Nat) (T : List Cl) (hT : TabAt w ao T) (hz : T.length * 48 ≤ 140737488351232) (a : Fr) (ha : FrOk a) (b : Fr) (hb : FrOk b) (c : Fr) (hc : FrOk c) :
    Calls Try.prog 7 #[.slice ao T.length cap, .agg (frA a), .agg (frA b), .agg (frA c)] w fun e w' => e = .returned (.bool true) ∧ Below w.heap.size w w' := by
  have HA := hide ha
  have HB := hide hb
  have HC := hide hc
  have hal1 : Below w.heap.size w (w.alloc (.cells (frA a) 27)) := (Below.refl _ _).alloc (Nat.le_refl _) _
  have hal2 : Below w.heap.size w ((w.alloc (.cells (frA a) 27)).alloc (.cells (frA b) 27)) := hal1.alloc (by simp) _
  have hal3 : Below w.heap.size w (((w.alloc (.cells (frA a) 27)).alloc (.cells (frA b) 27)).alloc (.cells (frA c) 27)) := hal2.alloc (by simp; omega) _
  have fb1 : FAt ((w.alloc (.cells (frA a) 27)).alloc (.cells (frA b) 27)) (w.heap.size + 1) b := by
    have := FAt.new (w.alloc (.cells (frA a) 27)) b
    rw [World.size_alloc] at this
    exact this
  have fc1 : FAt (((w.alloc (.cells (frA a) 27)).alloc (.cells (frA b) 27)).alloc (.cells (frA c) 27)) (w.heap.size + 2) c := by
    have := FAt.new ((w.alloc (.cells (frA a) 27)).alloc (.cells (frA b) 27)) c
    rw [World.size_alloc, World.size_alloc] at this
    exact this
  have fa2 : FAt ((w.alloc (.cells (frA a) 27)).alloc (.cells (frA b) 27)) w.heap.size a := (FAt.new w a).below ((Below.refl _ _).alloc (Nat.le_refl _) _) (by simp)
  have F1 : Hid (FAt (((w.alloc (.cells (frA a) 27)).alloc (.cells (frA b) 27)).alloc (.cells (frA c) 27)) w.heap.size a) := hide (fa2.below ((Below.refl _ _).alloc (Nat.le_refl _) _) (by simp; omega))
  have F2 : Hid (FAt (((w.alloc (.cells (frA a) 27)).alloc (.cells (frA b) 27)).alloc (.cells (frA c) 27)) (w.heap.size + 1) b) := hide (fb1.below ((Below.refl _ _).alloc (Nat.le_refl _) _) (by simp))
  have F3 := hide fc1
  have HB0 := hide hal3
  have HT := hide hT
  have HZ := hide hz
  clear hal1 hal2 hal3 fb1 fc1 fa2 hT hz
  clear ha hb hc
  go_enter Try.func7, Try.ntmps7
  go_wp2_with fail
  generalize (((w.alloc (.cells (frA a) 27)).alloc (.cells (frA b) 27)).alloc (.cells (frA c) 27)) = W at F1 F2 F3 HB0 ⊢
  refine (table_any ao cap T _ ((unhide HT).below (unhide HB0)) (unhide HZ)).mono ?_
  rintro e W21 ⟨rfl, hB22⟩
  have F23 := hide ((unhide F1).below hB22 (unhide F1).lt)
  have F24 := hide ((unhide F2).below hB22 (unhide F2).lt)
  have F25 := hide ((unhide F3).below hB22 (unhide F3).lt)
  have HB26 := hide ((unhide HB0).trans (hB22.mono (unhide HB0).size))
  clear hB22 F1 F2 F3 HB0 W
  by_cases hmd : madeD T = true
  rotate_left
  · have hmd' : madeD T = false := by simpa using hmd
    rw [hmd']
    clear hmd hmd'
    go_wp2
    go_ret
    exact ⟨rfl, unhide HB26⟩
  have HMD := hide hmd
  rw [hmd]
  clear hmd
  go_wp2_with (refine wpList_load_rowG rfl 27 _ rfl w.heap.size rfl 27 (frA a) (0, 0) _ (unhide F23) Try.underlying27 rfl (sizeFr (unhide HA)) ?_)
  refine (refCheckF_any ao cap T.length a _ (unhide HA)).mono ?_
  rintro e W27 ⟨rfl, hB28⟩
  have F29 := hide ((unhide F23).below hB28 (unhide F23).lt)
  have F30 := hide ((unhide F24).below hB28 (unhide F24).lt)
  have F31 := hide ((unhide F25).below hB28 (unhide F25).lt)
  have HB32 := hide ((unhide HB26).trans (hB28.mono (unhide HB26).size))
  clear hB28 F23 F24 F25 HB26 W21
  by_cases ea : chkF T.length a = 0
  rotate_left
  · generalize chkF T.length a = er at ea ⊢
    have b1 := bne_t ea
    clear ea
    go_wp2
    go_ret
    exact ⟨rfl, unhide HB32⟩
  have EA := hide ea
  rw [ea]
  clear ea
  go_wp2_with (refine wpList_load_rowG rfl 27 _ rfl (w.heap.size + 1) rfl 27 (frA b) (0, 0) _ (unhide F30) Try.underlying27 rfl (sizeFr (unhide HB)) ?_)
  refine (refCheckF_any ao cap T.length b _ (unhide HB)).mono ?_
  rintro e W33 ⟨rfl, hB34⟩
  have F35 := hide ((unhide F29).below hB34 (unhide F29).lt)
  have F36 := hide ((unhide F30).below hB34 (unhide F30).lt)
  have F37 := hide ((unhide F31).below hB34 (unhide F31).lt)
  have HB38 := hide ((unhide HB32).trans (hB34.mono (unhide HB32).size))
  clear hB34 F29 F30 F31 HB32 W27
  by_cases eb : chkF T.length b = 0
  rotate_left
  · generalize chkF T.length b = er at eb ⊢
    have b1 := bne_t eb
    clear eb
    go_wp2
    go_ret
    exact ⟨rfl, unhide HB38⟩
  have EB := hide eb
  rw [eb]
  clear eb
  have c0a := (unhide F35).lo
  have c1a := (unhide F35).he
  have c0b := (unhide F36).lo
  have c1b := (unhide F36).he
  by_cases sl : a.lo = b.lo
  rotate_left
  · have b1 := bne_t sl
    clear sl
    go_wp2
    go_ret
    exact ⟨rfl, unhide HB38⟩
  by_cases sh : a.he = b.he
  rotate_left
  · have b1 := bne_f sl
    have b2 := bne_t sh
    clear sl sh
    go_wp2
    go_ret
    exact ⟨rfl, unhide HB38⟩
  have b1 := bne_f sl
  have b2 := bne_f sh
  have HM := hide (meetF (unhide HA) (unhide HB) (unhide EA) (unhide EB) sl sh)
  obtain ⟨M, HME⟩ : ∃ M, Hid (Fr.mk a.lo a.he (mergeTo T a.sl b.sl (nF a)) = M) := ⟨_, hide rfl⟩
  rw [unhide HME] at HM
  have HMO := hide (unhide HM).ok
  have hq1 := fun W => neq_self (unhide HMO) W
  have hq2 := fun W => neq_self (unhide HA) W
  clear sl sh HME
  go_wp2
  clear c0a c1a c0b c1b b1 b2
  go_cut [9, 10] (fun u1 u2 wx => ∃ g : Nat, u1 = .pointer (some ⟨g, 0, none⟩) ∧ u2 = .int .i64 0 ∧ Hid (FAt wx w.heap.size a) ∧ Hid (FAt wx (w.heap.size + 1) b) ∧ Hid (FAt wx (w.heap.size + 2) c) ∧ Hid (FAt wx g M) ∧ w.heap.size < g ∧ (w.heap.size + 1) < g ∧ (w.heap.size + 2) < g ∧ Hid (Below w.heap.size w wx))
  case first =>
    have F39 : Hid (FAt W33.drew w.heap.size a) := hide (unhide F35)
    have F40 : Hid (FAt W33.drew (w.heap.size + 1) b) := hide (unhide F36)
    have F41 : Hid (FAt W33.drew (w.heap.size + 2) c) := hide (unhide F37)
    have HB42 : Hid (Below w.heap.size w W33.drew) := hide ((unhide HB38).trans ⟨rfl, rfl, rfl, Nat.le_refl _, fun _ _ => rfl⟩)
    refine wp_region_held_drew (S := fun w' => FAt w' w.heap.size a ∧ FAt w' (w.heap.size + 1) b ∧ FAt w' (w.heap.size + 2) c) (by kernel_rfl) ⟨unhide F39, unhide F40, unhide F41⟩ (fun hS43 => ?_)
    clear F35 F36 F37 HB38
    generalize W33.drew = W44 at F39 F40 F41 HB42 hS43 ⊢
    clear W33
    refine wpAnyH_take (i := 0) (v := .slice ao T.length cap) rfl (by kernel_rfl) (by kernel_rfl) (by kernel_rfl) (fun _ _ _ h => h) (Or.inl ⟨by rfl, fun w _ => by go_simp⟩) hS43 ?_
    refine wpAnyH_take (i := 2) (v := .agg (frA a)) rfl (by kernel_rfl) (by kernel_rfl) (by kernel_rfl) (fun _ _ _ h => h) (yieldsIf_load_fr (by rfl) _ rfl w.heap.size rfl a (unhide HA) (fun _ h => h.1)) hS43 ?_
    refine wpAnyH_take (i := 3) (v := .agg (frA b)) rfl (by kernel_rfl) (by kernel_rfl) (by kernel_rfl) (fun _ _ _ h => h) (yieldsIf_load_fr (by rfl) _ rfl (w.heap.size + 1) rfl b (unhide HB) (fun _ h => h.2.1)) hS43 ?_
    refine wpAnyH_ready (rs := [1, 8]) (by kernel_rfl) (by simp) ?_
    refine (AllReadyH.cons rfl (fun K hK => ?_) (AllReadyH.cons rfl (fun K hK => ?_) AllReadyH.nil))
    · go_simp
      go_wp2_with (go_at_call 11; refine (Classes_any ao cap T _ ((unhide HT).below (unhide HB42)) (unhide HZ)).mono ?_; rintro e W45 ⟨ga, gc, G, rfl, hG, hSm, hB46⟩)
      have F47 := hide ((unhide F39).below hB46 (unhide F39).lt)
      have F48 := hide ((unhide F40).below hB46 (unhide F40).lt)
      have F49 := hide ((unhide F41).below hB46 (unhide F41).lt)
      have HB50 := hide ((unhide HB42).trans (hB46.mono (unhide HB42).size))
      refine hK.out _ _ ⟨unhide F47, unhide F48, unhide F49⟩ (fun hS51 => ?_)
      clear hK K hS43 hB46 F39 F40 F41 HB42 W44
      have TG := hide hG
      have HSm := hide hSm
      clear hG hSm
      refine wpAnyH_ready (rs := [4, 8]) (by kernel_rfl) (by simp) ?_
      refine (AllReadyH.cons rfl (fun K hK => ?_) (AllReadyH.cons rfl (fun K hK => ?_) AllReadyH.nil))
      · go_simp
        go_wp2_with (go_at_call 19; refine (MergeG_any (unhide HSm) ga gc a b _ (unhide TG) (unhide HA) (unhide HB)).mono ?_; rintro e W52 ⟨rfl, hB53⟩)
        have F54 := hide ((unhide F47).below hB53 (unhide F47).lt)
        have F55 := hide ((unhide F48).below hB53 (unhide F48).lt)
        have F56 := hide ((unhide F49).below hB53 (unhide F49).lt)
        have T57 := hide ((unhide TG).below hB53)
        have HB58 := hide ((unhide HB50).trans (hB53.mono (unhide HB50).size))
        refine hK.out _ _ ⟨unhide F54, unhide F55, unhide F56⟩ (fun hS59 => ?_)
        clear hK K hS51 hB53 F47 F48 F49 TG HB50 W45
        rw [(unhide HM).ab, show frTwo (M, 0) = .tuple #[.agg (frA M), .int .i64 0] from rfl]
        clear T57 HSm
        refine wpAnyH_take (i := 5) (v := .tuple #[.agg (frA M), .int .i64 0]) rfl (by kernel_rfl) (by kernel_rfl) (by kernel_rfl) (fun _ _ _ h => h) (Or.inl ⟨by rfl, fun w _ => by go_simp⟩) hS59 ?_
        refine wpAnyH_take (i := 6) (v := .agg (frA M)) rfl (by kernel_rfl) (by kernel_rfl) (by kernel_rfl) (fun _ _ _ h => h) (Or.inl ⟨by rfl, fun w _ => by go_simp⟩) hS59 ?_
        refine wpAnyH_take (i := 7) (v := .int .i64 0) rfl (by kernel_rfl) (by kernel_rfl) (by kernel_rfl) (fun _ _ _ h => h) (Or.inl ⟨by rfl, fun w _ => by go_simp⟩) hS59 ?_
        refine wpAnyH_ready (rs := [8]) (by kernel_rfl) (by simp) ?_
        refine AllReadyH.cons rfl (fun K hK => ?_) AllReadyH.nil
        go_simp
        have hal : Below W52.heap.size W52 (W52.alloc (.cells (frA frZ) 27)) := (Below.refl _ _).alloc (Nat.le_refl _) _
        have o_a_m : w.heap.size < W52.heap.size := (unhide F54).lt
        have o_b_m : (w.heap.size + 1) < W52.heap.size := (unhide F55).lt
        have o_c_m : (w.heap.size + 2) < W52.heap.size := (unhide F56).lt
        have F60 : Hid (FAt (W52.alloc (.cells (frA frZ) 27)) w.heap.size a) := hide ((unhide F54).below hal (unhide F54).lt)
        have F61 : Hid (FAt (W52.alloc (.cells (frA frZ) 27)) (w.heap.size + 1) b) := hide ((unhide F55).below hal (unhide F55).lt)
        have F62 : Hid (FAt (W52.alloc (.cells (frA frZ) 27)) (w.heap.size + 2) c) := hide ((unhide F56).below hal (unhide F56).lt)
        have HB63 : Hid (Below w.heap.size w (W52.alloc (.cells (frA frZ) 27))) := hide ((unhide HB58).trans (hal.mono (unhide HB58).size))
        have F64 : Hid (FAt (W52.alloc (.cells (frA frZ) 27)) W52.heap.size frZ) := hide (FAt.new W52 frZ)
        refine hK.out _ _ ⟨unhide F60, unhide F61, unhide F62⟩ (fun hS65 => ?_)
        clear hK K hal hS59 F54 F55 F56 HB58
        rw [frZ_eq]
        change FAt (W52.alloc (.cells (frA frZ) 27)) w.heap.size a ∧ FAt (W52.alloc (.cells (frA frZ) 27)) (w.heap.size + 1) b ∧ FAt (W52.alloc (.cells (frA frZ) 27)) (w.heap.size + 2) c at hS65
        generalize (W52.alloc (.cells (frA frZ) 27)) = W66 at F60 F61 F62 F64 HB63 hS65 ⊢
        generalize W52.heap.size = g_m at F64 o_a_m o_b_m o_c_m ⊢
        clear W52
        refine wpAnyH_ready (rs := [9]) (by kernel_rfl) (by simp) ?_
        refine AllReadyH.cons rfl (fun K hK => ?_) AllReadyH.nil
        rw [if_pos (by rfl)]
        refine wp_store_row 27 _ _ rfl g_m (frA M) rfl rfl 27 (frA frZ) (unhide F64) (sizeFr (unhide HMO)) (sizeEq frZ_ok (unhide HMO)) (frA_one _) ?_
        have F67 : Hid (FAt (W66.setRow g_m (frA M)) w.heap.size a) := hide ((unhide F60).rowOther M (by omega))
        have F68 : Hid (FAt (W66.setRow g_m (frA M)) (w.heap.size + 1) b) := hide ((unhide F61).rowOther M (by omega))
        have F69 : Hid (FAt (W66.setRow g_m (frA M)) (w.heap.size + 2) c) := hide ((unhide F62).rowOther M (by omega))
        have F70 : Hid (FAt (W66.setRow g_m (frA M)) g_m M) := hide ((unhide F64).row M)
        have HB71 : Hid (Below w.heap.size w (W66.setRow g_m (frA M))) := hide (below_setRow' (unhide HB63) (by omega) _)
        refine hK.out _ _ ⟨unhide F67, unhide F68, unhide F69⟩ (fun hS72 => ?_)
        clear hK K hS65 F60 F61 F62 F64 HB63
        generalize (W66.setRow g_m (frA M)) = W73 at F67 F68 F69 F70 HB71 hS72 ⊢
        clear W66
        refine wpAnyH_take (i := 10) (v := .int .i64 0) rfl (by kernel_rfl) (by kernel_rfl) (by kernel_rfl) (fun _ _ _ h => h) (Or.inl ⟨by rfl, fun w _ => by go_simp⟩) hS72 ?_
        refine wpAnyH_done (by kernel_rfl) ?_ _
        clear hS72
        go_wp2_with fail
        go_meet
        exact ⟨_, rfl, rfl, F67, F68, F69, F70, by omega, by omega, by omega, HB71⟩
      · go_simp
        have hal : Below W45.heap.size W45 (W45.alloc (.cells (frA frZ) 27)) := (Below.refl _ _).alloc (Nat.le_refl _) _
        have o_a_m : w.heap.size < W45.heap.size := (unhide F47).lt
        have o_b_m : (w.heap.size + 1) < W45.heap.size := (unhide F48).lt
        have o_c_m : (w.heap.size + 2) < W45.heap.size := (unhide F49).lt
        have F74 : Hid (FAt (W45.alloc (.cells (frA frZ) 27)) w.heap.size a) := hide ((unhide F47).below hal (unhide F47).lt)
        have F75 : Hid (FAt (W45.alloc (.cells (frA frZ) 27)) (w.heap.size + 1) b) := hide ((unhide F48).below hal (unhide F48).lt)
        have F76 : Hid (FAt (W45.alloc (.cells (frA frZ) 27)) (w.heap.size + 2) c) := hide ((unhide F49).below hal (unhide F49).lt)
        have T77 := hide ((unhide TG).below hal)
        have HB78 : Hid (Below w.heap.size w (W45.alloc (.cells (frA frZ) 27))) := hide ((unhide HB50).trans (hal.mono (unhide HB50).size))
        have F79 : Hid (FAt (W45.alloc (.cells (frA frZ) 27)) W45.heap.size frZ) := hide (FAt.new W45 frZ)
        refine hK.out _ _ ⟨unhide F74, unhide F75, unhide F76⟩ (fun hS80 => ?_)
        clear hK K hal hS51 F47 F48 F49 TG HB50
        rw [frZ_eq]
        change FAt (W45.alloc (.cells (frA frZ) 27)) w.heap.size a ∧ FAt (W45.alloc (.cells (frA frZ) 27)) (w.heap.size + 1) b ∧ FAt (W45.alloc (.cells (frA frZ) 27)) (w.heap.size + 2) c at hS80
        generalize (W45.alloc (.cells (frA frZ) 27)) = W81 at F74 F75 F76 F79 T77 HB78 hS80 ⊢
        generalize W45.heap.size = g_m at F79 o_a_m o_b_m o_c_m ⊢
        clear W45
        refine wpAnyH_ready (rs := [4]) (by kernel_rfl) (by simp) ?_
        refine AllReadyH.cons rfl (fun K hK => ?_) AllReadyH.nil
        go_simp
        go_wp2_with (go_at_call 19; refine (MergeG_any (unhide HSm) ga gc a b _ (unhide T77) (unhide HA) (unhide HB)).mono ?_; rintro e W82 ⟨rfl, hB83⟩)
        have F84 := hide ((unhide F74).below hB83 (unhide F74).lt)
        have F85 := hide ((unhide F75).below hB83 (unhide F75).lt)
        have F86 := hide ((unhide F76).below hB83 (unhide F76).lt)
        have F87 := hide ((unhide F79).below hB83 (unhide F79).lt)
        have T88 := hide ((unhide T77).below hB83)
        have HB89 := hide ((unhide HB78).trans (hB83.mono (unhide HB78).size))
        refine hK.out _ _ ⟨unhide F84, unhide F85, unhide F86⟩ (fun hS90 => ?_)
        clear hK K hS80 hB83 F74 F75 F76 F79 T77 HB78 W81
        rw [(unhide HM).ab, show frTwo (M, 0) = .tuple #[.agg (frA M), .int .i64 0] from rfl]
        clear T88 HSm
        refine wpAnyH_take (i := 5) (v := .tuple #[.agg (frA M), .int .i64 0]) rfl (by kernel_rfl) (by kernel_rfl) (by kernel_rfl) (fun _ _ _ h => h) (Or.inl ⟨by rfl, fun w _ => by go_simp⟩) hS90 ?_
        refine wpAnyH_take (i := 6) (v := .agg (frA M)) rfl (by kernel_rfl) (by kernel_rfl) (by kernel_rfl) (fun _ _ _ h => h) (Or.inl ⟨by rfl, fun w _ => by go_simp⟩) hS90 ?_
        refine wpAnyH_take (i := 7) (v := .int .i64 0) rfl (by kernel_rfl) (by kernel_rfl) (by kernel_rfl) (fun _ _ _ h => h) (Or.inl ⟨by rfl, fun w _ => by go_simp⟩) hS90 ?_
        refine wpAnyH_ready (rs := [9]) (by kernel_rfl) (by simp) ?_
        refine AllReadyH.cons rfl (fun K hK => ?_) AllReadyH.nil
        rw [if_pos (by rfl)]
        refine wp_store_row 27 _ _ rfl g_m (frA M) rfl rfl 27 (frA frZ) (unhide F87) (sizeFr (unhide HMO)) (sizeEq frZ_ok (unhide HMO)) (frA_one _) ?_
        have F91 : Hid (FAt (W82.setRow g_m (frA M)) w.heap.size a) := hide ((unhide F84).rowOther M (by omega))
        have F92 : Hid (FAt (W82.setRow g_m (frA M)) (w.heap.size + 1) b) := hide ((unhide F85).rowOther M (by omega))
        have F93 : Hid (FAt (W82.setRow g_m (frA M)) (w.heap.size + 2) c) := hide ((unhide F86).rowOther M (by omega))
        have F94 : Hid (FAt (W82.setRow g_m (frA M)) g_m M) := hide ((unhide F87).row M)
        have HB95 : Hid (Below w.heap.size w (W82.setRow g_m (frA M))) := hide (below_setRow' (unhide HB89) (by omega) _)
        refine hK.out _ _ ⟨unhide F91, unhide F92, unhide F93⟩ (fun hS96 => ?_)
        clear hK K hS90 F84 F85 F86 F87 HB89
        generalize (W82.setRow g_m (frA M)) = W97 at F91 F92 F93 F94 HB95 hS96 ⊢
        clear W82
        refine wpAnyH_take (i := 10) (v := .int .i64 0) rfl (by kernel_rfl) (by kernel_rfl) (by kernel_rfl) (fun _ _ _ h => h) (Or.inl ⟨by rfl, fun w _ => by go_simp⟩) hS96 ?_
        refine wpAnyH_done (by kernel_rfl) ?_ _
        clear hS96
        go_wp2_with fail
        go_meet
        exact ⟨_, rfl, rfl, F91, F92, F93, F94, by omega, by omega, by omega, HB95⟩
    · go_simp
      have hal : Below W44.heap.size W44 (W44.alloc (.cells (frA frZ) 27)) := (Below.refl _ _).alloc (Nat.le_refl _) _
      have o_a_m : w.heap.size < W44.heap.size := (unhide F39).lt
      have o_b_m : (w.heap.size + 1) < W44.heap.size := (unhide F40).lt
      have o_c_m : (w.heap.size + 2) < W44.heap.size := (unhide F41).lt
      have F98 : Hid (FAt (W44.alloc (.cells (frA frZ) 27)) w.heap.size a) := hide ((unhide F39).below hal (unhide F39).lt)
      have F99 : Hid (FAt (W44.alloc (.cells (frA frZ) 27)) (w.heap.size + 1) b) := hide ((unhide F40).below hal (unhide F40).lt)
      have F100 : Hid (FAt (W44.alloc (.cells (frA frZ) 27)) (w.heap.size + 2) c) := hide ((unhide F41).below hal (unhide F41).lt)
      have HB101 : Hid (Below w.heap.size w (W44.alloc (.cells (frA frZ) 27))) := hide ((unhide HB42).trans (hal.mono (unhide HB42).size))
      have F102 : Hid (FAt (W44.alloc (.cells (frA frZ) 27)) W44.heap.size frZ) := hide (FAt.new W44 frZ)
      refine hK.out _ _ ⟨unhide F98, unhide F99, unhide F100⟩ (fun hS103 => ?_)
      clear hK K hal hS43 F39 F40 F41 HB42
      rw [frZ_eq]
      change FAt (W44.alloc (.cells (frA frZ) 27)) w.heap.size a ∧ FAt (W44.alloc (.cells (frA frZ) 27)) (w.heap.size + 1) b ∧ FAt (W44.alloc (.cells (frA frZ) 27)) (w.heap.size + 2) c at hS103
      generalize (W44.alloc (.cells (frA frZ) 27)) = W104 at F98 F99 F100 F102 HB101 hS103 ⊢
      generalize W44.heap.size = g_m at F102 o_a_m o_b_m o_c_m ⊢
      clear W44
      refine wpAnyH_ready (rs := [1]) (by kernel_rfl) (by simp) ?_
      refine AllReadyH.cons rfl (fun K hK => ?_) AllReadyH.nil
      go_simp
      go_wp2_with (go_at_call 11; refine (Classes_any ao cap T _ ((unhide HT).below (unhide HB101)) (unhide HZ)).mono ?_; rintro e W105 ⟨ga, gc, G, rfl, hG, hSm, hB106⟩)
      have F107 := hide ((unhide F98).below hB106 (unhide F98).lt)
      have F108 := hide ((unhide F99).below hB106 (unhide F99).lt)
      have F109 := hide ((unhide F100).below hB106 (unhide F100).lt)
      have F110 := hide ((unhide F102).below hB106 (unhide F102).lt)
      have HB111 := hide ((unhide HB101).trans (hB106.mono (unhide HB101).size))
      refine hK.out _ _ ⟨unhide F107, unhide F108, unhide F109⟩ (fun hS112 => ?_)
      clear hK K hS103 hB106 F98 F99 F100 F102 HB101 W104
      have TG := hide hG
      have HSm := hide hSm
      clear hG hSm
      refine wpAnyH_ready (rs := [4]) (by kernel_rfl) (by simp) ?_
      refine AllReadyH.cons rfl (fun K hK => ?_) AllReadyH.nil
      go_simp
      go_wp2_with (go_at_call 19; refine (MergeG_any (unhide HSm) ga gc a b _ (unhide TG) (unhide HA) (unhide HB)).mono ?_; rintro e W113 ⟨rfl, hB114⟩)
      have F115 := hide ((unhide F107).below hB114 (unhide F107).lt)
      have F116 := hide ((unhide F108).below hB114 (unhide F108).lt)
      have F117 := hide ((unhide F109).below hB114 (unhide F109).lt)
      have F118 := hide ((unhide F110).below hB114 (unhide F110).lt)
      have T119 := hide ((unhide TG).below hB114)
      have HB120 := hide ((unhide HB111).trans (hB114.mono (unhide HB111).size))
      refine hK.out _ _ ⟨unhide F115, unhide F116, unhide F117⟩ (fun hS121 => ?_)
      clear hK K hS112 hB114 F107 F108 F109 F110 TG HB111 W105
      rw [(unhide HM).ab, show frTwo (M, 0) = .tuple #[.agg (frA M), .int .i64 0] from rfl]
      clear T119 HSm
      refine wpAnyH_take (i := 5) (v := .tuple #[.agg (frA M), .int .i64 0]) rfl (by kernel_rfl) (by kernel_rfl) (by kernel_rfl) (fun _ _ _ h => h) (Or.inl ⟨by rfl, fun w _ => by go_simp⟩) hS121 ?_
      refine wpAnyH_take (i := 6) (v := .agg (frA M)) rfl (by kernel_rfl) (by kernel_rfl) (by kernel_rfl) (fun _ _ _ h => h) (Or.inl ⟨by rfl, fun w _ => by go_simp⟩) hS121 ?_
      refine wpAnyH_take (i := 7) (v := .int .i64 0) rfl (by kernel_rfl) (by kernel_rfl) (by kernel_rfl) (fun _ _ _ h => h) (Or.inl ⟨by rfl, fun w _ => by go_simp⟩) hS121 ?_
      refine wpAnyH_ready (rs := [9]) (by kernel_rfl) (by simp) ?_
      refine AllReadyH.cons rfl (fun K hK => ?_) AllReadyH.nil
      rw [if_pos (by rfl)]
      refine wp_store_row 27 _ _ rfl g_m (frA M) rfl rfl 27 (frA frZ) (unhide F118) (sizeFr (unhide HMO)) (sizeEq frZ_ok (unhide HMO)) (frA_one _) ?_
      have F122 : Hid (FAt (W113.setRow g_m (frA M)) w.heap.size a) := hide ((unhide F115).rowOther M (by omega))
      have F123 : Hid (FAt (W113.setRow g_m (frA M)) (w.heap.size + 1) b) := hide ((unhide F116).rowOther M (by omega))
      have F124 : Hid (FAt (W113.setRow g_m (frA M)) (w.heap.size + 2) c) := hide ((unhide F117).rowOther M (by omega))
      have F125 : Hid (FAt (W113.setRow g_m (frA M)) g_m M) := hide ((unhide F118).row M)
      have HB126 : Hid (Below w.heap.size w (W113.setRow g_m (frA M))) := hide (below_setRow' (unhide HB120) (by omega) _)
      refine hK.out _ _ ⟨unhide F122, unhide F123, unhide F124⟩ (fun hS127 => ?_)
      clear hK K hS121 F115 F116 F117 F118 HB120
      generalize (W113.setRow g_m (frA M)) = W128 at F122 F123 F124 F125 HB126 hS127 ⊢
      clear W113
      refine wpAnyH_take (i := 10) (v := .int .i64 0) rfl (by kernel_rfl) (by kernel_rfl) (by kernel_rfl) (fun _ _ _ h => h) (Or.inl ⟨by rfl, fun w _ => by go_simp⟩) hS127 ?_
      refine wpAnyH_done (by kernel_rfl) ?_ _
      clear hS127
      go_wp2_with fail
      go_meet
      exact ⟨_, rfl, rfl, F122, F123, F124, F125, by omega, by omega, by omega, HB126⟩
  case rest =>
    obtain ⟨g_m, rfl, rfl, F129, F130, F131, F132, o_a_m, o_b_m, o_c_m, HB133⟩ := hcut
    clear F35 F36 F37 HB38
    go_wp2
    go_cut [11, 12] (fun u1 u2 wx => ∃ g : Nat, u1 = .pointer (some ⟨g, 0, none⟩) ∧ u2 = .int .i64 0 ∧ Hid (FAt wx w.heap.size a) ∧ Hid (FAt wx (w.heap.size + 1) b) ∧ Hid (FAt wx (w.heap.size + 2) c) ∧ Hid (FAt wx g_m M) ∧ Hid (FAt wx g M) ∧ w.heap.size < g ∧ (w.heap.size + 1) < g ∧ (w.heap.size + 2) < g ∧ g_m < g ∧ Hid (Below w.heap.size w wx))
    case first =>
      have F134 : Hid (FAt wc.drew w.heap.size a) := hide (unhide F129)
      have F135 : Hid (FAt wc.drew (w.heap.size + 1) b) := hide (unhide F130)
      have F136 : Hid (FAt wc.drew (w.heap.size + 2) c) := hide (unhide F131)
      have F137 : Hid (FAt wc.drew g_m M) := hide (unhide F132)
      have HB138 : Hid (Below w.heap.size w wc.drew) := hide ((unhide HB133).trans ⟨rfl, rfl, rfl, Nat.le_refl _, fun _ _ => rfl⟩)
      refine wp_region_held_drew (S := fun w' => FAt w' w.heap.size a ∧ FAt w' (w.heap.size + 1) b ∧ FAt w' (w.heap.size + 2) c ∧ FAt w' g_m M) (by kernel_rfl) ⟨unhide F134, unhide F135, unhide F136, unhide F137⟩ (fun hS139 => ?_)
      clear F129 F130 F131 F132 HB133
      generalize wc.drew = W140 at F134 F135 F136 F137 HB138 hS139 ⊢
      clear wc
      refine wpAnyH_take (i := 0) (v := .slice ao T.length cap) rfl (by kernel_rfl) (by kernel_rfl) (by kernel_rfl) (fun _ _ _ h => h) (Or.inl ⟨by rfl, fun w _ => by go_simp⟩) hS139 ?_
      refine wpAnyH_take (i := 2) (v := .agg (frA b)) rfl (by kernel_rfl) (by kernel_rfl) (by kernel_rfl) (fun _ _ _ h => h) (yieldsIf_load_fr (by rfl) _ rfl (w.heap.size + 1) rfl b (unhide HB) (fun _ h => h.2.1)) hS139 ?_
      refine wpAnyH_take (i := 3) (v := .agg (frA a)) rfl (by kernel_rfl) (by kernel_rfl) (by kernel_rfl) (fun _ _ _ h => h) (yieldsIf_load_fr (by rfl) _ rfl w.heap.size rfl a (unhide HA) (fun _ h => h.1)) hS139 ?_
      refine wpAnyH_ready (rs := [1, 8]) (by kernel_rfl) (by simp) ?_
      refine (AllReadyH.cons rfl (fun K hK => ?_) (AllReadyH.cons rfl (fun K hK => ?_) AllReadyH.nil))
      · go_simp
        go_wp2_with (go_at_call 11; refine (Classes_any ao cap T _ ((unhide HT).below (unhide HB138)) (unhide HZ)).mono ?_; rintro e W141 ⟨ga, gc, G, rfl, hG, hSm, hB142⟩)
        have F143 := hide ((unhide F134).below hB142 (unhide F134).lt)
        have F144 := hide ((unhide F135).below hB142 (unhide F135).lt)
        have F145 := hide ((unhide F136).below hB142 (unhide F136).lt)
        have F146 := hide ((unhide F137).below hB142 (unhide F137).lt)
        have HB147 := hide ((unhide HB138).trans (hB142.mono (unhide HB138).size))
        refine hK.out _ _ ⟨unhide F143, unhide F144, unhide F145, unhide F146⟩ (fun hS148 => ?_)
        clear hK K hS139 hB142 F134 F135 F136 F137 HB138 W140
        have TG := hide hG
        have HSm := hide hSm
        clear hG hSm
        refine wpAnyH_ready (rs := [4, 8]) (by kernel_rfl) (by simp) ?_
        refine (AllReadyH.cons rfl (fun K hK => ?_) (AllReadyH.cons rfl (fun K hK => ?_) AllReadyH.nil))
        · go_simp
          go_wp2_with (go_at_call 19; refine (MergeG_any (unhide HSm) ga gc b a _ (unhide TG) (unhide HB) (unhide HA)).mono ?_; rintro e W149 ⟨rfl, hB150⟩)
          have F151 := hide ((unhide F143).below hB150 (unhide F143).lt)
          have F152 := hide ((unhide F144).below hB150 (unhide F144).lt)
          have F153 := hide ((unhide F145).below hB150 (unhide F145).lt)
          have F154 := hide ((unhide F146).below hB150 (unhide F146).lt)
          have T155 := hide ((unhide TG).below hB150)
          have HB156 := hide ((unhide HB147).trans (hB150.mono (unhide HB147).size))
          refine hK.out _ _ ⟨unhide F151, unhide F152, unhide F153, unhide F154⟩ (fun hS157 => ?_)
          clear hK K hS148 hB150 F143 F144 F145 F146 TG HB147 W141
          rw [(unhide HM).ba, show frTwo (M, 0) = .tuple #[.agg (frA M), .int .i64 0] from rfl]
          clear T155 HSm
          refine wpAnyH_take (i := 5) (v := .tuple #[.agg (frA M), .int .i64 0]) rfl (by kernel_rfl) (by kernel_rfl) (by kernel_rfl) (fun _ _ _ h => h) (Or.inl ⟨by rfl, fun w _ => by go_simp⟩) hS157 ?_
          refine wpAnyH_take (i := 6) (v := .agg (frA M)) rfl (by kernel_rfl) (by kernel_rfl) (by kernel_rfl) (fun _ _ _ h => h) (Or.inl ⟨by rfl, fun w _ => by go_simp⟩) hS157 ?_
          refine wpAnyH_take (i := 7) (v := .int .i64 0) rfl (by kernel_rfl) (by kernel_rfl) (by kernel_rfl) (fun _ _ _ h => h) (Or.inl ⟨by rfl, fun w _ => by go_simp⟩) hS157 ?_
          refine wpAnyH_ready (rs := [8]) (by kernel_rfl) (by simp) ?_
          refine AllReadyH.cons rfl (fun K hK => ?_) AllReadyH.nil
          go_simp
          have hal : Below W149.heap.size W149 (W149.alloc (.cells (frA frZ) 27)) := (Below.refl _ _).alloc (Nat.le_refl _) _
          have o_a_n : w.heap.size < W149.heap.size := (unhide F151).lt
          have o_b_n : (w.heap.size + 1) < W149.heap.size := (unhide F152).lt
          have o_c_n : (w.heap.size + 2) < W149.heap.size := (unhide F153).lt
          have o_m_n : g_m < W149.heap.size := (unhide F154).lt
          have F158 : Hid (FAt (W149.alloc (.cells (frA frZ) 27)) w.heap.size a) := hide ((unhide F151).below hal (unhide F151).lt)
          have F159 : Hid (FAt (W149.alloc (.cells (frA frZ) 27)) (w.heap.size + 1) b) := hide ((unhide F152).below hal (unhide F152).lt)
          have F160 : Hid (FAt (W149.alloc (.cells (frA frZ) 27)) (w.heap.size + 2) c) := hide ((unhide F153).below hal (unhide F153).lt)
          have F161 : Hid (FAt (W149.alloc (.cells (frA frZ) 27)) g_m M) := hide ((unhide F154).below hal (unhide F154).lt)
          have HB162 : Hid (Below w.heap.size w (W149.alloc (.cells (frA frZ) 27))) := hide ((unhide HB156).trans (hal.mono (unhide HB156).size))
          have F163 : Hid (FAt (W149.alloc (.cells (frA frZ) 27)) W149.heap.size frZ) := hide (FAt.new W149 frZ)
          refine hK.out _ _ ⟨unhide F158, unhide F159, unhide F160, unhide F161⟩ (fun hS164 => ?_)
          clear hK K hal hS157 F151 F152 F153 F154 HB156
          rw [frZ_eq]
          change FAt (W149.alloc (.cells (frA frZ) 27)) w.heap.size a ∧ FAt (W149.alloc (.cells (frA frZ) 27)) (w.heap.size + 1) b ∧ FAt (W149.alloc (.cells (frA frZ) 27)) (w.heap.size + 2) c ∧ FAt (W149.alloc (.cells (frA frZ) 27)) g_m M at hS164
          generalize (W149.alloc (.cells (frA frZ) 27)) = W165 at F158 F159 F160 F161 F163 HB162 hS164 ⊢
          generalize W149.heap.size = g_n at F163 o_a_n o_b_n o_c_n o_m_n ⊢
          clear W149
          refine wpAnyH_ready (rs := [9]) (by kernel_rfl) (by simp) ?_
          refine AllReadyH.cons rfl (fun K hK => ?_) AllReadyH.nil
          rw [if_pos (by rfl)]
          refine wp_store_row 27 _ _ rfl g_n (frA M) rfl rfl 27 (frA frZ) (unhide F163) (sizeFr (unhide HMO)) (sizeEq frZ_ok (unhide HMO)) (frA_one _) ?_
          have F166 : Hid (FAt (W165.setRow g_n (frA M)) w.heap.size a) := hide ((unhide F158).rowOther M (by omega))
          have F167 : Hid (FAt (W165.setRow g_n (frA M)) (w.heap.size + 1) b) := hide ((unhide F159).rowOther M (by omega))
          have F168 : Hid (FAt (W165.setRow g_n (frA M)) (w.heap.size + 2) c) := hide ((unhide F160).rowOther M (by omega))
          have F169 : Hid (FAt (W165.setRow g_n (frA M)) g_m M) := hide ((unhide F161).rowOther M (by omega))
          have F170 : Hid (FAt (W165.setRow g_n (frA M)) g_n M) := hide ((unhide F163).row M)
          have HB171 : Hid (Below w.heap.size w (W165.setRow g_n (frA M))) := hide (below_setRow' (unhide HB162) (by omega) _)
          refine hK.out _ _ ⟨unhide F166, unhide F167, unhide F168, unhide F169⟩ (fun hS172 => ?_)
          clear hK K hS164 F158 F159 F160 F161 F163 HB162
          generalize (W165.setRow g_n (frA M)) = W173 at F166 F167 F168 F169 F170 HB171 hS172 ⊢
          clear W165
          refine wpAnyH_take (i := 10) (v := .int .i64 0) rfl (by kernel_rfl) (by kernel_rfl) (by kernel_rfl) (fun _ _ _ h => h) (Or.inl ⟨by rfl, fun w _ => by go_simp⟩) hS172 ?_
          refine wpAnyH_done (by kernel_rfl) ?_ _
          clear hS172
          go_wp2_with fail
          go_meet
          exact ⟨_, rfl, rfl, F166, F167, F168, F169, F170, by omega, by omega, by omega, by omega, HB171⟩
        · go_simp
          have hal : Below W141.heap.size W141 (W141.alloc (.cells (frA frZ) 27)) := (Below.refl _ _).alloc (Nat.le_refl _) _
          have o_a_n : w.heap.size < W141.heap.size := (unhide F143).lt
          have o_b_n : (w.heap.size + 1) < W141.heap.size := (unhide F144).lt
          have o_c_n : (w.heap.size + 2) < W141.heap.size := (unhide F145).lt
          have o_m_n : g_m < W141.heap.size := (unhide F146).lt
          have F174 : Hid (FAt (W141.alloc (.cells (frA frZ) 27)) w.heap.size a) := hide ((unhide F143).below hal (unhide F143).lt)
          have F175 : Hid (FAt (W141.alloc (.cells (frA frZ) 27)) (w.heap.size + 1) b) := hide ((unhide F144).below hal (unhide F144).lt)
          have F176 : Hid (FAt (W141.alloc (.cells (frA frZ) 27)) (w.heap.size + 2) c) := hide ((unhide F145).below hal (unhide F145).lt)
          have F177 : Hid (FAt (W141.alloc (.cells (frA frZ) 27)) g_m M) := hide ((unhide F146).below hal (unhide F146).lt)
          have T178 := hide ((unhide TG).below hal)
          have HB179 : Hid (Below w.heap.size w (W141.alloc (.cells (frA frZ) 27))) := hide ((unhide HB147).trans (hal.mono (unhide HB147).size))
          have F180 : Hid (FAt (W141.alloc (.cells (frA frZ) 27)) W141.heap.size frZ) := hide (FAt.new W141 frZ)
          refine hK.out _ _ ⟨unhide F174, unhide F175, unhide F176, unhide F177⟩ (fun hS181 => ?_)
          clear hK K hal hS148 F143 F144 F145 F146 TG HB147
          rw [frZ_eq]
          change FAt (W141.alloc (.cells (frA frZ) 27)) w.heap.size a ∧ FAt (W141.alloc (.cells (frA frZ) 27)) (w.heap.size + 1) b ∧ FAt (W141.alloc (.cells (frA frZ) 27)) (w.heap.size + 2) c ∧ FAt (W141.alloc (.cells (frA frZ) 27)) g_m M at hS181
          generalize (W141.alloc (.cells (frA frZ) 27)) = W182 at F174 F175 F176 F177 F180 T178 HB179 hS181 ⊢
          generalize W141.heap.size = g_n at F180 o_a_n o_b_n o_c_n o_m_n ⊢
          clear W141
          refine wpAnyH_ready (rs := [4]) (by kernel_rfl) (by simp) ?_
          refine AllReadyH.cons rfl (fun K hK => ?_) AllReadyH.nil
          go_simp
          go_wp2_with (go_at_call 19; refine (MergeG_any (unhide HSm) ga gc b a _ (unhide T178) (unhide HB) (unhide HA)).mono ?_; rintro e W183 ⟨rfl, hB184⟩)
          have F185 := hide ((unhide F174).below hB184 (unhide F174).lt)
          have F186 := hide ((unhide F175).below hB184 (unhide F175).lt)
          have F187 := hide ((unhide F176).below hB184 (unhide F176).lt)
          have F188 := hide ((unhide F177).below hB184 (unhide F177).lt)
          have F189 := hide ((unhide F180).below hB184 (unhide F180).lt)
          have T190 := hide ((unhide T178).below hB184)
          have HB191 := hide ((unhide HB179).trans (hB184.mono (unhide HB179).size))
          refine hK.out _ _ ⟨unhide F185, unhide F186, unhide F187, unhide F188⟩ (fun hS192 => ?_)
          clear hK K hS181 hB184 F174 F175 F176 F177 F180 T178 HB179 W182
          rw [(unhide HM).ba, show frTwo (M, 0) = .tuple #[.agg (frA M), .int .i64 0] from rfl]
          clear T190 HSm
          refine wpAnyH_take (i := 5) (v := .tuple #[.agg (frA M), .int .i64 0]) rfl (by kernel_rfl) (by kernel_rfl) (by kernel_rfl) (fun _ _ _ h => h) (Or.inl ⟨by rfl, fun w _ => by go_simp⟩) hS192 ?_
          refine wpAnyH_take (i := 6) (v := .agg (frA M)) rfl (by kernel_rfl) (by kernel_rfl) (by kernel_rfl) (fun _ _ _ h => h) (Or.inl ⟨by rfl, fun w _ => by go_simp⟩) hS192 ?_
          refine wpAnyH_take (i := 7) (v := .int .i64 0) rfl (by kernel_rfl) (by kernel_rfl) (by kernel_rfl) (fun _ _ _ h => h) (Or.inl ⟨by rfl, fun w _ => by go_simp⟩) hS192 ?_
          refine wpAnyH_ready (rs := [9]) (by kernel_rfl) (by simp) ?_
          refine AllReadyH.cons rfl (fun K hK => ?_) AllReadyH.nil
          rw [if_pos (by rfl)]
          refine wp_store_row 27 _ _ rfl g_n (frA M) rfl rfl 27 (frA frZ) (unhide F189) (sizeFr (unhide HMO)) (sizeEq frZ_ok (unhide HMO)) (frA_one _) ?_
          have F193 : Hid (FAt (W183.setRow g_n (frA M)) w.heap.size a) := hide ((unhide F185).rowOther M (by omega))
          have F194 : Hid (FAt (W183.setRow g_n (frA M)) (w.heap.size + 1) b) := hide ((unhide F186).rowOther M (by omega))
          have F195 : Hid (FAt (W183.setRow g_n (frA M)) (w.heap.size + 2) c) := hide ((unhide F187).rowOther M (by omega))
          have F196 : Hid (FAt (W183.setRow g_n (frA M)) g_m M) := hide ((unhide F188).rowOther M (by omega))
          have F197 : Hid (FAt (W183.setRow g_n (frA M)) g_n M) := hide ((unhide F189).row M)
          have HB198 : Hid (Below w.heap.size w (W183.setRow g_n (frA M))) := hide (below_setRow' (unhide HB191) (by omega) _)
          refine hK.out _ _ ⟨unhide F193, unhide F194, unhide F195, unhide F196⟩ (fun hS199 => ?_)
          clear hK K hS192 F185 F186 F187 F188 F189 HB191
          generalize (W183.setRow g_n (frA M)) = W200 at F193 F194 F195 F196 F197 HB198 hS199 ⊢
          clear W183
          refine wpAnyH_take (i := 10) (v := .int .i64 0) rfl (by kernel_rfl) (by kernel_rfl) (by kernel_rfl) (fun _ _ _ h => h) (Or.inl ⟨by rfl, fun w _ => by go_simp⟩) hS199 ?_
          refine wpAnyH_done (by kernel_rfl) ?_ _
          clear hS199
          go_wp2_with fail
          go_meet
          exact ⟨_, rfl, rfl, F193, F194, F195, F196, F197, by omega, by omega, by omega, by omega, HB198⟩
      · go_simp
        have hal : Below W140.heap.size W140 (W140.alloc (.cells (frA frZ) 27)) := (Below.refl _ _).alloc (Nat.le_refl _) _
        have o_a_n : w.heap.size < W140.heap.size := (unhide F134).lt
        have o_b_n : (w.heap.size + 1) < W140.heap.size := (unhide F135).lt
        have o_c_n : (w.heap.size + 2) < W140.heap.size := (unhide F136).lt
        have o_m_n : g_m < W140.heap.size := (unhide F137).lt
        have F201 : Hid (FAt (W140.alloc (.cells (frA frZ) 27)) w.heap.size a) := hide ((unhide F134).below hal (unhide F134).lt)
        have F202 : Hid (FAt (W140.alloc (.cells (frA frZ) 27)) (w.heap.size + 1) b) := hide ((unhide F135).below hal (unhide F135).lt)
        have F203 : Hid (FAt (W140.alloc (.cells (frA frZ) 27)) (w.heap.size + 2) c) := hide ((unhide F136).below hal (unhide F136).lt)
        have F204 : Hid (FAt (W140.alloc (.cells (frA frZ) 27)) g_m M) := hide ((unhide F137).below hal (unhide F137).lt)
        have HB205 : Hid (Below w.heap.size w (W140.alloc (.cells (frA frZ) 27))) := hide ((unhide HB138).trans (hal.mono (unhide HB138).size))
        have F206 : Hid (FAt (W140.alloc (.cells (frA frZ) 27)) W140.heap.size frZ) := hide (FAt.new W140 frZ)
        refine hK.out _ _ ⟨unhide F201, unhide F202, unhide F203, unhide F204⟩ (fun hS207 => ?_)
        clear hK K hal hS139 F134 F135 F136 F137 HB138
        rw [frZ_eq]
        change FAt (W140.alloc (.cells (frA frZ) 27)) w.heap.size a ∧ FAt (W140.alloc (.cells (frA frZ) 27)) (w.heap.size + 1) b ∧ FAt (W140.alloc (.cells (frA frZ) 27)) (w.heap.size + 2) c ∧ FAt (W140.alloc (.cells (frA frZ) 27)) g_m M at hS207
        generalize (W140.alloc (.cells (frA frZ) 27)) = W208 at F201 F202 F203 F204 F206 HB205 hS207 ⊢
        generalize W140.heap.size = g_n at F206 o_a_n o_b_n o_c_n o_m_n ⊢
        clear W140
        refine wpAnyH_ready (rs := [1]) (by kernel_rfl) (by simp) ?_
        refine AllReadyH.cons rfl (fun K hK => ?_) AllReadyH.nil
        go_simp
        go_wp2_with (go_at_call 11; refine (Classes_any ao cap T _ ((unhide HT).below (unhide HB205)) (unhide HZ)).mono ?_; rintro e W209 ⟨ga, gc, G, rfl, hG, hSm, hB210⟩)
        have F211 := hide ((unhide F201).below hB210 (unhide F201).lt)
        have F212 := hide ((unhide F202).below hB210 (unhide F202).lt)
        have F213 := hide ((unhide F203).below hB210 (unhide F203).lt)
        have F214 := hide ((unhide F204).below hB210 (unhide F204).lt)
        have F215 := hide ((unhide F206).below hB210 (unhide F206).lt)
        have HB216 := hide ((unhide HB205).trans (hB210.mono (unhide HB205).size))
        refine hK.out _ _ ⟨unhide F211, unhide F212, unhide F213, unhide F214⟩ (fun hS217 => ?_)
        clear hK K hS207 hB210 F201 F202 F203 F204 F206 HB205 W208
        have TG := hide hG
        have HSm := hide hSm
        clear hG hSm
        refine wpAnyH_ready (rs := [4]) (by kernel_rfl) (by simp) ?_
        refine AllReadyH.cons rfl (fun K hK => ?_) AllReadyH.nil
        go_simp
        go_wp2_with (go_at_call 19; refine (MergeG_any (unhide HSm) ga gc b a _ (unhide TG) (unhide HB) (unhide HA)).mono ?_; rintro e W218 ⟨rfl, hB219⟩)
        have F220 := hide ((unhide F211).below hB219 (unhide F211).lt)
        have F221 := hide ((unhide F212).below hB219 (unhide F212).lt)
        have F222 := hide ((unhide F213).below hB219 (unhide F213).lt)
        have F223 := hide ((unhide F214).below hB219 (unhide F214).lt)
        have F224 := hide ((unhide F215).below hB219 (unhide F215).lt)
        have T225 := hide ((unhide TG).below hB219)
        have HB226 := hide ((unhide HB216).trans (hB219.mono (unhide HB216).size))
        refine hK.out _ _ ⟨unhide F220, unhide F221, unhide F222, unhide F223⟩ (fun hS227 => ?_)
        clear hK K hS217 hB219 F211 F212 F213 F214 F215 TG HB216 W209
        rw [(unhide HM).ba, show frTwo (M, 0) = .tuple #[.agg (frA M), .int .i64 0] from rfl]
        clear T225 HSm
        refine wpAnyH_take (i := 5) (v := .tuple #[.agg (frA M), .int .i64 0]) rfl (by kernel_rfl) (by kernel_rfl) (by kernel_rfl) (fun _ _ _ h => h) (Or.inl ⟨by rfl, fun w _ => by go_simp⟩) hS227 ?_
        refine wpAnyH_take (i := 6) (v := .agg (frA M)) rfl (by kernel_rfl) (by kernel_rfl) (by kernel_rfl) (fun _ _ _ h => h) (Or.inl ⟨by rfl, fun w _ => by go_simp⟩) hS227 ?_
        refine wpAnyH_take (i := 7) (v := .int .i64 0) rfl (by kernel_rfl) (by kernel_rfl) (by kernel_rfl) (fun _ _ _ h => h) (Or.inl ⟨by rfl, fun w _ => by go_simp⟩) hS227 ?_
        refine wpAnyH_ready (rs := [9]) (by kernel_rfl) (by simp) ?_
        refine AllReadyH.cons rfl (fun K hK => ?_) AllReadyH.nil
        rw [if_pos (by rfl)]
        refine wp_store_row 27 _ _ rfl g_n (frA M) rfl rfl 27 (frA frZ) (unhide F224) (sizeFr (unhide HMO)) (sizeEq frZ_ok (unhide HMO)) (frA_one _) ?_
        have F228 : Hid (FAt (W218.setRow g_n (frA M)) w.heap.size a) := hide ((unhide F220).rowOther M (by omega))
        have F229 : Hid (FAt (W218.setRow g_n (frA M)) (w.heap.size + 1) b) := hide ((unhide F221).rowOther M (by omega))
        have F230 : Hid (FAt (W218.setRow g_n (frA M)) (w.heap.size + 2) c) := hide ((unhide F222).rowOther M (by omega))
        have F231 : Hid (FAt (W218.setRow g_n (frA M)) g_m M) := hide ((unhide F223).rowOther M (by omega))
        have F232 : Hid (FAt (W218.setRow g_n (frA M)) g_n M) := hide ((unhide F224).row M)
        have HB233 : Hid (Below w.heap.size w (W218.setRow g_n (frA M))) := hide (below_setRow' (unhide HB226) (by omega) _)
        refine hK.out _ _ ⟨unhide F228, unhide F229, unhide F230, unhide F231⟩ (fun hS234 => ?_)
        clear hK K hS227 F220 F221 F222 F223 F224 HB226
        generalize (W218.setRow g_n (frA M)) = W235 at F228 F229 F230 F231 F232 HB233 hS234 ⊢
        clear W218
        refine wpAnyH_take (i := 10) (v := .int .i64 0) rfl (by kernel_rfl) (by kernel_rfl) (by kernel_rfl) (fun _ _ _ h => h) (Or.inl ⟨by rfl, fun w _ => by go_simp⟩) hS234 ?_
        refine wpAnyH_done (by kernel_rfl) ?_ _
        clear hS234
        go_wp2_with fail
        go_meet
        exact ⟨_, rfl, rfl, F228, F229, F230, F231, F232, by omega, by omega, by omega, by omega, HB233⟩
    case rest =>
      obtain ⟨g_n, rfl, rfl, F236, F237, F238, F239, F240, o_a_n, o_b_n, o_c_n, o_m_n, HB241⟩ := hcut
      clear F129 F130 F131 F132 HB133
      go_wp2_with (first | (refine wpList_load_rowG rfl 27 _ rfl g_m rfl 27 (frA M) (0, 0) _ (unhide F239) Try.underlying27 rfl (sizeFr (unhide HMO)) ?_) | (refine wpList_load_rowG rfl 27 _ rfl g_n rfl 27 (frA M) (0, 0) _ (unhide F240) Try.underlying27 rfl (sizeFr (unhide HMO)) ?_) | (refine wpList_load_rowG rfl 27 _ rfl w.heap.size rfl 27 (frA a) (0, 0) _ (unhide F236) Try.underlying27 rfl (sizeFr (unhide HA)) ?_))
      refine (SubF_any ao cap T a M _ ((unhide HT).below (unhide HB241)) (unhide HA) (unhide HMO)).mono ?_
      rintro e W242 ⟨rfl, hB243⟩
      have F244 := hide ((unhide F236).below hB243 (unhide F236).lt)
      have F245 := hide ((unhide F237).below hB243 (unhide F237).lt)
      have F246 := hide ((unhide F238).below hB243 (unhide F238).lt)
      have F247 := hide ((unhide F239).below hB243 (unhide F239).lt)
      have F248 := hide ((unhide F240).below hB243 (unhide F240).lt)
      have HB249 := hide ((unhide HB241).trans (hB243.mono (unhide HB241).size))
      clear hB243 F236 F237 F238 F239 F240 HB241 wc
      rw [(unhide HM).le]
      go_wp2_with (first | (refine wpList_load_rowG rfl 27 _ rfl (w.heap.size + 1) rfl 27 (frA b) (0, 0) _ (unhide F245) Try.underlying27 rfl (sizeFr (unhide HB)) ?_) | (refine wpList_load_rowG rfl 27 _ rfl g_m rfl 27 (frA M) (0, 0) _ (unhide F247) Try.underlying27 rfl (sizeFr (unhide HMO)) ?_))
      refine (SubF_any ao cap T b M _ ((unhide HT).below (unhide HB249)) (unhide HB) (unhide HMO)).mono ?_
      rintro e W250 ⟨rfl, hB251⟩
      have F252 := hide ((unhide F244).below hB251 (unhide F244).lt)
      have F253 := hide ((unhide F245).below hB251 (unhide F245).lt)
      have F254 := hide ((unhide F246).below hB251 (unhide F246).lt)
      have F255 := hide ((unhide F247).below hB251 (unhide F247).lt)
      have F256 := hide ((unhide F248).below hB251 (unhide F248).lt)
      have HB257 := hide ((unhide HB249).trans (hB251.mono (unhide HB249).size))
      clear hB251 F244 F245 F246 F247 F248 HB249 W242
      rw [(unhide HM).re]
      go_wp2_with (refine wpList_load_row rfl 27 _ rfl w.heap.size rfl 27 (frA a) (0, 0) _ (unhide F252) Try.underlying27 rfl (sizeFr (unhide HA)) ?_)
      refine (MergeF_any ao cap T a a _ ((unhide HT).below (unhide HB257)) (unhide HA) (unhide HA)).mono ?_
      rintro e W258 ⟨rfl, hB259⟩
      have F260 := hide ((unhide F252).below hB259 (unhide F252).lt)
      have F261 := hide ((unhide F253).below hB259 (unhide F253).lt)
      have F262 := hide ((unhide F254).below hB259 (unhide F254).lt)
      have F263 := hide ((unhide F255).below hB259 (unhide F255).lt)
      have F264 := hide ((unhide F256).below hB259 (unhide F256).lt)
      have HB265 := hide ((unhide HB257).trans (hB259.mono (unhide HB257).size))
      clear hB259 F252 F253 F254 F255 F256 HB257 W250
      rw [(unhide HM).aa, show frTwo (a, 0) = .tuple #[.agg (frA a), .int .i64 0] from rfl]
      have o_a_o : w.heap.size < W258.heap.size := (unhide F260).lt
      have o_b_o : (w.heap.size + 1) < W258.heap.size := (unhide F261).lt
      have o_c_o : (w.heap.size + 2) < W258.heap.size := (unhide F262).lt
      have o_m_o : g_m < W258.heap.size := (unhide F263).lt
      have o_n_o : g_n < W258.heap.size := (unhide F264).lt
      have Z266 : Hid (FAt (W258.alloc (.cells (frA frZ) 27)) W258.heap.size frZ) := hide (FAt.new W258 frZ)
      have hal : Below W258.heap.size W258 (W258.alloc (.cells (frA frZ) 27)) := (Below.refl _ _).alloc (Nat.le_refl _) _
      have F267 : Hid (FAt ((W258.alloc (.cells (frA frZ) 27)).setRow W258.heap.size (frA a)) w.heap.size a) := hide (((unhide F260).below hal (unhide F260).lt).rowOther a (Nat.ne_of_lt (unhide F260).lt))
      have F268 : Hid (FAt ((W258.alloc (.cells (frA frZ) 27)).setRow W258.heap.size (frA a)) (w.heap.size + 1) b) := hide (((unhide F261).below hal (unhide F261).lt).rowOther a (Nat.ne_of_lt (unhide F261).lt))
      have F269 : Hid (FAt ((W258.alloc (.cells (frA frZ) 27)).setRow W258.heap.size (frA a)) (w.heap.size + 2) c) := hide (((unhide F262).below hal (unhide F262).lt).rowOther a (Nat.ne_of_lt (unhide F262).lt))
      have F270 : Hid (FAt ((W258.alloc (.cells (frA frZ) 27)).setRow W258.heap.size (frA a)) g_m M) := hide (((unhide F263).below hal (unhide F263).lt).rowOther a (Nat.ne_of_lt (unhide F263).lt))
      have F271 : Hid (FAt ((W258.alloc (.cells (frA frZ) 27)).setRow W258.heap.size (frA a)) g_n M) := hide (((unhide F264).below hal (unhide F264).lt).rowOther a (Nat.ne_of_lt (unhide F264).lt))
      have F272 : Hid (FAt ((W258.alloc (.cells (frA frZ) 27)).setRow W258.heap.size (frA a)) W258.heap.size a) := hide ((unhide Z266).row a)
      have HB273 : Hid (Below w.heap.size w ((W258.alloc (.cells (frA frZ) 27)).setRow W258.heap.size (frA a))) := hide (below_setRow' ((unhide HB265).trans (hal.mono (unhide HB265).size)) (unhide HB265).size _)
      go_wp2_with (first | (refine wpList_store_row rfl 27 _ _ rfl W258.heap.size (frA a) rfl rfl 27 (frA frZ) (unhide Z266) (sizeFr (unhide HA)) (sizeEq frZ_ok (unhide HA)) (frA_one _) ?_) | (refine wpList_load_rowG rfl 27 _ rfl W258.heap.size rfl 27 (frA a) (0, 0) _ (unhide F272) Try.underlying27 rfl (sizeFr (unhide HA)) ?_) | (refine wpList_load_rowG rfl 27 _ rfl w.heap.size rfl 27 (frA a) (0, 0) _ (unhide F267) Try.underlying27 rfl (sizeFr (unhide HA)) ?_) | (refine wpList_load_row rfl 27 _ rfl w.heap.size rfl 27 (frA a) (0, 0) _ (unhide F267) Try.underlying27 rfl (sizeFr (unhide HA)) ?_) | (refine wpList_load_row rfl 27 _ rfl (w.heap.size + 2) rfl 27 (frA c) (0, 0) _ (unhide F269) Try.underlying27 rfl (sizeFr (unhide HC)) ?_))
      rw [frZ_eq]
      generalize ((W258.alloc (.cells (frA frZ) 27)).setRow W258.heap.size (frA a)) = W274 at F267 F268 F269 F270 F271 F272 HB273 ⊢
      clear F260 F261 F262 F263 F264 Z266 HB265 hal
      generalize W258.heap.size = g_o at F272 o_a_o o_b_o o_c_o o_m_o o_n_o ⊢
      clear W258
      refine (SubF_any ao cap T a c _ ((unhide HT).below (unhide HB273)) (unhide HA) (unhide HC)).mono ?_
      rintro e W275 ⟨rfl, hB276⟩
      have F277 := hide ((unhide F267).below hB276 (unhide F267).lt)
      have F278 := hide ((unhide F268).below hB276 (unhide F268).lt)
      have F279 := hide ((unhide F269).below hB276 (unhide F269).lt)
      have F280 := hide ((unhide F270).below hB276 (unhide F270).lt)
      have F281 := hide ((unhide F271).below hB276 (unhide F271).lt)
      have F282 := hide ((unhide F272).below hB276 (unhide F272).lt)
      have HB283 := hide ((unhide HB273).trans (hB276.mono (unhide HB273).size))
      clear hB276 F267 F268 F269 F270 F271 F272 HB273 W274
      cases k1 : subF T a c
      · go_wp2
        go_ret
        exact ⟨by simp, unhide HB283⟩
      have K1 := hide k1
      clear k1
      go_wp2_with (first | (refine wpList_load_rowG rfl 27 _ rfl (w.heap.size + 1) rfl 27 (frA b) (0, 0) _ (unhide F278) Try.underlying27 rfl (sizeFr (unhide HB)) ?_) | (refine wpList_load_rowG rfl 27 _ rfl (w.heap.size + 2) rfl 27 (frA c) (0, 0) _ (unhide F279) Try.underlying27 rfl (sizeFr (unhide HC)) ?_))
      refine (SubF_any ao cap T b c _ ((unhide HT).below (unhide HB283)) (unhide HB) (unhide HC)).mono ?_
      rintro e W284 ⟨rfl, hB285⟩
      have F286 := hide ((unhide F277).below hB285 (unhide F277).lt)
      have F287 := hide ((unhide F278).below hB285 (unhide F278).lt)
      have F288 := hide ((unhide F279).below hB285 (unhide F279).lt)
      have F289 := hide ((unhide F280).below hB285 (unhide F280).lt)
      have F290 := hide ((unhide F281).below hB285 (unhide F281).lt)
      have F291 := hide ((unhide F282).below hB285 (unhide F282).lt)
      have HB292 := hide ((unhide HB283).trans (hB285.mono (unhide HB283).size))
      clear hB285 F277 F278 F279 F280 F281 F282 HB283 W275
      cases k2 : subF T b c
      · go_wp2
        go_ret
        exact ⟨by simp, unhide HB292⟩
      have K2 := hide k2
      clear k2
      go_wp2_with (first | (refine wpList_load_rowG rfl 27 _ rfl g_m rfl 27 (frA M) (0, 0) _ (unhide F289) Try.underlying27 rfl (sizeFr (unhide HMO)) ?_) | (refine wpList_load_rowG rfl 27 _ rfl (w.heap.size + 2) rfl 27 (frA c) (0, 0) _ (unhide F288) Try.underlying27 rfl (sizeFr (unhide HC)) ?_))
      refine (SubF_any ao cap T M c _ ((unhide HT).below (unhide HB292)) (unhide HMO) (unhide HC)).mono ?_
      rintro e W293 ⟨rfl, hB294⟩
      have F295 := hide ((unhide F286).below hB294 (unhide F286).lt)
      have F296 := hide ((unhide F287).below hB294 (unhide F287).lt)
      have F297 := hide ((unhide F288).below hB294 (unhide F288).lt)
      have F298 := hide ((unhide F289).below hB294 (unhide F289).lt)
      have F299 := hide ((unhide F290).below hB294 (unhide F290).lt)
      have F300 := hide ((unhide F291).below hB294 (unhide F291).lt)
      have HB301 := hide ((unhide HB292).trans (hB294.mono (unhide HB292).size))
      clear hB294 F286 F287 F288 F289 F290 F291 HB292 W284
      rw [(unhide HM).least c (unhide HC) (unhide K1) (unhide K2)]
      go_wp2
      go_ret
      exact ⟨by simp, unhide HB301⟩
end Go.Proofs.Ytihkodfcgfnjoaa
