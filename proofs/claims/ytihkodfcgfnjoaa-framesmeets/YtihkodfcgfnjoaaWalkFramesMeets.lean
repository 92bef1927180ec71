/-
  The walk of the law FramesMeets: it returns true for every table and every two frames, and writes nothing that was there.
-/
import Derived.Test.YtihkodfcgfnjoaaTbl
import Derived.Test.YtihkodfcgfnjoaaFrQ
import Derived.Test.YtihkodfcgfnjoaaFrP
namespace Go.Proofs.Ytihkodfcgfnjoaa
open Go.RowKit

set_option maxRecDepth 100000 in
set_option maxHeartbeats 8000000 in
theorem walkFramesMeets {w : World} (ao : Option Addr) (cap : Nat) (T : List Cl) (hT : TabAt w ao T) (hz : T.length * 48 ≤ 140737488351232) (a : Fr) (ha : FrOk a) (b : Fr) (hb : FrOk b) :
    Calls Try.prog 4 #[.slice ao T.length cap, .agg (frA a), .agg (frA b)] w fun e w' => e = .returned (.bool true) ∧ Below w.heap.size w w' := by
  have HA := hide ha
  have HB := hide hb
  have hal1 : Below w.heap.size w (w.alloc (.cells (frA a) 27)) := (Below.refl _ _).alloc (Nat.le_refl _) _
  have fa1 := FAt.new w a
  have fb1 : FAt ((w.alloc (.cells (frA a) 27)).alloc (.cells (frA b) 27)) (w.heap.size + 1) b := by
    have := FAt.new (w.alloc (.cells (frA a) 27)) b
    rw [World.size_alloc] at this
    exact this
  have fa2 : FAt ((w.alloc (.cells (frA a) 27)).alloc (.cells (frA b) 27)) w.heap.size a := fa1.below ((Below.refl _ _).alloc (Nat.le_refl _) _) (by simp)
  have hal2 : Below w.heap.size w ((w.alloc (.cells (frA a) 27)).alloc (.cells (frA b) 27)) := hal1.alloc (by simp) _
  have F1 := hide fa2
  have F2 := hide fb1
  have HB0 := hide hal2
  have T0 := hide (hT.below hal2)
  have HZ := hide hz
  have HX := hide (merge_ok (T := T) ha hb)
  have hq := fun W => eql_self (unhide HX) W
  clear hT hal1 hal2 fa1 fa2 fb1 ha hb hz
  go_enter Try.func4, Try.ntmps4
  go_wp2_with fail
  generalize ((w.alloc (.cells (frA a) 27)).alloc (.cells (frA b) 27)) = W at F1 F2 T0 HB0 ⊢
  refine (table_any ao cap T _ (unhide T0) (unhide HZ)).mono ?_
  rintro e W21 ⟨rfl, hB22⟩
  have F23 := hide ((unhide F1).below hB22 (unhide F1).lt)
  have F24 := hide ((unhide F2).below hB22 (unhide F2).lt)
  have T25 := hide ((unhide T0).below hB22)
  have HB26 := hide ((unhide HB0).trans (hB22.mono (unhide HB0).size))
  clear hB22 F1 F2 T0 HB0 W
  by_cases hmd : madeD T = true
  rotate_left
  · have hmd' : madeD T = false := by simpa using hmd
    rw [hmd']
    clear hmd hmd'
    go_wp2
    go_ret
    exact ⟨rfl, unhide HB26⟩
  have HMD := hide hmd
  rw [hmd]
  clear hmd
  go_wp2_with fail
  refine (Classes_any ao cap T _ (unhide T25) (unhide HZ)).mono ?_
  rintro e W27 ⟨ga, gc, G, rfl, hG, hSm, hB28⟩
  have F29 := hide ((unhide F23).below hB28 (unhide F23).lt)
  have F30 := hide ((unhide F24).below hB28 (unhide F24).lt)
  have T31 := hide ((unhide T25).below hB28)
  have HB32 := hide ((unhide HB26).trans (hB28.mono (unhide HB26).size))
  clear hB28 F23 F24 T25 HB26 W21
  have TG := hide hG
  have HSm := hide hSm
  clear hG hSm
  go_wp2
  have F33 : Hid (FAt W27.drew w.heap.size a) := hide (unhide F29)
  have F34 : Hid (FAt W27.drew (w.heap.size + 1) b) := hide (unhide F30)
  have T35 := hide ((unhide T31).below (show Below W27.heap.size W27 W27.drew from ⟨rfl, rfl, rfl, Nat.le_refl _, fun _ _ => rfl⟩))
  have T36 := hide ((unhide TG).below (show Below W27.heap.size W27 W27.drew from ⟨rfl, rfl, rfl, Nat.le_refl _, fun _ _ => rfl⟩))
  have HB37 : Hid (Below w.heap.size w W27.drew) := hide ((unhide HB32).trans ⟨rfl, rfl, rfl, Nat.le_refl _, fun _ _ => rfl⟩)
  refine wp_region_held_drew (S := fun w' => FAt w' w.heap.size a ∧ FAt w' (w.heap.size + 1) b) (by kernel_rfl) ⟨unhide F33, unhide F34⟩ (fun hS38 => ?_)
  clear F29 F30 T31 TG HB32
  generalize W27.drew = W39 at F33 F34 T35 T36 HB37 hS38 ⊢
  clear W27
  refine wpAnyH_take (i := 0) (v := .slice ga G.length gc) rfl (by kernel_rfl) (by kernel_rfl) (by kernel_rfl) (fun _ _ _ h => h) (Or.inl ⟨by rfl, fun w _ => by go_simp⟩) hS38 ?_
  refine wpAnyH_take (i := 1) (v := .agg (frA a)) rfl (by kernel_rfl) (by kernel_rfl) (by kernel_rfl) (fun _ _ _ h => h) (yieldsIf_load_fr (by rfl) _ rfl w.heap.size rfl a (unhide HA) (fun _ h => h.1)) hS38 ?_
  refine wpAnyH_take (i := 2) (v := .agg (frA b)) rfl (by kernel_rfl) (by kernel_rfl) (by kernel_rfl) (fun _ _ _ h => h) (yieldsIf_load_fr (by rfl) _ rfl (w.heap.size + 1) rfl b (unhide HB) (fun _ h => h.2)) hS38 ?_
  refine wpAnyH_take (i := 4) (v := .slice ao T.length cap) rfl (by kernel_rfl) (by kernel_rfl) (by kernel_rfl) (fun _ _ _ h => h) (Or.inl ⟨by rfl, fun w _ => by go_simp⟩) hS38 ?_
  refine wpAnyH_take (i := 5) (v := .agg (frA a)) rfl (by kernel_rfl) (by kernel_rfl) (by kernel_rfl) (fun _ _ _ h => h) (yieldsIf_load_fr (by rfl) _ rfl w.heap.size rfl a (unhide HA) (fun _ h => h.1)) hS38 ?_
  refine wpAnyH_take (i := 6) (v := .agg (frA b)) rfl (by kernel_rfl) (by kernel_rfl) (by kernel_rfl) (fun _ _ _ h => h) (yieldsIf_load_fr (by rfl) _ rfl (w.heap.size + 1) rfl b (unhide HB) (fun _ h => h.2)) hS38 ?_
  refine wpAnyH_ready (rs := [3]) (by kernel_rfl) (by simp) ?_
  refine AllReadyH.cons rfl (fun K hK => ?_) AllReadyH.nil
  go_simp
  go_wp2_with (go_at_call 17; refine (SubG_any (unhide HSm) ga gc a b _ (unhide T36) (unhide HA) (unhide HB)).mono ?_; rintro e W40 ⟨rfl, hB41⟩)
  have F42 := hide ((unhide F33).below hB41 (unhide F33).lt)
  have F43 := hide ((unhide F34).below hB41 (unhide F34).lt)
  have T44 := hide ((unhide T35).below hB41)
  have T45 := hide ((unhide T36).below hB41)
  have HB46 := hide ((unhide HB37).trans (hB41.mono (unhide HB37).size))
  refine hK.out _ _ ⟨unhide F42, unhide F43⟩ (fun hS47 => ?_)
  clear hK K hS38 hB41 F33 F34 T35 T36 HB37 W39
  refine wpAnyH_ready (rs := [7]) (by kernel_rfl) (by simp) ?_
  refine AllReadyH.cons rfl (fun K hK => ?_) AllReadyH.nil
  go_simp
  go_wp2_with (go_at_call 18; refine (refSubF_any ao cap T a b _ (unhide T44) (unhide HZ) (unhide HMD) (unhide HA) (unhide HB)).mono ?_; rintro e W48 ⟨rfl, hB49⟩)
  have F50 := hide ((unhide F42).below hB49 (unhide F42).lt)
  have F51 := hide ((unhide F43).below hB49 (unhide F43).lt)
  have T52 := hide ((unhide T44).below hB49)
  have T53 := hide ((unhide T45).below hB49)
  have HB54 := hide ((unhide HB46).trans (hB49.mono (unhide HB46).size))
  refine hK.out _ _ ⟨unhide F50, unhide F51⟩ (fun hS55 => ?_)
  clear hK K hS47 hB49 F42 F43 T44 T45 HB46 W40
  refine wpAnyH_take (i := 8) (v := .bool false) rfl (by kernel_rfl) (by kernel_rfl) (by kernel_rfl) (fun _ _ _ h => h) (Or.inl ⟨by rfl, fun w _ => by go_simp⟩) hS55 ?_
  refine wpAnyH_take (i := 9) (v := .bool false) rfl (by kernel_rfl) (by kernel_rfl) (by kernel_rfl) (fun _ _ _ h => h) (Or.inl ⟨by rfl, fun w _ => by go_simp⟩) hS55 ?_
  refine wpAnyH_take (i := 10) (v := .slice ga G.length gc) rfl (by kernel_rfl) (by kernel_rfl) (by kernel_rfl) (fun _ _ _ h => h) (Or.inl ⟨by rfl, fun w _ => by go_simp⟩) hS55 ?_
  refine wpAnyH_take (i := 11) (v := .agg (frA a)) rfl (by kernel_rfl) (by kernel_rfl) (by kernel_rfl) (fun _ _ _ h => h) (yieldsIf_load_fr (by rfl) _ rfl w.heap.size rfl a (unhide HA) (fun _ h => h.1)) hS55 ?_
  refine wpAnyH_take (i := 12) (v := .agg (frA a)) rfl (by kernel_rfl) (by kernel_rfl) (by kernel_rfl) (fun _ _ _ h => h) (yieldsIf_load_fr (by rfl) _ rfl w.heap.size rfl a (unhide HA) (fun _ h => h.1)) hS55 ?_
  refine wpAnyH_take (i := 14) (v := .slice ao T.length cap) rfl (by kernel_rfl) (by kernel_rfl) (by kernel_rfl) (fun _ _ _ h => h) (Or.inl ⟨by rfl, fun w _ => by go_simp⟩) hS55 ?_
  refine wpAnyH_take (i := 15) (v := .agg (frA a)) rfl (by kernel_rfl) (by kernel_rfl) (by kernel_rfl) (fun _ _ _ h => h) (yieldsIf_load_fr (by rfl) _ rfl w.heap.size rfl a (unhide HA) (fun _ h => h.1)) hS55 ?_
  refine wpAnyH_take (i := 16) (v := .agg (frA a)) rfl (by kernel_rfl) (by kernel_rfl) (by kernel_rfl) (fun _ _ _ h => h) (yieldsIf_load_fr (by rfl) _ rfl w.heap.size rfl a (unhide HA) (fun _ h => h.1)) hS55 ?_
  refine wpAnyH_ready (rs := [13]) (by kernel_rfl) (by simp) ?_
  refine AllReadyH.cons rfl (fun K hK => ?_) AllReadyH.nil
  go_simp
  go_wp2_with (go_at_call 17; refine (SubG_any (unhide HSm) ga gc a a _ (unhide T53) (unhide HA) (unhide HA)).mono ?_; rintro e W56 ⟨rfl, hB57⟩)
  have F58 := hide ((unhide F50).below hB57 (unhide F50).lt)
  have F59 := hide ((unhide F51).below hB57 (unhide F51).lt)
  have T60 := hide ((unhide T52).below hB57)
  have T61 := hide ((unhide T53).below hB57)
  have HB62 := hide ((unhide HB54).trans (hB57.mono (unhide HB54).size))
  refine hK.out _ _ ⟨unhide F58, unhide F59⟩ (fun hS63 => ?_)
  clear hK K hS55 hB57 F50 F51 T52 T53 HB54 W48
  refine wpAnyH_ready (rs := [17]) (by kernel_rfl) (by simp) ?_
  refine AllReadyH.cons rfl (fun K hK => ?_) AllReadyH.nil
  go_simp
  go_wp2_with (go_at_call 18; refine (refSubF_any ao cap T a a _ (unhide T60) (unhide HZ) (unhide HMD) (unhide HA) (unhide HA)).mono ?_; rintro e W64 ⟨rfl, hB65⟩)
  have F66 := hide ((unhide F58).below hB65 (unhide F58).lt)
  have F67 := hide ((unhide F59).below hB65 (unhide F59).lt)
  have T68 := hide ((unhide T60).below hB65)
  have T69 := hide ((unhide T61).below hB65)
  have HB70 := hide ((unhide HB62).trans (hB65.mono (unhide HB62).size))
  refine hK.out _ _ ⟨unhide F66, unhide F67⟩ (fun hS71 => ?_)
  clear hK K hS63 hB65 F58 F59 T60 T61 HB62 W56
  refine wpAnyH_take (i := 18) (v := .bool false) rfl (by kernel_rfl) (by kernel_rfl) (by kernel_rfl) (fun _ _ _ h => h) (Or.inl ⟨by rfl, fun w _ => by go_simp⟩) hS71 ?_
  refine wpAnyH_take (i := 19) (v := .bool false) rfl (by kernel_rfl) (by kernel_rfl) (by kernel_rfl) (fun _ _ _ h => h) (Or.inl ⟨by rfl, fun w _ => by go_simp⟩) hS71 ?_
  refine wpAnyH_done (by kernel_rfl) ?_ _
  clear hS71
  go_wp2_with (first | (refine wpList_load_row rfl 27 _ rfl w.heap.size rfl 27 (frA a) (0, 0) _ (unhide F66) Try.underlying27 rfl (sizeFr (unhide HA)) ?_) | (refine wpList_load_row rfl 27 _ rfl (w.heap.size + 1) rfl 27 (frA b) (0, 0) _ (unhide F67) Try.underlying27 rfl (sizeFr (unhide HB)) ?_))
  refine (MergeG_any (unhide HSm) ga gc a b _ (unhide T69) (unhide HA) (unhide HB)).mono ?_
  rintro e W72 ⟨rfl, hB73⟩
  have F74 := hide ((unhide F66).below hB73 (unhide F66).lt)
  have F75 := hide ((unhide F67).below hB73 (unhide F67).lt)
  have T76 := hide ((unhide T68).below hB73)
  have T77 := hide ((unhide T69).below hB73)
  have HB78 := hide ((unhide HB70).trans (hB73.mono (unhide HB70).size))
  clear hB73 F66 F67 T68 T69 HB70 W64
  have HP : Hid (frTwo (mergeF T a b) = .tuple #[.agg (frA (mergeF T a b).1), .int .i64 (mergeF T a b).2]) := hide rfl
  generalize (mergeF T a b).2 = e1 at HP
  generalize (mergeF T a b).1 = X at HP HX hq
  rw [unhide HP]
  have o_a_m : w.heap.size < W72.heap.size := (unhide F74).lt
  have o_b_m : (w.heap.size + 1) < W72.heap.size := (unhide F75).lt
  have Z79 : Hid (FAt (W72.alloc (.cells (frA frZ) 27)) W72.heap.size frZ) := hide (FAt.new W72 frZ)
  have hal : Below W72.heap.size W72 (W72.alloc (.cells (frA frZ) 27)) := (Below.refl _ _).alloc (Nat.le_refl _) _
  have F80 : Hid (FAt ((W72.alloc (.cells (frA frZ) 27)).setRow W72.heap.size (frA X)) w.heap.size a) := hide (((unhide F74).below hal (unhide F74).lt).rowOther X (Nat.ne_of_lt (unhide F74).lt))
  have F81 : Hid (FAt ((W72.alloc (.cells (frA frZ) 27)).setRow W72.heap.size (frA X)) (w.heap.size + 1) b) := hide (((unhide F75).below hal (unhide F75).lt).rowOther X (Nat.ne_of_lt (unhide F75).lt))
  have T82 := hide ((unhide T76).below (below_setRow' hal (Nat.le_refl _) (frA X)))
  have T83 := hide ((unhide T77).below (below_setRow' hal (Nat.le_refl _) (frA X)))
  have F84 : Hid (FAt ((W72.alloc (.cells (frA frZ) 27)).setRow W72.heap.size (frA X)) W72.heap.size X) := hide ((unhide Z79).row X)
  have HB85 : Hid (Below w.heap.size w ((W72.alloc (.cells (frA frZ) 27)).setRow W72.heap.size (frA X))) := hide (below_setRow' ((unhide HB78).trans (hal.mono (unhide HB78).size)) (unhide HB78).size _)
  go_wp2_with (first | (refine wpList_store_row rfl 27 _ _ rfl W72.heap.size (frA X) rfl rfl 27 (frA frZ) (unhide Z79) (sizeFr (unhide HX)) (sizeEq frZ_ok (unhide HX)) (frA_one _) ?_) | (refine wpList_load_row rfl 27 _ rfl w.heap.size rfl 27 (frA a) (0, 0) _ (unhide F80) Try.underlying27 rfl (sizeFr (unhide HA)) ?_) | (refine wpList_load_row rfl 27 _ rfl (w.heap.size + 1) rfl 27 (frA b) (0, 0) _ (unhide F81) Try.underlying27 rfl (sizeFr (unhide HB)) ?_))
  rw [frZ_eq]
  generalize ((W72.alloc (.cells (frA frZ) 27)).setRow W72.heap.size (frA X)) = W86 at F80 F81 F84 T82 T83 HB85 ⊢
  clear F74 F75 Z79 HB78 T76 T77 hal
  generalize W72.heap.size = g_m at F84 o_a_m o_b_m ⊢
  clear W72
  refine (refMergeF_any ao cap T a b _ (unhide T82) (unhide HZ) (unhide HMD) (unhide HA) (unhide HB)).mono ?_
  rintro e W87 ⟨rfl, hB88⟩
  have F89 := hide ((unhide F80).below hB88 (unhide F80).lt)
  have F90 := hide ((unhide F81).below hB88 (unhide F81).lt)
  have F91 := hide ((unhide F84).below hB88 (unhide F84).lt)
  have T92 := hide ((unhide T82).below hB88)
  have T93 := hide ((unhide T83).below hB88)
  have HB94 := hide ((unhide HB85).trans (hB88.mono (unhide HB85).size))
  clear hB88 F80 F81 F84 T82 T83 HB85 W86
  rw [unhide HP]
  have o_a_n : w.heap.size < W87.heap.size := (unhide F89).lt
  have o_b_n : (w.heap.size + 1) < W87.heap.size := (unhide F90).lt
  have o_m_n : g_m < W87.heap.size := (unhide F91).lt
  have Z95 : Hid (FAt (W87.alloc (.cells (frA frZ) 27)) W87.heap.size frZ) := hide (FAt.new W87 frZ)
  have hal : Below W87.heap.size W87 (W87.alloc (.cells (frA frZ) 27)) := (Below.refl _ _).alloc (Nat.le_refl _) _
  have F96 : Hid (FAt ((W87.alloc (.cells (frA frZ) 27)).setRow W87.heap.size (frA X)) w.heap.size a) := hide (((unhide F89).below hal (unhide F89).lt).rowOther X (Nat.ne_of_lt (unhide F89).lt))
  have F97 : Hid (FAt ((W87.alloc (.cells (frA frZ) 27)).setRow W87.heap.size (frA X)) (w.heap.size + 1) b) := hide (((unhide F90).below hal (unhide F90).lt).rowOther X (Nat.ne_of_lt (unhide F90).lt))
  have F98 : Hid (FAt ((W87.alloc (.cells (frA frZ) 27)).setRow W87.heap.size (frA X)) g_m X) := hide (((unhide F91).below hal (unhide F91).lt).rowOther X (Nat.ne_of_lt (unhide F91).lt))
  have T99 := hide ((unhide T92).below (below_setRow' hal (Nat.le_refl _) (frA X)))
  have T100 := hide ((unhide T93).below (below_setRow' hal (Nat.le_refl _) (frA X)))
  have F101 : Hid (FAt ((W87.alloc (.cells (frA frZ) 27)).setRow W87.heap.size (frA X)) W87.heap.size X) := hide ((unhide Z95).row X)
  have HB102 : Hid (Below w.heap.size w ((W87.alloc (.cells (frA frZ) 27)).setRow W87.heap.size (frA X))) := hide (below_setRow' ((unhide HB94).trans (hal.mono (unhide HB94).size)) (unhide HB94).size _)
  go_wp2_with (first | (refine wpList_store_row rfl 27 _ _ rfl W87.heap.size (frA X) rfl rfl 27 (frA frZ) (unhide Z95) (sizeFr (unhide HX)) (sizeEq frZ_ok (unhide HX)) (frA_one _) ?_) | (refine wpList_load_row rfl 27 _ rfl g_m rfl 27 (frA X) (0, 0) _ (unhide F98) Try.underlying27 rfl (sizeFr (unhide HX)) ?_) | (refine wpList_load_row rfl 27 _ rfl W87.heap.size rfl 27 (frA X) (0, 0) _ (unhide F101) Try.underlying27 rfl (sizeFr (unhide HX)) ?_))
  rw [frZ_eq]
  generalize ((W87.alloc (.cells (frA frZ) 27)).setRow W87.heap.size (frA X)) = W103 at F96 F97 F98 F101 T99 T100 HB102 ⊢
  clear F89 F90 F91 Z95 HB94 T92 T93 hal
  generalize W87.heap.size = g_n at F101 o_a_n o_b_n o_m_n ⊢
  clear W87
  refine (Same_yes ga ao gc cap T G _ (unhide T100) (unhide T99) (unhide HSm) (unhide HZ)).mono ?_
  rintro e Wl ⟨rfl, q, rfl⟩
  go_wp2
  go_ret
  exact ⟨by simp, belowD (unhide HB102) _⟩
end Go.Proofs.Ytihkodfcgfnjoaa
