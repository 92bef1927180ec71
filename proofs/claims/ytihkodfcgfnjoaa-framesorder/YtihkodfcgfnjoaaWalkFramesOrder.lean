/-
  The walk of the law FramesOrder: it returns true for every table and every three frames, and writes nothing that was there.
-/
import Derived.Test.YtihkodfcgfnjoaaFrV
namespace Go.Proofs.Ytihkodfcgfnjoaa
open Go.RowKit

theorem SelfG_any {T G : List Cl} (hs : SameT T G) (ao : Option Addr) (cap : Nat) (a : Fr) (w : World) (hT : TabAt w ao G) (ha : FrOk a) :
    Calls Try.prog 17 #[.slice ao G.length cap, .agg (frA a), .agg (frA a)] w fun e w' => e = .returned (.bool (chkF T.length a == 0)) ∧ Below w.heap.size w w' := by
  rw [← subF_self ha]
  exact SubG_any hs ao cap a a w hT ha ha

set_option maxRecDepth 100000 in
set_option maxHeartbeats 40000000 in
theorem walkFramesOrder {w : World} (ao : Option Addr) (cap : Nat) (T : List Cl) (hT : TabAt w ao T) (hz : T.length * 48 ≤ 140737488351232) (a : Fr) (ha : FrOk a) (b : Fr) (hb : FrOk b) (c : Fr) (hc : FrOk c) :
    Calls Try.prog 6 #[.slice ao T.length cap, .agg (frA a), .agg (frA b), .agg (frA c)] w fun e w' => e = .returned (.bool true) ∧ Below w.heap.size w w' := by
  have HA := hide ha
  have HB := hide hb
  have HC := hide hc
  have hal1 : Below w.heap.size w (w.alloc (.cells (frA a) 27)) := (Below.refl _ _).alloc (Nat.le_refl _) _
  have hal2 : Below w.heap.size w ((w.alloc (.cells (frA a) 27)).alloc (.cells (frA b) 27)) := hal1.alloc (by simp) _
  have hal3 : Below w.heap.size w (((w.alloc (.cells (frA a) 27)).alloc (.cells (frA b) 27)).alloc (.cells (frA c) 27)) := hal2.alloc (by simp; omega) _
  have fb1 : FAt ((w.alloc (.cells (frA a) 27)).alloc (.cells (frA b) 27)) (w.heap.size + 1) b := by
    have := FAt.new (w.alloc (.cells (frA a) 27)) b
    rw [World.size_alloc] at this
    exact this
  have fc1 : FAt (((w.alloc (.cells (frA a) 27)).alloc (.cells (frA b) 27)).alloc (.cells (frA c) 27)) (w.heap.size + 2) c := by
    have := FAt.new ((w.alloc (.cells (frA a) 27)).alloc (.cells (frA b) 27)) c
    rw [World.size_alloc, World.size_alloc] at this
    exact this
  have fa2 : FAt ((w.alloc (.cells (frA a) 27)).alloc (.cells (frA b) 27)) w.heap.size a := (FAt.new w a).below ((Below.refl _ _).alloc (Nat.le_refl _) _) (by simp)
  have F1 : Hid (FAt (((w.alloc (.cells (frA a) 27)).alloc (.cells (frA b) 27)).alloc (.cells (frA c) 27)) w.heap.size a) := hide (fa2.below ((Below.refl _ _).alloc (Nat.le_refl _) _) (by simp; omega))
  have F2 : Hid (FAt (((w.alloc (.cells (frA a) 27)).alloc (.cells (frA b) 27)).alloc (.cells (frA c) 27)) (w.heap.size + 1) b) := hide (fb1.below ((Below.refl _ _).alloc (Nat.le_refl _) _) (by simp))
  have F3 := hide fc1
  have HB0 := hide hal3
  have HT := hide hT
  have HZ := hide hz
  clear hal1 hal2 hal3 fb1 fc1 fa2 hT hz
  have hbz := run_buildZ
  have hq : ∀ W, (binOp .eql 27 (.agg (frA a)) (.agg (frA b))).run Try.prog W = .ok (.bool (frEq a b)) W := fun W => run_eqlFr W ha hb
  clear ha hb hc
  go_enter Try.func6, Try.ntmps6
  go_wp2_with fail
  generalize (((w.alloc (.cells (frA a) 27)).alloc (.cells (frA b) 27)).alloc (.cells (frA c) 27)) = W at F1 F2 F3 HB0 ⊢
  refine (table_any ao cap T _ ((unhide HT).below (unhide HB0)) (unhide HZ)).mono ?_
  rintro e W21 ⟨rfl, hB22⟩
  have F23 := hide ((unhide F1).below hB22 (unhide F1).lt)
  have F24 := hide ((unhide F2).below hB22 (unhide F2).lt)
  have F25 := hide ((unhide F3).below hB22 (unhide F3).lt)
  have HB26 := hide ((unhide HB0).trans (hB22.mono (unhide HB0).size))
  clear hB22 F1 F2 F3 HB0 W
  by_cases hmd : madeD T = true
  rotate_left
  · have hmd' : madeD T = false := by simpa using hmd
    rw [hmd']
    clear hmd hmd'
    go_wp2
    go_ret
    exact ⟨rfl, unhide HB26⟩
  rw [hmd]
  clear hmd
  go_wp2_with fail
  refine (Classes_any ao cap T _ ((unhide HT).below (unhide HB26)) (unhide HZ)).mono ?_
  rintro e W27 ⟨ga, gc, G, rfl, hG, hSm, hB28⟩
  have F29 := hide ((unhide F23).below hB28 (unhide F23).lt)
  have F30 := hide ((unhide F24).below hB28 (unhide F24).lt)
  have F31 := hide ((unhide F25).below hB28 (unhide F25).lt)
  have HB32 := hide ((unhide HB26).trans (hB28.mono (unhide HB26).size))
  clear hB28 F23 F24 F25 HB26 W21
  have TG := hide hG
  have HSm := hide hSm
  clear hG hSm
  have hal : Below W27.heap.size W27 (W27.alloc (.cells (row3 a b c) 27)) := (Below.refl _ _).alloc (Nat.le_refl _) _
  have RR : Hid (RAt (W27.alloc (.cells (row3 a b c) 27)) W27.heap.size a b c) := hide (heap_alloc_new W27 _)
  have o_a_r : w.heap.size < W27.heap.size := (unhide F29).lt
  have o_b_r : (w.heap.size + 1) < W27.heap.size := (unhide F30).lt
  have o_c_r : (w.heap.size + 2) < W27.heap.size := (unhide F31).lt
  have F33 : Hid (FAt (W27.alloc (.cells (row3 a b c) 27)) w.heap.size a) := hide ((unhide F29).below hal (unhide F29).lt)
  have F34 : Hid (FAt (W27.alloc (.cells (row3 a b c) 27)) (w.heap.size + 1) b) := hide ((unhide F30).below hal (unhide F30).lt)
  have F35 : Hid (FAt (W27.alloc (.cells (row3 a b c) 27)) (w.heap.size + 2) c) := hide ((unhide F31).below hal (unhide F31).lt)
  have T36 : Hid (TabAt (W27.alloc (.cells (row3 a b c) 27)) ga G) := hide ((unhide TG).below hal)
  have HB37 : Hid (Below w.heap.size w (W27.alloc (.cells (row3 a b c) 27))) := hide ((unhide HB32).trans (hal.mono (unhide HB32).size))
  go_wp2_with (first | (refine wpList_load_row rfl 27 _ rfl w.heap.size rfl 27 (frA a) (0, 0) _ (unhide F29) Try.underlying27 rfl (sizeFr (unhide HA)) ?_) | (refine wpList_load_row rfl 27 _ rfl (w.heap.size + 1) rfl 27 (frA b) (0, 0) _ (unhide F30) Try.underlying27 rfl (sizeFr (unhide HB)) ?_) | (refine wpList_load_row rfl 27 _ rfl (w.heap.size + 2) rfl 27 (frA c) (0, 0) _ (unhide F31) Try.underlying27 rfl (sizeFr (unhide HC)) ?_) | (refine wpList_row3 rfl 21 22 23 rfl a b c (unhide HA) (unhide HB) (unhide HC) rfl rfl rfl ?_))
  clear hal F29 F30 F31 TG HB32
  generalize (W27.alloc (.cells (row3 a b c) 27)) = Wr at RR F33 F34 F35 T36 HB37 ⊢
  generalize W27.heap.size = g_r at RR o_a_r o_b_r o_c_r ⊢
  clear W27
  go_loopw [26] (fun i wr => ∃ k : Nat, k ≤ 3 ∧ i = .int .i64 (k : Int) ∧ Hid (RAt wr g_r a b c) ∧ Hid (FAt wr w.heap.size a) ∧ Hid (FAt wr (w.heap.size + 1) b) ∧ Hid (FAt wr (w.heap.size + 2) c) ∧ Hid (TabAt wr ga G) ∧ Hid (Below w.heap.size w wr)) (fun i _ => 3 - (intOf i).toNat)
  case atStart => exact ⟨0, by omega, rfl, RR, F33, F34, F35, T36, HB37⟩
  case round =>
    clear RR F33 F34 F35 T36 HB37 Wr
    obtain ⟨k, hk, rfl, RR, FA, FB, FC, TG, HW⟩ := hrel
    by_cases hlt : k < 3
    · rcases (show k = 0 ∨ k = 1 ∨ k = 2 by omega) with rfl | rfl | rfl
      · have RN := (unhide RR).range (unhide HA) (unhide HB) (unhide HC)
        have RX := hide RN.1
        clear RN hlt hk
        have ow_x : w.heap.size ≤ wr.heap.size := (unhide HW).size
        have o_a_x : w.heap.size < wr.heap.size := (unhide FA).lt
        have o_b_x : (w.heap.size + 1) < wr.heap.size := (unhide FB).lt
        have o_c_x : (w.heap.size + 2) < wr.heap.size := (unhide FC).lt
        have Z38 : Hid (FAt (wr.alloc (.cells (frA frZ) 27)) wr.heap.size frZ) := hide (FAt.new wr frZ)
        have hal : Below wr.heap.size wr (wr.alloc (.cells (frA frZ) 27)) := (Below.refl _ _).alloc (Nat.le_refl _) _
        have F39 : Hid (FAt ((wr.alloc (.cells (frA frZ) 27)).setRow wr.heap.size (frA a)) w.heap.size a) := hide (((unhide FA).below hal (unhide FA).lt).rowOther a (Nat.ne_of_lt (unhide FA).lt))
        have F40 : Hid (FAt ((wr.alloc (.cells (frA frZ) 27)).setRow wr.heap.size (frA a)) (w.heap.size + 1) b) := hide (((unhide FB).below hal (unhide FB).lt).rowOther a (Nat.ne_of_lt (unhide FB).lt))
        have F41 : Hid (FAt ((wr.alloc (.cells (frA frZ) 27)).setRow wr.heap.size (frA a)) (w.heap.size + 2) c) := hide (((unhide FC).below hal (unhide FC).lt).rowOther a (Nat.ne_of_lt (unhide FC).lt))
        have T42 := hide ((unhide TG).below (below_setRow' hal (Nat.le_refl _) (frA a)))
        have T43 := hide ((unhide RR).below (below_setRow' hal (Nat.le_refl _) (frA a)))
        have F44 : Hid (FAt ((wr.alloc (.cells (frA frZ) 27)).setRow wr.heap.size (frA a)) wr.heap.size a) := hide ((unhide Z38).row a)
        have HB45 : Hid (Below w.heap.size w ((wr.alloc (.cells (frA frZ) 27)).setRow wr.heap.size (frA a))) := hide (below_setRow' ((unhide HW).trans (hal.mono (unhide HW).size)) (unhide HW).size _)
        go_wp2_with (first | (refine wpList_store_row rfl 27 _ _ rfl wr.heap.size (frA a) rfl rfl 27 (frA frZ) (unhide Z38) (sizeFr (unhide HA)) (sizeEq frZ_ok (unhide HA)) (frA_one _) ?_) | (refine wpList_load_mid rfl 27 _ rfl g_r 0 rfl (frL a) _ (unhide RX) Try.underlying27 rfl (sizeFrL (unhide HA)) ?_))
        clear RX
        rw [frZ_eq]
        generalize ((wr.alloc (.cells (frA frZ) 27)).setRow wr.heap.size (frA a)) = W46 at F39 F40 F41 F44 T42 T43 HB45 ⊢
        clear FA FB FC Z38 HW TG RR hal
        generalize wr.heap.size = g_x at F44 ow_x o_a_x o_b_x o_c_x ⊢
        clear wr
        have F47 : Hid (FAt W46.drew w.heap.size a) := hide (unhide F39)
        have F48 : Hid (FAt W46.drew (w.heap.size + 1) b) := hide (unhide F40)
        have F49 : Hid (FAt W46.drew (w.heap.size + 2) c) := hide (unhide F41)
        have F50 : Hid (FAt W46.drew g_x a) := hide (unhide F44)
        have T51 := hide ((unhide T42).below (show Below W46.heap.size W46 W46.drew from ⟨rfl, rfl, rfl, Nat.le_refl _, fun _ _ => rfl⟩))
        have T52 := hide ((unhide T43).below (show Below W46.heap.size W46 W46.drew from ⟨rfl, rfl, rfl, Nat.le_refl _, fun _ _ => rfl⟩))
        have HB53 : Hid (Below w.heap.size w W46.drew) := hide ((unhide HB45).trans ⟨rfl, rfl, rfl, Nat.le_refl _, fun _ _ => rfl⟩)
        refine wp_region_held_drew (S := fun w' => FAt w' g_x a) (by kernel_rfl) (unhide F50) (fun hS54 => ?_)
        clear F39 F40 F41 F44 T42 T43 HB45
        generalize W46.drew = W55 at F47 F48 F49 F50 T51 T52 HB53 hS54 ⊢
        clear W46
        refine wpAnyH_take (i := 0) (v := .slice ga G.length gc) rfl (by kernel_rfl) (by kernel_rfl) (by kernel_rfl) (fun _ _ _ h => h) (Or.inl ⟨by rfl, fun w _ => by go_simp⟩) hS54 ?_
        refine wpAnyH_take (i := 1) (v := .agg (frA a)) rfl (by kernel_rfl) (by kernel_rfl) (by kernel_rfl) (fun _ _ _ h => h) (yieldsIf_load_fr (by rfl) _ rfl g_x rfl a (unhide HA) (fun _ h => h)) hS54 ?_
        refine wpAnyH_take (i := 2) (v := .agg (frA a)) rfl (by kernel_rfl) (by kernel_rfl) (by kernel_rfl) (fun _ _ _ h => h) (yieldsIf_load_fr (by rfl) _ rfl g_x rfl a (unhide HA) (fun _ h => h)) hS54 ?_
        refine wpAnyH_take (i := 4) (v := .slice ao T.length cap) rfl (by kernel_rfl) (by kernel_rfl) (by kernel_rfl) (fun _ _ _ h => h) (Or.inl ⟨by rfl, fun w _ => by go_simp⟩) hS54 ?_
        refine wpAnyH_take (i := 5) (v := .agg (frA a)) rfl (by kernel_rfl) (by kernel_rfl) (by kernel_rfl) (fun _ _ _ h => h) (yieldsIf_load_fr (by rfl) _ rfl g_x rfl a (unhide HA) (fun _ h => h)) hS54 ?_
        refine wpAnyH_ready (rs := [3]) (by kernel_rfl) (by simp) ?_
        refine AllReadyH.cons rfl (fun K hK => ?_) AllReadyH.nil
        go_simp
        go_wp2_with (go_at_call 17; refine (SelfG_any (unhide HSm) ga gc a _ (unhide T51) (unhide HA)).mono ?_; rintro e W56 ⟨rfl, hB57⟩)
        have F58 := hide ((unhide F47).below hB57 (unhide F47).lt)
        have F59 := hide ((unhide F48).below hB57 (unhide F48).lt)
        have F60 := hide ((unhide F49).below hB57 (unhide F49).lt)
        have F61 := hide ((unhide F50).below hB57 (unhide F50).lt)
        have T62 := hide ((unhide T51).below hB57)
        have T63 := hide ((unhide T52).below hB57)
        have HB64 := hide ((unhide HB53).trans (hB57.mono (unhide HB53).size))
        refine hK.out _ _ (unhide F61) (fun hS65 => ?_)
        clear hK K hS54 hB57 F47 F48 F49 F50 T51 T52 HB53 W55
        refine wpAnyH_ready (rs := [6]) (by kernel_rfl) (by simp) ?_
        refine AllReadyH.cons rfl (fun K hK => ?_) AllReadyH.nil
        go_simp
        go_wp2_with (go_at_call 31; refine (refCheckF_any ao cap T.length a _ (unhide HA)).mono ?_; rintro e W66 ⟨rfl, hB67⟩)
        have F68 := hide ((unhide F58).below hB67 (unhide F58).lt)
        have F69 := hide ((unhide F59).below hB67 (unhide F59).lt)
        have F70 := hide ((unhide F60).below hB67 (unhide F60).lt)
        have F71 := hide ((unhide F61).below hB67 (unhide F61).lt)
        have T72 := hide ((unhide T62).below hB67)
        have T73 := hide ((unhide T63).below hB67)
        have HB74 := hide ((unhide HB64).trans (hB67.mono (unhide HB64).size))
        refine hK.out _ _ (unhide F71) (fun hS75 => ?_)
        clear hK K hS65 hB67 F58 F59 F60 F61 T62 T63 HB64 W56
        refine wpAnyH_take (i := 7) (v := .bool (chkF T.length a == 0)) rfl (by kernel_rfl) (by kernel_rfl) (by kernel_rfl) (fun _ _ _ h => h) (Or.inl ⟨by rfl, fun w _ => by go_simp⟩) hS75 ?_
        refine wpAnyH_take (i := 8) (v := .bool false) rfl (by kernel_rfl) (by kernel_rfl) (by kernel_rfl) (fun _ _ _ h => h) (Or.inl ⟨by rfl, fun w _ => by go_simp⟩) hS75 ?_
        refine wpAnyH_done (by kernel_rfl) ?_ _
        clear hS75
        go_wp2
        go_roundw
        case rel => exact ⟨1, by omega, by go_num, T73, F68, F69, F70, T72, HB74⟩
        case measure => simp [intOf]
      · have RN := (unhide RR).range (unhide HA) (unhide HB) (unhide HC)
        have RX := hide RN.2.1
        clear RN hlt hk
        have ow_x : w.heap.size ≤ wr.heap.size := (unhide HW).size
        have o_a_x : w.heap.size < wr.heap.size := (unhide FA).lt
        have o_b_x : (w.heap.size + 1) < wr.heap.size := (unhide FB).lt
        have o_c_x : (w.heap.size + 2) < wr.heap.size := (unhide FC).lt
        have Z76 : Hid (FAt (wr.alloc (.cells (frA frZ) 27)) wr.heap.size frZ) := hide (FAt.new wr frZ)
        have hal : Below wr.heap.size wr (wr.alloc (.cells (frA frZ) 27)) := (Below.refl _ _).alloc (Nat.le_refl _) _
        have F77 : Hid (FAt ((wr.alloc (.cells (frA frZ) 27)).setRow wr.heap.size (frA b)) w.heap.size a) := hide (((unhide FA).below hal (unhide FA).lt).rowOther b (Nat.ne_of_lt (unhide FA).lt))
        have F78 : Hid (FAt ((wr.alloc (.cells (frA frZ) 27)).setRow wr.heap.size (frA b)) (w.heap.size + 1) b) := hide (((unhide FB).below hal (unhide FB).lt).rowOther b (Nat.ne_of_lt (unhide FB).lt))
        have F79 : Hid (FAt ((wr.alloc (.cells (frA frZ) 27)).setRow wr.heap.size (frA b)) (w.heap.size + 2) c) := hide (((unhide FC).below hal (unhide FC).lt).rowOther b (Nat.ne_of_lt (unhide FC).lt))
        have T80 := hide ((unhide TG).below (below_setRow' hal (Nat.le_refl _) (frA b)))
        have T81 := hide ((unhide RR).below (below_setRow' hal (Nat.le_refl _) (frA b)))
        have F82 : Hid (FAt ((wr.alloc (.cells (frA frZ) 27)).setRow wr.heap.size (frA b)) wr.heap.size b) := hide ((unhide Z76).row b)
        have HB83 : Hid (Below w.heap.size w ((wr.alloc (.cells (frA frZ) 27)).setRow wr.heap.size (frA b))) := hide (below_setRow' ((unhide HW).trans (hal.mono (unhide HW).size)) (unhide HW).size _)
        go_wp2_with (first | (refine wpList_store_row rfl 27 _ _ rfl wr.heap.size (frA b) rfl rfl 27 (frA frZ) (unhide Z76) (sizeFr (unhide HB)) (sizeEq frZ_ok (unhide HB)) (frA_one _) ?_) | (refine wpList_load_mid rfl 27 _ rfl g_r 26 rfl (frL b) _ (unhide RX) Try.underlying27 rfl (sizeFrL (unhide HB)) ?_))
        clear RX
        rw [frZ_eq]
        generalize ((wr.alloc (.cells (frA frZ) 27)).setRow wr.heap.size (frA b)) = W84 at F77 F78 F79 F82 T80 T81 HB83 ⊢
        clear FA FB FC Z76 HW TG RR hal
        generalize wr.heap.size = g_x at F82 ow_x o_a_x o_b_x o_c_x ⊢
        clear wr
        have F85 : Hid (FAt W84.drew w.heap.size a) := hide (unhide F77)
        have F86 : Hid (FAt W84.drew (w.heap.size + 1) b) := hide (unhide F78)
        have F87 : Hid (FAt W84.drew (w.heap.size + 2) c) := hide (unhide F79)
        have F88 : Hid (FAt W84.drew g_x b) := hide (unhide F82)
        have T89 := hide ((unhide T80).below (show Below W84.heap.size W84 W84.drew from ⟨rfl, rfl, rfl, Nat.le_refl _, fun _ _ => rfl⟩))
        have T90 := hide ((unhide T81).below (show Below W84.heap.size W84 W84.drew from ⟨rfl, rfl, rfl, Nat.le_refl _, fun _ _ => rfl⟩))
        have HB91 : Hid (Below w.heap.size w W84.drew) := hide ((unhide HB83).trans ⟨rfl, rfl, rfl, Nat.le_refl _, fun _ _ => rfl⟩)
        refine wp_region_held_drew (S := fun w' => FAt w' g_x b) (by kernel_rfl) (unhide F88) (fun hS92 => ?_)
        clear F77 F78 F79 F82 T80 T81 HB83
        generalize W84.drew = W93 at F85 F86 F87 F88 T89 T90 HB91 hS92 ⊢
        clear W84
        refine wpAnyH_take (i := 0) (v := .slice ga G.length gc) rfl (by kernel_rfl) (by kernel_rfl) (by kernel_rfl) (fun _ _ _ h => h) (Or.inl ⟨by rfl, fun w _ => by go_simp⟩) hS92 ?_
        refine wpAnyH_take (i := 1) (v := .agg (frA b)) rfl (by kernel_rfl) (by kernel_rfl) (by kernel_rfl) (fun _ _ _ h => h) (yieldsIf_load_fr (by rfl) _ rfl g_x rfl b (unhide HB) (fun _ h => h)) hS92 ?_
        refine wpAnyH_take (i := 2) (v := .agg (frA b)) rfl (by kernel_rfl) (by kernel_rfl) (by kernel_rfl) (fun _ _ _ h => h) (yieldsIf_load_fr (by rfl) _ rfl g_x rfl b (unhide HB) (fun _ h => h)) hS92 ?_
        refine wpAnyH_take (i := 4) (v := .slice ao T.length cap) rfl (by kernel_rfl) (by kernel_rfl) (by kernel_rfl) (fun _ _ _ h => h) (Or.inl ⟨by rfl, fun w _ => by go_simp⟩) hS92 ?_
        refine wpAnyH_take (i := 5) (v := .agg (frA b)) rfl (by kernel_rfl) (by kernel_rfl) (by kernel_rfl) (fun _ _ _ h => h) (yieldsIf_load_fr (by rfl) _ rfl g_x rfl b (unhide HB) (fun _ h => h)) hS92 ?_
        refine wpAnyH_ready (rs := [3]) (by kernel_rfl) (by simp) ?_
        refine AllReadyH.cons rfl (fun K hK => ?_) AllReadyH.nil
        go_simp
        go_wp2_with (go_at_call 17; refine (SelfG_any (unhide HSm) ga gc b _ (unhide T89) (unhide HB)).mono ?_; rintro e W94 ⟨rfl, hB95⟩)
        have F96 := hide ((unhide F85).below hB95 (unhide F85).lt)
        have F97 := hide ((unhide F86).below hB95 (unhide F86).lt)
        have F98 := hide ((unhide F87).below hB95 (unhide F87).lt)
        have F99 := hide ((unhide F88).below hB95 (unhide F88).lt)
        have T100 := hide ((unhide T89).below hB95)
        have T101 := hide ((unhide T90).below hB95)
        have HB102 := hide ((unhide HB91).trans (hB95.mono (unhide HB91).size))
        refine hK.out _ _ (unhide F99) (fun hS103 => ?_)
        clear hK K hS92 hB95 F85 F86 F87 F88 T89 T90 HB91 W93
        refine wpAnyH_ready (rs := [6]) (by kernel_rfl) (by simp) ?_
        refine AllReadyH.cons rfl (fun K hK => ?_) AllReadyH.nil
        go_simp
        go_wp2_with (go_at_call 31; refine (refCheckF_any ao cap T.length b _ (unhide HB)).mono ?_; rintro e W104 ⟨rfl, hB105⟩)
        have F106 := hide ((unhide F96).below hB105 (unhide F96).lt)
        have F107 := hide ((unhide F97).below hB105 (unhide F97).lt)
        have F108 := hide ((unhide F98).below hB105 (unhide F98).lt)
        have F109 := hide ((unhide F99).below hB105 (unhide F99).lt)
        have T110 := hide ((unhide T100).below hB105)
        have T111 := hide ((unhide T101).below hB105)
        have HB112 := hide ((unhide HB102).trans (hB105.mono (unhide HB102).size))
        refine hK.out _ _ (unhide F109) (fun hS113 => ?_)
        clear hK K hS103 hB105 F96 F97 F98 F99 T100 T101 HB102 W94
        refine wpAnyH_take (i := 7) (v := .bool (chkF T.length b == 0)) rfl (by kernel_rfl) (by kernel_rfl) (by kernel_rfl) (fun _ _ _ h => h) (Or.inl ⟨by rfl, fun w _ => by go_simp⟩) hS113 ?_
        refine wpAnyH_take (i := 8) (v := .bool false) rfl (by kernel_rfl) (by kernel_rfl) (by kernel_rfl) (fun _ _ _ h => h) (Or.inl ⟨by rfl, fun w _ => by go_simp⟩) hS113 ?_
        refine wpAnyH_done (by kernel_rfl) ?_ _
        clear hS113
        go_wp2
        go_roundw
        case rel => exact ⟨2, by omega, by go_num, T111, F106, F107, F108, T110, HB112⟩
        case measure => simp [intOf]
      · have RN := (unhide RR).range (unhide HA) (unhide HB) (unhide HC)
        have RX := hide RN.2.2
        clear RN hlt hk
        have ow_x : w.heap.size ≤ wr.heap.size := (unhide HW).size
        have o_a_x : w.heap.size < wr.heap.size := (unhide FA).lt
        have o_b_x : (w.heap.size + 1) < wr.heap.size := (unhide FB).lt
        have o_c_x : (w.heap.size + 2) < wr.heap.size := (unhide FC).lt
        have Z114 : Hid (FAt (wr.alloc (.cells (frA frZ) 27)) wr.heap.size frZ) := hide (FAt.new wr frZ)
        have hal : Below wr.heap.size wr (wr.alloc (.cells (frA frZ) 27)) := (Below.refl _ _).alloc (Nat.le_refl _) _
        have F115 : Hid (FAt ((wr.alloc (.cells (frA frZ) 27)).setRow wr.heap.size (frA c)) w.heap.size a) := hide (((unhide FA).below hal (unhide FA).lt).rowOther c (Nat.ne_of_lt (unhide FA).lt))
        have F116 : Hid (FAt ((wr.alloc (.cells (frA frZ) 27)).setRow wr.heap.size (frA c)) (w.heap.size + 1) b) := hide (((unhide FB).below hal (unhide FB).lt).rowOther c (Nat.ne_of_lt (unhide FB).lt))
        have F117 : Hid (FAt ((wr.alloc (.cells (frA frZ) 27)).setRow wr.heap.size (frA c)) (w.heap.size + 2) c) := hide (((unhide FC).below hal (unhide FC).lt).rowOther c (Nat.ne_of_lt (unhide FC).lt))
        have T118 := hide ((unhide TG).below (below_setRow' hal (Nat.le_refl _) (frA c)))
        have T119 := hide ((unhide RR).below (below_setRow' hal (Nat.le_refl _) (frA c)))
        have F120 : Hid (FAt ((wr.alloc (.cells (frA frZ) 27)).setRow wr.heap.size (frA c)) wr.heap.size c) := hide ((unhide Z114).row c)
        have HB121 : Hid (Below w.heap.size w ((wr.alloc (.cells (frA frZ) 27)).setRow wr.heap.size (frA c))) := hide (below_setRow' ((unhide HW).trans (hal.mono (unhide HW).size)) (unhide HW).size _)
        go_wp2_with (first | (refine wpList_store_row rfl 27 _ _ rfl wr.heap.size (frA c) rfl rfl 27 (frA frZ) (unhide Z114) (sizeFr (unhide HC)) (sizeEq frZ_ok (unhide HC)) (frA_one _) ?_) | (refine wpList_load_mid rfl 27 _ rfl g_r 52 rfl (frL c) _ (unhide RX) Try.underlying27 rfl (sizeFrL (unhide HC)) ?_))
        clear RX
        rw [frZ_eq]
        generalize ((wr.alloc (.cells (frA frZ) 27)).setRow wr.heap.size (frA c)) = W122 at F115 F116 F117 F120 T118 T119 HB121 ⊢
        clear FA FB FC Z114 HW TG RR hal
        generalize wr.heap.size = g_x at F120 ow_x o_a_x o_b_x o_c_x ⊢
        clear wr
        have F123 : Hid (FAt W122.drew w.heap.size a) := hide (unhide F115)
        have F124 : Hid (FAt W122.drew (w.heap.size + 1) b) := hide (unhide F116)
        have F125 : Hid (FAt W122.drew (w.heap.size + 2) c) := hide (unhide F117)
        have F126 : Hid (FAt W122.drew g_x c) := hide (unhide F120)
        have T127 := hide ((unhide T118).below (show Below W122.heap.size W122 W122.drew from ⟨rfl, rfl, rfl, Nat.le_refl _, fun _ _ => rfl⟩))
        have T128 := hide ((unhide T119).below (show Below W122.heap.size W122 W122.drew from ⟨rfl, rfl, rfl, Nat.le_refl _, fun _ _ => rfl⟩))
        have HB129 : Hid (Below w.heap.size w W122.drew) := hide ((unhide HB121).trans ⟨rfl, rfl, rfl, Nat.le_refl _, fun _ _ => rfl⟩)
        refine wp_region_held_drew (S := fun w' => FAt w' g_x c) (by kernel_rfl) (unhide F126) (fun hS130 => ?_)
        clear F115 F116 F117 F120 T118 T119 HB121
        generalize W122.drew = W131 at F123 F124 F125 F126 T127 T128 HB129 hS130 ⊢
        clear W122
        refine wpAnyH_take (i := 0) (v := .slice ga G.length gc) rfl (by kernel_rfl) (by kernel_rfl) (by kernel_rfl) (fun _ _ _ h => h) (Or.inl ⟨by rfl, fun w _ => by go_simp⟩) hS130 ?_
        refine wpAnyH_take (i := 1) (v := .agg (frA c)) rfl (by kernel_rfl) (by kernel_rfl) (by kernel_rfl) (fun _ _ _ h => h) (yieldsIf_load_fr (by rfl) _ rfl g_x rfl c (unhide HC) (fun _ h => h)) hS130 ?_
        refine wpAnyH_take (i := 2) (v := .agg (frA c)) rfl (by kernel_rfl) (by kernel_rfl) (by kernel_rfl) (fun _ _ _ h => h) (yieldsIf_load_fr (by rfl) _ rfl g_x rfl c (unhide HC) (fun _ h => h)) hS130 ?_
        refine wpAnyH_take (i := 4) (v := .slice ao T.length cap) rfl (by kernel_rfl) (by kernel_rfl) (by kernel_rfl) (fun _ _ _ h => h) (Or.inl ⟨by rfl, fun w _ => by go_simp⟩) hS130 ?_
        refine wpAnyH_take (i := 5) (v := .agg (frA c)) rfl (by kernel_rfl) (by kernel_rfl) (by kernel_rfl) (fun _ _ _ h => h) (yieldsIf_load_fr (by rfl) _ rfl g_x rfl c (unhide HC) (fun _ h => h)) hS130 ?_
        refine wpAnyH_ready (rs := [3]) (by kernel_rfl) (by simp) ?_
        refine AllReadyH.cons rfl (fun K hK => ?_) AllReadyH.nil
        go_simp
        go_wp2_with (go_at_call 17; refine (SelfG_any (unhide HSm) ga gc c _ (unhide T127) (unhide HC)).mono ?_; rintro e W132 ⟨rfl, hB133⟩)
        have F134 := hide ((unhide F123).below hB133 (unhide F123).lt)
        have F135 := hide ((unhide F124).below hB133 (unhide F124).lt)
        have F136 := hide ((unhide F125).below hB133 (unhide F125).lt)
        have F137 := hide ((unhide F126).below hB133 (unhide F126).lt)
        have T138 := hide ((unhide T127).below hB133)
        have T139 := hide ((unhide T128).below hB133)
        have HB140 := hide ((unhide HB129).trans (hB133.mono (unhide HB129).size))
        refine hK.out _ _ (unhide F137) (fun hS141 => ?_)
        clear hK K hS130 hB133 F123 F124 F125 F126 T127 T128 HB129 W131
        refine wpAnyH_ready (rs := [6]) (by kernel_rfl) (by simp) ?_
        refine AllReadyH.cons rfl (fun K hK => ?_) AllReadyH.nil
        go_simp
        go_wp2_with (go_at_call 31; refine (refCheckF_any ao cap T.length c _ (unhide HC)).mono ?_; rintro e W142 ⟨rfl, hB143⟩)
        have F144 := hide ((unhide F134).below hB143 (unhide F134).lt)
        have F145 := hide ((unhide F135).below hB143 (unhide F135).lt)
        have F146 := hide ((unhide F136).below hB143 (unhide F136).lt)
        have F147 := hide ((unhide F137).below hB143 (unhide F137).lt)
        have T148 := hide ((unhide T138).below hB143)
        have T149 := hide ((unhide T139).below hB143)
        have HB150 := hide ((unhide HB140).trans (hB143.mono (unhide HB140).size))
        refine hK.out _ _ (unhide F147) (fun hS151 => ?_)
        clear hK K hS141 hB143 F134 F135 F136 F137 T138 T139 HB140 W132
        refine wpAnyH_take (i := 7) (v := .bool (chkF T.length c == 0)) rfl (by kernel_rfl) (by kernel_rfl) (by kernel_rfl) (fun _ _ _ h => h) (Or.inl ⟨by rfl, fun w _ => by go_simp⟩) hS151 ?_
        refine wpAnyH_take (i := 8) (v := .bool false) rfl (by kernel_rfl) (by kernel_rfl) (by kernel_rfl) (fun _ _ _ h => h) (Or.inl ⟨by rfl, fun w _ => by go_simp⟩) hS151 ?_
        refine wpAnyH_done (by kernel_rfl) ?_ _
        clear hS151
        go_wp2
        go_roundw
        case rel => exact ⟨3, by omega, by go_num, T149, F144, F145, F146, T148, HB150⟩
        case measure => simp [intOf]
    · have j1 : ¬ ((k : Nat) : Int) < 3 := by omega
      clear hlt RR
      go_wp2_with fail
      refine (SelfG_any (unhide HSm) ga gc frZ _ (unhide TG) frZ_ok).mono ?_
      rintro e W152 ⟨rfl, hB153⟩
      have F154 := hide ((unhide FA).below hB153 (unhide FA).lt)
      have F155 := hide ((unhide FB).below hB153 (unhide FB).lt)
      have F156 := hide ((unhide FC).below hB153 (unhide FC).lt)
      have T157 := hide ((unhide TG).below hB153)
      have HB158 := hide ((unhide HW).trans (hB153.mono (unhide HW).size))
      clear hB153 FA FB FC TG HW wr
      rw [chk_zero, show ((0 : Int) == 0) = true from rfl]
      go_wp2
      have F159 : Hid (FAt W152.drew w.heap.size a) := hide (unhide F154)
      have F160 : Hid (FAt W152.drew (w.heap.size + 1) b) := hide (unhide F155)
      have F161 : Hid (FAt W152.drew (w.heap.size + 2) c) := hide (unhide F156)
      have T162 := hide ((unhide T157).below (show Below W152.heap.size W152 W152.drew from ⟨rfl, rfl, rfl, Nat.le_refl _, fun _ _ => rfl⟩))
      have HB163 : Hid (Below w.heap.size w W152.drew) := hide ((unhide HB158).trans ⟨rfl, rfl, rfl, Nat.le_refl _, fun _ _ => rfl⟩)
      refine wp_region_held_drew (S := fun w' => FAt w' w.heap.size a ∧ FAt w' (w.heap.size + 1) b ∧ FAt w' (w.heap.size + 2) c) (by kernel_rfl) ⟨unhide F159, unhide F160, unhide F161⟩ (fun hS164 => ?_)
      clear F154 F155 F156 T157 HB158
      generalize W152.drew = W165 at F159 F160 F161 T162 HB163 hS164 ⊢
      clear W152
      refine wpAnyH_take (i := 0) (v := .slice ga G.length gc) rfl (by kernel_rfl) (by kernel_rfl) (by kernel_rfl) (fun _ _ _ h => h) (Or.inl ⟨by rfl, fun w _ => by go_simp⟩) hS164 ?_
      refine wpAnyH_take (i := 1) (v := .agg (frA a)) rfl (by kernel_rfl) (by kernel_rfl) (by kernel_rfl) (fun _ _ _ h => h) (yieldsIf_load_fr (by rfl) _ rfl w.heap.size rfl a (unhide HA) (fun _ h => h.1)) hS164 ?_
      refine wpAnyH_take (i := 2) (v := .agg (frA b)) rfl (by kernel_rfl) (by kernel_rfl) (by kernel_rfl) (fun _ _ _ h => h) (yieldsIf_load_fr (by rfl) _ rfl (w.heap.size + 1) rfl b (unhide HB) (fun _ h => h.2.1)) hS164 ?_
      go_simp
      refine wpAnyH_take (i := 4) (v := .slice ga G.length gc) rfl (by kernel_rfl) (by kernel_rfl) (by kernel_rfl) (fun _ _ _ h => h) (Or.inl ⟨by rfl, fun w _ => by go_simp⟩) hS164 ?_
      refine wpAnyH_take (i := 5) (v := .agg (frA b)) rfl (by kernel_rfl) (by kernel_rfl) (by kernel_rfl) (fun _ _ _ h => h) (yieldsIf_load_fr (by rfl) _ rfl (w.heap.size + 1) rfl b (unhide HB) (fun _ h => h.2.1)) hS164 ?_
      refine wpAnyH_take (i := 6) (v := .agg (frA c)) rfl (by kernel_rfl) (by kernel_rfl) (by kernel_rfl) (fun _ _ _ h => h) (yieldsIf_load_fr (by rfl) _ rfl (w.heap.size + 2) rfl c (unhide HC) (fun _ h => h.2.2)) hS164 ?_
      go_simp
      refine wpAnyH_take (i := 8) (v := .slice ga G.length gc) rfl (by kernel_rfl) (by kernel_rfl) (by kernel_rfl) (fun _ _ _ h => h) (Or.inl ⟨by rfl, fun w _ => by go_simp⟩) hS164 ?_
      refine wpAnyH_take (i := 9) (v := .agg (frA a)) rfl (by kernel_rfl) (by kernel_rfl) (by kernel_rfl) (fun _ _ _ h => h) (yieldsIf_load_fr (by rfl) _ rfl w.heap.size rfl a (unhide HA) (fun _ h => h.1)) hS164 ?_
      refine wpAnyH_take (i := 10) (v := .agg (frA c)) rfl (by kernel_rfl) (by kernel_rfl) (by kernel_rfl) (fun _ _ _ h => h) (yieldsIf_load_fr (by rfl) _ rfl (w.heap.size + 2) rfl c (unhide HC) (fun _ h => h.2.2)) hS164 ?_
      go_simp
      refine wpAnyH_take (i := 12) (v := .slice ga G.length gc) rfl (by kernel_rfl) (by kernel_rfl) (by kernel_rfl) (fun _ _ _ h => h) (Or.inl ⟨by rfl, fun w _ => by go_simp⟩) hS164 ?_
      refine wpAnyH_take (i := 13) (v := .agg (frA b)) rfl (by kernel_rfl) (by kernel_rfl) (by kernel_rfl) (fun _ _ _ h => h) (yieldsIf_load_fr (by rfl) _ rfl (w.heap.size + 1) rfl b (unhide HB) (fun _ h => h.2.1)) hS164 ?_
      refine wpAnyH_take (i := 14) (v := .agg (frA a)) rfl (by kernel_rfl) (by kernel_rfl) (by kernel_rfl) (fun _ _ _ h => h) (yieldsIf_load_fr (by rfl) _ rfl w.heap.size rfl a (unhide HA) (fun _ h => h.1)) hS164 ?_
      go_simp
      refine wpAnyH_ready (rs := [3]) (by kernel_rfl) (by simp) ?_
      refine AllReadyH.cons rfl (fun K hK => ?_) AllReadyH.nil
      go_simp
      go_wp2_with (go_at_call 17; refine (SubG_any (unhide HSm) ga gc a b _ (unhide T162) (unhide HA) (unhide HB)).mono ?_; rintro e W166 ⟨rfl, hB167⟩)
      have F168 := hide ((unhide F159).below hB167 (unhide F159).lt)
      have F169 := hide ((unhide F160).below hB167 (unhide F160).lt)
      have F170 := hide ((unhide F161).below hB167 (unhide F161).lt)
      have T171 := hide ((unhide T162).below hB167)
      have HB172 := hide ((unhide HB163).trans (hB167.mono (unhide HB163).size))
      refine hK.out _ _ ⟨unhide F168, unhide F169, unhide F170⟩ (fun hS173 => ?_)
      clear hK K hS164 hB167 F159 F160 F161 T162 HB163 W165
      refine wpAnyH_ready (rs := [7]) (by kernel_rfl) (by simp) ?_
      refine AllReadyH.cons rfl (fun K hK => ?_) AllReadyH.nil
      go_simp
      go_wp2_with (go_at_call 17; refine (SubG_any (unhide HSm) ga gc b c _ (unhide T171) (unhide HB) (unhide HC)).mono ?_; rintro e W174 ⟨rfl, hB175⟩)
      have F176 := hide ((unhide F168).below hB175 (unhide F168).lt)
      have F177 := hide ((unhide F169).below hB175 (unhide F169).lt)
      have F178 := hide ((unhide F170).below hB175 (unhide F170).lt)
      have T179 := hide ((unhide T171).below hB175)
      have HB180 := hide ((unhide HB172).trans (hB175.mono (unhide HB172).size))
      refine hK.out _ _ ⟨unhide F176, unhide F177, unhide F178⟩ (fun hS181 => ?_)
      clear hK K hS173 hB175 F168 F169 F170 T171 HB172 W166
      refine wpAnyH_ready (rs := [11]) (by kernel_rfl) (by simp) ?_
      refine AllReadyH.cons rfl (fun K hK => ?_) AllReadyH.nil
      go_simp
      go_wp2_with (go_at_call 17; refine (SubG_any (unhide HSm) ga gc a c _ (unhide T179) (unhide HA) (unhide HC)).mono ?_; rintro e W182 ⟨rfl, hB183⟩)
      have F184 := hide ((unhide F176).below hB183 (unhide F176).lt)
      have F185 := hide ((unhide F177).below hB183 (unhide F177).lt)
      have F186 := hide ((unhide F178).below hB183 (unhide F178).lt)
      have T187 := hide ((unhide T179).below hB183)
      have HB188 := hide ((unhide HB180).trans (hB183.mono (unhide HB180).size))
      refine hK.out _ _ ⟨unhide F184, unhide F185, unhide F186⟩ (fun hS189 => ?_)
      clear hK K hS181 hB183 F176 F177 F178 T179 HB180 W174
      refine wpAnyH_ready (rs := [15]) (by kernel_rfl) (by simp) ?_
      refine AllReadyH.cons rfl (fun K hK => ?_) AllReadyH.nil
      go_simp
      go_wp2_with (go_at_call 17; refine (SubG_any (unhide HSm) ga gc b a _ (unhide T187) (unhide HB) (unhide HA)).mono ?_; rintro e W190 ⟨rfl, hB191⟩)
      have F192 := hide ((unhide F184).below hB191 (unhide F184).lt)
      have F193 := hide ((unhide F185).below hB191 (unhide F185).lt)
      have F194 := hide ((unhide F186).below hB191 (unhide F186).lt)
      have T195 := hide ((unhide T187).below hB191)
      have HB196 := hide ((unhide HB188).trans (hB191.mono (unhide HB188).size))
      refine hK.out _ _ ⟨unhide F192, unhide F193, unhide F194⟩ (fun hS197 => ?_)
      clear hK K hS189 hB191 F184 F185 F186 T187 HB188 W182
      refine wpAnyH_take (i := 16) (v := .bool (subF T a b)) rfl (by kernel_rfl) (by kernel_rfl) (by kernel_rfl) (fun _ _ _ h => h) (Or.inl ⟨by rfl, fun w _ => by go_simp⟩) hS197 ?_
      go_simp
      refine wpAnyH_take (i := 17) (v := .bool (subF T b c)) rfl (by kernel_rfl) (by kernel_rfl) (by kernel_rfl) (fun _ _ _ h => h) (Or.inl ⟨by rfl, fun w _ => by go_simp⟩) hS197 ?_
      go_simp
      refine wpAnyH_take (i := 18) (v := .bool (subF T a c)) rfl (by kernel_rfl) (by kernel_rfl) (by kernel_rfl) (fun _ _ _ h => h) (Or.inl ⟨by rfl, fun w _ => by go_simp⟩) hS197 ?_
      go_simp
      refine wpAnyH_take (i := 19) (v := .bool (subF T b a)) rfl (by kernel_rfl) (by kernel_rfl) (by kernel_rfl) (fun _ _ _ h => h) (Or.inl ⟨by rfl, fun w _ => by go_simp⟩) hS197 ?_
      go_simp
      refine wpAnyH_done (by kernel_rfl) ?_ _
      clear hS197
      have HTR := hide (fun h1 h2 => subF_trans (T := T) (unhide HA) (unhide HB) (unhide HC) h1 h2)
      have HAS := hide (fun h1 h2 => subF_antisymm (T := T) (unhide HA) (unhide HB) h1 h2)
      cases k1 : subF T a b
      · go_wp2
        go_ret
        exact ⟨by simp, unhide HB196⟩
      · cases k2 : subF T b c
        · cases k4 : subF T b a
          · go_wp2
            go_ret
            exact ⟨by simp, unhide HB196⟩
          · rw [unhide HAS k1 k4] at hq
            clear HTR HAS
            go_wp2_with (first | (refine wpList_load_rowG rfl 27 _ rfl w.heap.size rfl 27 (frA a) (0, 0) _ (unhide F192) Try.underlying27 rfl (sizeFr (unhide HA)) ?_) | (refine wpList_load_rowG rfl 27 _ rfl (w.heap.size + 1) rfl 27 (frA b) (0, 0) _ (unhide F193) Try.underlying27 rfl (sizeFr (unhide HB)) ?_))
            go_ret
            exact ⟨by simp, unhide HB196⟩
        · have k3 := unhide HTR k1 k2
          cases k4 : subF T b a
          · go_wp2
            go_ret
            exact ⟨by simp, unhide HB196⟩
          · rw [unhide HAS k1 k4] at hq
            clear HTR HAS
            go_wp2_with (first | (refine wpList_load_rowG rfl 27 _ rfl w.heap.size rfl 27 (frA a) (0, 0) _ (unhide F192) Try.underlying27 rfl (sizeFr (unhide HA)) ?_) | (refine wpList_load_rowG rfl 27 _ rfl (w.heap.size + 1) rfl 27 (frA b) (0, 0) _ (unhide F193) Try.underlying27 rfl (sizeFr (unhide HB)) ?_))
            go_ret
            exact ⟨by simp, unhide HB196⟩
end Go.Proofs.Ytihkodfcgfnjoaa
