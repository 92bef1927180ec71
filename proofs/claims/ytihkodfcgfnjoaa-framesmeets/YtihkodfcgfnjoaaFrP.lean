/-
  The contract of provisoref03.Merge: what the plain function 'mergeF' says; nothing old is turned. Conditions: the table may be.
-/
import Derived.Test.YtihkodfcgfnjoaaFrM
import Derived.Test.YtihkodfcgfnjoaaRefMerge
namespace Go.Proofs.Ytihkodfcgfnjoaa
open Go.RowKit

set_option maxHeartbeats 4000000 in
theorem refMergeF_any (ao : Option Addr) (cap : Nat) (T : List Cl) (a b : Fr) (w : World) (hT : TabAt w ao T) (hz : T.length * 48 ≤ 140737488351232) (hmd : madeD T = true) (ha : FrOk a) (hb : FrOk b) :
    Calls Try.prog 20 #[.slice ao T.length cap, .agg (frA a), .agg (frA b)] w fun e w' => e = .returned (frTwo (mergeF T a b)) ∧ Below w.heap.size w w' := by
  have HA := hide ha
  have HB := hide hb
  have hal1 : Below w.heap.size w (w.alloc (.cells (frA a) 27)) := (Below.refl _ _).alloc (Nat.le_refl _) _
  have fa1 := FAt.new w a
  have fb1 : FAt ((w.alloc (.cells (frA a) 27)).alloc (.cells (frA b) 27)) (w.heap.size + 1) b := by
    have := FAt.new (w.alloc (.cells (frA a) 27)) b
    rw [World.size_alloc] at this
    exact this
  have fa2 : FAt ((w.alloc (.cells (frA a) 27)).alloc (.cells (frA b) 27)) w.heap.size a := fa1.below ((Below.refl _ _).alloc (Nat.le_refl _) _) (by simp)
  have hal2 : Below w.heap.size w ((w.alloc (.cells (frA a) 27)).alloc (.cells (frA b) 27)) := hal1.alloc (by simp) _
  have fz3 : FAt (((w.alloc (.cells (frA a) 27)).alloc (.cells (frA b) 27)).alloc (.cells (frA frZ) 27)) (w.heap.size + 2) frZ := by
    have := FAt.new ((w.alloc (.cells (frA a) 27)).alloc (.cells (frA b) 27)) frZ
    rw [World.size_alloc, World.size_alloc] at this
    exact this
  have F1 : Hid (FAt (((w.alloc (.cells (frA a) 27)).alloc (.cells (frA b) 27)).alloc (.cells (frA frZ) 27)) w.heap.size a) := hide (fa2.below ((Below.refl _ _).alloc (Nat.le_refl _) _) (by simp; omega))
  have F2 : Hid (FAt (((w.alloc (.cells (frA a) 27)).alloc (.cells (frA b) 27)).alloc (.cells (frA frZ) 27)) (w.heap.size + 1) b) := hide (fb1.below ((Below.refl _ _).alloc (Nat.le_refl _) _) (by simp))
  have F3 := hide fz3
  have hal3 : Below w.heap.size w (((w.alloc (.cells (frA a) 27)).alloc (.cells (frA b) 27)).alloc (.cells (frA frZ) 27)) := hal2.alloc (by simp; omega) _
  have HT := hide hT
  have HB0 := hide hal3
  have hbz := run_buildZ
  clear hT hal1 hal2 hal3 fa1 fa2 fb1 fz3
  have HZ := hide hz
  have HMD := hide hmd
  clear ha hb hz hmd
  go_enter Try.func20, Try.ntmps20
  go_wp2_with (refine wpList_load_row rfl 27 _ rfl w.heap.size rfl 27 (frA a) (0, 0) _ (unhide F1) Try.underlying27 rfl (sizeFr (unhide HA)) ?_)
  rw [frZ_eq]
  generalize (((w.alloc (.cells (frA a) 27)).alloc (.cells (frA b) 27)).alloc (.cells (frA frZ) 27)) = W at F1 F2 F3 HB0 ⊢
  refine (refCheckF_any ao cap T.length a _ (unhide HA)).mono ?_
  rintro e W21 ⟨rfl, hB22⟩
  have F23 := hide ((unhide F1).below hB22 (unhide F1).lt)
  have F24 := hide ((unhide F2).below hB22 (unhide F2).lt)
  have F25 := hide ((unhide F3).below hB22 (unhide F3).lt)
  have HB26 := hide ((unhide HB0).trans (hB22.mono (unhide HB0).size))
  clear hB22 F1 F2 F3 HB0 W
  by_cases ea : chkF T.length a = 0
  rotate_left
  · have HR : Hid (mergeF T a b = (frZ, chkF T.length a)) := hide (by unfold mergeF; rw [if_pos ea])
    generalize chkF T.length a = er at ea HR ⊢
    have b1 := bne_t ea
    clear ea
    go_wp2_with (refine wpList_store_row rfl 27 _ _ rfl (w.heap.size + 2) (frA frZ) rfl rfl 27 (frA frZ) (unhide F25) (sizeFr frZ_ok) (sizeEq frZ_ok frZ_ok) (frA_one _) ?_)
    exact bodyPost_ret (v := frTwo (frZ, er)) (results_fr2 rfl _ _ (w.heap.size + 2) frZ er frZ_ok rfl rfl ((unhide F25).row _)) rfl ⟨by rw [unhide HR], below_setRow' (unhide HB26) (by omega) _⟩
  have EA := hide ea
  rw [ea]
  clear ea
  go_wp2_with (refine wpList_load_row rfl 27 _ rfl (w.heap.size + 1) rfl 27 (frA b) (0, 0) _ (unhide F24) Try.underlying27 rfl (sizeFr (unhide HB)) ?_)
  refine (refCheckF_any ao cap T.length b _ (unhide HB)).mono ?_
  rintro e W27 ⟨rfl, hB28⟩
  have F29 := hide ((unhide F23).below hB28 (unhide F23).lt)
  have F30 := hide ((unhide F24).below hB28 (unhide F24).lt)
  have F31 := hide ((unhide F25).below hB28 (unhide F25).lt)
  have HB32 := hide ((unhide HB26).trans (hB28.mono (unhide HB26).size))
  clear hB28 F23 F24 F25 HB26 W21
  by_cases eb : chkF T.length b = 0
  rotate_left
  · have HR : Hid (mergeF T a b = (frZ, chkF T.length b)) := hide (by unfold mergeF; rw [if_neg (by rw [unhide EA]; simp), if_pos eb])
    generalize chkF T.length b = er at eb HR ⊢
    have b1 := bne_t eb
    clear eb
    go_wp2_with (refine wpList_store_row rfl 27 _ _ rfl (w.heap.size + 2) (frA frZ) rfl rfl 27 (frA frZ) (unhide F31) (sizeFr frZ_ok) (sizeEq frZ_ok frZ_ok) (frA_one _) ?_)
    exact bodyPost_ret (v := frTwo (frZ, er)) (results_fr2 rfl _ _ (w.heap.size + 2) frZ er frZ_ok rfl rfl ((unhide F31).row _)) rfl ⟨by rw [unhide HR], below_setRow' (unhide HB32) (by omega) _⟩
  have EB := hide eb
  rw [eb]
  clear eb
  have c0a := (unhide F29).lo
  have c1a := (unhide F29).he
  have c0b := (unhide F30).lo
  have c1b := (unhide F30).he
  by_cases sl : a.lo = b.lo
  rotate_left
  · have HR : Hid (mergeF T a b = (frZ, 32)) := hide (by unfold mergeF; rw [if_neg (by rw [unhide EA]; simp), if_neg (by rw [unhide EB]; simp), if_pos (Or.inl sl)])
    have b1 := bne_t sl
    clear sl
    go_wp2_with (refine wpList_store_row rfl 27 _ _ rfl (w.heap.size + 2) (frA frZ) rfl rfl 27 (frA frZ) (unhide F31) (sizeFr frZ_ok) (sizeEq frZ_ok frZ_ok) (frA_one _) ?_)
    exact bodyPost_ret (v := frTwo (frZ, 32)) (results_fr2 rfl _ _ (w.heap.size + 2) frZ 32 frZ_ok rfl rfl ((unhide F31).row _)) rfl ⟨by rw [unhide HR], below_setRow' (unhide HB32) (by omega) _⟩
  by_cases sh : a.he = b.he
  rotate_left
  · have HR : Hid (mergeF T a b = (frZ, 32)) := hide (by unfold mergeF; rw [if_neg (by rw [unhide EA]; simp), if_neg (by rw [unhide EB]; simp), if_pos (Or.inr sh)])
    have b1 := bne_f sl
    have b2 := bne_t sh
    clear sl sh
    go_wp2_with (refine wpList_store_row rfl 27 _ _ rfl (w.heap.size + 2) (frA frZ) rfl rfl 27 (frA frZ) (unhide F31) (sizeFr frZ_ok) (sizeEq frZ_ok frZ_ok) (frA_one _) ?_)
    exact bodyPost_ret (v := frTwo (frZ, 32)) (results_fr2 rfl _ _ (w.heap.size + 2) frZ 32 frZ_ok rfl rfl ((unhide F31).row _)) rfl ⟨by rw [unhide HR], below_setRow' (unhide HB32) (by omega) _⟩
  have HR : Hid (mergeF T a b = (⟨a.lo, a.he, mergeTo T a.sl b.sl (nF a)⟩, 0)) := hide (by unfold mergeF; rw [if_neg (by rw [unhide EA]; simp), if_neg (by rw [unhide EB]; simp), if_neg (by simp [sl, sh])])
  have b1 := bne_f sl
  have b2 := bne_f sh
  clear sl sh
  have HS := hide (check_good (unhide EA)).1
  obtain ⟨h0, h1, h2, h3⟩ := shapeD_iff.1 (unhide HS)
  obtain ⟨m, hm⟩ : ∃ m : Nat, a.lo + a.he = (m : Int) := ⟨nF a, by unfold nF; omega⟩
  have hm24 : m ≤ 24 := by omega
  have HN : Hid (nF a = m) := hide (by unfold nF; omega)
  have HM0 := hide hm
  clear hm
  go_wp2
  clear c0a c1a c0b c1b b1 b2
  go_loopw [10] (fun i wr => ∃ k : Nat, k ≤ m ∧ i = .int .i64 (k : Int) ∧ Hid (FAt wr w.heap.size ⟨a.lo, a.he, mergeTo T a.sl b.sl k⟩) ∧ Hid (FAt wr (w.heap.size + 1) b) ∧ Hid (FAt wr (w.heap.size + 2) frZ) ∧ Hid (Below w.heap.size w wr)) (fun i _ => m - (intOf i).toNat)
  case atStart => exact ⟨0, by omega, rfl, F29, F30, F31, HB32⟩
  case round =>
    clear F29 F30 F31 HB32 W27
    obtain ⟨k, hk, rfl, FA, FB, FZ, HW⟩ := hrel
    have c0 : wr.cell? ⟨w.heap.size, 0, none⟩ = some (.int .i64 a.lo) := (unhide FA).lo
    have c1 : wr.cell? ⟨w.heap.size, 1, none⟩ = some (.int .i64 a.he) := (unhide FA).he
    by_cases hlt : k < m
    · have j1 : ((k : Nat) : Int) < a.lo + a.he := by rw [unhide HM0]; omega
      have j2 : ((k : Nat) : Int) < 24 := by omega
      have la : k < a.sl.length := by rw [(unhide HA).len]; omega
      have lb : k < b.sl.length := by rw [(unhide HB).len]; omega
      have xa := (unhide FA).slot ((mergeTo_same T a.sl b.sl k k (Nat.le_refl _)).trans (List.getElem?_eq_getElem la))
      have xb := (unhide FB).slot (List.getElem?_eq_getElem lb)
      have a256 := (unhide HA).byte _ (List.getElem_mem la)
      have b256 := (unhide HB).byte _ (List.getElem_mem lb)
      have HM : Hid (mergeTo T a.sl b.sl (k + 1) = (mergeTo T a.sl b.sl k).set k (mergeD T a.sl[k] b.sl[k])) := hide (by
        show (mergeTo T a.sl b.sl k).set k (mergeD T (a.sl.getD k 0) (b.sl.getD k 0)) = _
        rw [List.getD_eq_getElem?_getD, List.getD_eq_getElem?_getD, List.getElem?_eq_getElem la, List.getElem?_eq_getElem lb]
        rfl)
      generalize a.sl[k] = x at xa a256 HM
      generalize b.sl[k] = y at xb b256 HM
      have oa := (unhide FA).lt
      have ob := (unhide FB).lt
      clear la lb
      go_wp2
      clear c0 c1
      have TD : Hid (TabAt wr.drew ao T) := hide ((unhide HT).below ((unhide HW).trans ⟨rfl, rfl, rfl, Nat.le_refl _, fun _ _ => rfl⟩))
      refine wp_region_any (by kernel_rfl) ?_
      change wpAny _ _ _ _ _ _ _ (World.drew _)
      refine wpAny_take (i := 0) (v := .int .i64 (k : Int)) rfl (by kernel_rfl) (by kernel_rfl) (by kernel_rfl) (fun _ _ _ h => h) (Or.inl ⟨by rfl, fun w => by go_simp⟩) ?_
      refine wpAny_take (i := 1) (v := .slice ao T.length cap) rfl (by kernel_rfl) (by kernel_rfl) (by kernel_rfl) (fun _ _ _ h => h) (Or.inl ⟨by rfl, fun w => by go_simp⟩) ?_
      refine wpAny_take (i := 2) (v := .int .i64 (k : Int)) rfl (by kernel_rfl) (by kernel_rfl) (by kernel_rfl) (fun _ _ _ h => h) (Or.inl ⟨by rfl, fun w => by go_simp⟩) ?_
      refine wpAny_take (i := 3) (v := .pointer (some ⟨w.heap.size, 2, none⟩)) rfl (by kernel_rfl) (by kernel_rfl) (by kernel_rfl) (fun _ _ _ h => h) (Or.inl ⟨by rfl, fun w => by go_simp⟩) ?_
      refine wpAny_take (i := 4) (v := .pointer (some ⟨w.heap.size, 2 + k, none⟩)) rfl (by kernel_rfl) (by kernel_rfl) (by kernel_rfl) (fun _ _ _ h => h) (Or.inl ⟨by rfl, fun w => by go_simp⟩) ?_
      refine wpAny_take (i := 6) (v := .int .i64 (k : Int)) rfl (by kernel_rfl) (by kernel_rfl) (by kernel_rfl) (fun _ _ _ h => h) (Or.inl ⟨by rfl, fun w => by go_simp⟩) ?_
      refine wpAny_take (i := 7) (v := .pointer (some ⟨w.heap.size + 1, 2, none⟩)) rfl (by kernel_rfl) (by kernel_rfl) (by kernel_rfl) (fun _ _ _ h => h) (Or.inl ⟨by rfl, fun w => by go_simp⟩) ?_
      refine wpAny_take (i := 8) (v := .pointer (some ⟨w.heap.size + 1, 2 + k, none⟩)) rfl (by kernel_rfl) (by kernel_rfl) (by kernel_rfl) (fun _ _ _ h => h) (Or.inl ⟨by rfl, fun w => by go_simp⟩) ?_
      refine wpAny_take (i := 11) (v := .pointer (some ⟨w.heap.size, 2, none⟩)) rfl (by kernel_rfl) (by kernel_rfl) (by kernel_rfl) (fun _ _ _ h => h) (Or.inl ⟨by rfl, fun w => by go_simp⟩) ?_
      refine wpAny_ready (rs := [5, 9]) (by kernel_rfl) (by simp) ?_
      refine AllReady.cons rfl (fun K hK => ?_) (AllReady.cons rfl (fun K hK => ?_) AllReady.nil)
      · go_simp
        refine hK _ _ ?_
        clear hK K
        refine wpAny_ready (rs := [9]) (by kernel_rfl) (by simp) ?_
        refine AllReady.cons rfl (fun K hK => ?_) AllReady.nil
        go_simp
        refine hK _ _ ?_
        clear hK K
        refine wpAny_ready (rs := [10]) (by kernel_rfl) (by simp) ?_
        refine AllReady.cons rfl (fun K hK => ?_) AllReady.nil
        go_simp
        go_wp2_with (go_at_call 41; refine (refMerge_any ao cap T x y _ (unhide TD) (unhide HZ) (unhide HMD) a256 b256).mono ?_; rintro e W2 ⟨rfl, hB2'⟩)
        have hB2 : Below wr.heap.size wr W2 := (show Below wr.heap.size wr wr.drew from ⟨rfl, rfl, rfl, Nat.le_refl _, fun _ _ => rfl⟩).trans hB2'
        clear hB2'
        have FA2 := hide ((unhide FA).below hB2 oa)
        have FB2 := hide ((unhide FB).below hB2 ob)
        have FZ2 := hide ((unhide FZ).below hB2 (unhide FZ).lt)
        have HW2 := hide ((unhide HW).trans (hB2.mono (unhide HW).size))
        have xa2 : W2.cell? ⟨w.heap.size, 2 + k, none⟩ = some (.int .u8 (x : Int)) := (hB2.cell (p := ⟨w.heap.size, 2 + k, none⟩) oa).trans xa
        have za2 := (unhide FA2).frozen (2 + k)
        have R2 := hide ((unhide FB2).cellOther ⟨w.heap.size, 2 + k, none⟩ (.int .u8 ((mergeD T x y : Nat) : Int)) (by simp))
        have R3 := hide ((unhide FZ2).cellOther ⟨w.heap.size, 2 + k, none⟩ (.int .u8 ((mergeD T x y : Nat) : Int)) (by simp))
        have R1 : Hid (FAt (W2.setCell ⟨w.heap.size, 2 + k, none⟩ (.int .u8 ((mergeD T x y : Nat) : Int))) w.heap.size ⟨a.lo, a.he, mergeTo T a.sl b.sl (k + 1)⟩) := hide (by rw [unhide HM]; exact (unhide FA2).set k (mergeD T x y))
        have HW3 := hide ((unhide HW2).setCell (p := ⟨w.heap.size, 2 + k, none⟩) (Nat.le_refl _) (.int .u8 ((mergeD T x y : Nat) : Int)))
        refine wpAny_take (i := 12) (v := .pointer (some ⟨w.heap.size, 2 + k, none⟩)) rfl (by kernel_rfl) (by kernel_rfl) (by kernel_rfl) (fun _ _ _ h => h) (Or.inl ⟨by rfl, fun w => by go_simp⟩) ?_
        refine wpAny_ready (rs := [13]) (by kernel_rfl) (by simp) ?_
        refine AllReady.cons rfl (fun K hK => ?_) AllReady.nil
        go_simp
        refine hK _ _ ?_
        clear hK K
        refine wpAny_done (by kernel_rfl) ?_ _
        clear xa2 za2 xa xb FA FB FZ HW FA2 FB2 FZ2 HW2 TD hB2 oa ob HM
        go_wp2
        go_roundw
        case rel => exact ⟨k + 1, by omega, by go_num, R1, R2, R3, HW3⟩
        case measure => simp [intOf]; omega
      · go_simp
        refine hK _ _ ?_
        clear hK K
        refine wpAny_ready (rs := [5]) (by kernel_rfl) (by simp) ?_
        refine AllReady.cons rfl (fun K hK => ?_) AllReady.nil
        go_simp
        refine hK _ _ ?_
        clear hK K
        refine wpAny_ready (rs := [10]) (by kernel_rfl) (by simp) ?_
        refine AllReady.cons rfl (fun K hK => ?_) AllReady.nil
        go_simp
        go_wp2_with (go_at_call 41; refine (refMerge_any ao cap T x y _ (unhide TD) (unhide HZ) (unhide HMD) a256 b256).mono ?_; rintro e W2 ⟨rfl, hB2'⟩)
        have hB2 : Below wr.heap.size wr W2 := (show Below wr.heap.size wr wr.drew from ⟨rfl, rfl, rfl, Nat.le_refl _, fun _ _ => rfl⟩).trans hB2'
        clear hB2'
        have FA2 := hide ((unhide FA).below hB2 oa)
        have FB2 := hide ((unhide FB).below hB2 ob)
        have FZ2 := hide ((unhide FZ).below hB2 (unhide FZ).lt)
        have HW2 := hide ((unhide HW).trans (hB2.mono (unhide HW).size))
        have xa2 : W2.cell? ⟨w.heap.size, 2 + k, none⟩ = some (.int .u8 (x : Int)) := (hB2.cell (p := ⟨w.heap.size, 2 + k, none⟩) oa).trans xa
        have za2 := (unhide FA2).frozen (2 + k)
        have R2 := hide ((unhide FB2).cellOther ⟨w.heap.size, 2 + k, none⟩ (.int .u8 ((mergeD T x y : Nat) : Int)) (by simp))
        have R3 := hide ((unhide FZ2).cellOther ⟨w.heap.size, 2 + k, none⟩ (.int .u8 ((mergeD T x y : Nat) : Int)) (by simp))
        have R1 : Hid (FAt (W2.setCell ⟨w.heap.size, 2 + k, none⟩ (.int .u8 ((mergeD T x y : Nat) : Int))) w.heap.size ⟨a.lo, a.he, mergeTo T a.sl b.sl (k + 1)⟩) := hide (by rw [unhide HM]; exact (unhide FA2).set k (mergeD T x y))
        have HW3 := hide ((unhide HW2).setCell (p := ⟨w.heap.size, 2 + k, none⟩) (Nat.le_refl _) (.int .u8 ((mergeD T x y : Nat) : Int)))
        refine wpAny_take (i := 12) (v := .pointer (some ⟨w.heap.size, 2 + k, none⟩)) rfl (by kernel_rfl) (by kernel_rfl) (by kernel_rfl) (fun _ _ _ h => h) (Or.inl ⟨by rfl, fun w => by go_simp⟩) ?_
        refine wpAny_ready (rs := [13]) (by kernel_rfl) (by simp) ?_
        refine AllReady.cons rfl (fun K hK => ?_) AllReady.nil
        go_simp
        refine hK _ _ ?_
        clear hK K
        refine wpAny_done (by kernel_rfl) ?_ _
        clear xa2 za2 xa xb FA FB FZ HW FA2 FB2 FZ2 HW2 TD hB2 oa ob HM
        go_wp2
        go_roundw
        case rel => exact ⟨k + 1, by omega, by go_num, R1, R2, R3, HW3⟩
        case measure => simp [intOf]; omega
    · have j1 : ¬ ((k : Nat) : Int) < a.lo + a.he := by rw [unhide HM0]; omega
      have HE : Hid (({ lo := a.lo, he := a.he, sl := mergeTo T a.sl b.sl k } : Fr) = ⟨a.lo, a.he, mergeTo T a.sl b.sl (nF a)⟩) := hide (by rw [unhide HN, show k = m from by omega])
      rw [unhide HE] at FA
      have HO := hide (mergeTo_ok (T := T) (unhide HA) (unhide HB) (nF a))
      generalize (Fr.mk a.lo a.he (mergeTo T a.sl b.sl (nF a))) = F at FA HO HR HE
      go_wp2_with (first | (refine wpList_load_row rfl 27 _ rfl w.heap.size rfl 27 (frA F) (0, 0) _ (unhide FA) Try.underlying27 rfl (sizeFr (unhide HO)) ?_) | (refine wpList_store_row rfl 27 _ _ rfl (w.heap.size + 2) (frA F) rfl rfl 27 (frA frZ) (unhide FZ) (sizeFr (unhide HO)) (sizeEq frZ_ok (unhide HO)) (frA_one _) ?_))
      exact bodyPost_ret (v := frTwo (F, 0)) (results_fr2 rfl _ _ (w.heap.size + 2) F 0 (unhide HO) rfl rfl ((unhide FZ).row _)) rfl ⟨by rw [unhide HR], below_setRow' (unhide HW) (by omega) _⟩
end Go.Proofs.Ytihkodfcgfnjoaa
