/-
  The walk of the law StepHeights, of what the document's apply answers: it returns true, and writes nothing that was there.
-/
import Derived.Test.YtkodmpcnndbngaaGreatDoorKSt29
import Derived.Test.YtkodmpcnndbngaaGreatDoorShell
namespace Go.Proofs.YtkodmpcnndbngaaGreatDoor
open Go.RowKit
set_option maxRecDepth 20000

/-- The boxes of what is handed in. -/
structure H3 (w W : World) (s : Sp) : Prop where
  e : EBx W w.heap.size (.slice s.ao s.T.length s.cap) (.slice s.so s.L.length s.sc) s.fn
  f : FAt W (w.heap.size + 1) s.f
  i : IBx W (w.heap.size + 2) s
  bel : Below w.heap.size w W
theorem H3.below {w W W' : World} {s : Sp} (h : H3 w W s) (hb : Below W.heap.size W W') : H3 w W' s :=
  ⟨(hb.block _ h.e.lt).trans h.e, h.f.below hb h.f.lt, (hb.block _ h.i.lt).trans h.i, h.bel.trans (hb.mono h.bel.size)⟩
theorem H3.top {w W : World} {s : Sp} (h : H3 w W s) : w.heap.size + 2 < W.heap.size := h.i.lt
theorem H3.row {w W : World} {s : Sp} (h : H3 w W s) {g : Nat} (hg : w.heap.size + 2 < g) (cs : Array Value) : H3 w (W.setRow g cs) s :=
  ⟨(setRow_other _ _ _ _ (by omega)).trans h.e, (setRow_other _ _ _ _ (by omega)).trans h.f, (setRow_other _ _ _ _ (by omega)).trans h.i, below_setRow' h.bel (by omega) _⟩
theorem H3.new (w : World) (s : Sp) : H3 w (((w.alloc (.cells #[.slice s.ao s.T.length s.cap, .slice s.so s.L.length s.sc, .int .i64 s.fn] 25)).alloc (.cells (frA s.f) 29)).alloc (.cells #[.int .i64 s.p, .int .u8 (s.op : Int), .int .i64 s.a, .int .i64 s.b] 31)) s := by
  have b1 := Bf.new w s
  have al3 := (Below.refl _ ((w.alloc (.cells #[.slice s.ao s.T.length s.cap, .slice s.so s.L.length s.sc, .int .i64 s.fn] 25)).alloc (.cells (frA s.f) 29))).alloc (Nat.le_refl _) (.cells #[.int .i64 s.p, .int .u8 (s.op : Int), .int .i64 s.a, .int .i64 s.b] 31)
  have n3 := heap_alloc_new ((w.alloc (.cells #[.slice s.ao s.T.length s.cap, .slice s.so s.L.length s.sc, .int .i64 s.fn] 25)).alloc (.cells (frA s.f) 29)) (.cells #[.int .i64 s.p, .int .u8 (s.op : Int), .int .i64 s.a, .int .i64 s.b] 31)
  have hsz : ((w.alloc (.cells #[.slice s.ao s.T.length s.cap, .slice s.so s.L.length s.sc, .int .i64 s.fn] 25)).alloc (.cells (frA s.f) 29)).heap.size = w.heap.size + 2 := by simp
  rw [hsz] at n3
  have HX := b1.below al3
  exact ⟨HX.e, HX.f, n3, HX.bel⟩
set_option maxRecDepth 20000 in
set_option maxHeartbeats 8000000 in
theorem stepHeights_in {w : World} (s : Sp) (hA : WordsAt w ∧ WidAt w) (hT : TabAt w s.ao s.T) (hz : s.T.length * 48 ≤ 140737488351232) (hL : SgsAt w s.so s.L) (hzl : s.L.length * 32 ≤ 140737488351232) (hf : FrOk s.f) (ho : s.op < 256) (ha : -9223372036854775808 ≤ s.a ∧ s.a ≤ 9223372036854775807) (hb : -9223372036854775808 ≤ s.b ∧ s.b ≤ 9223372036854775807) (hra : RefA s) :
    Calls Tryz.prog 5 #[.agg #[.slice s.ao s.T.length s.cap, .slice s.so s.L.length s.sc, .int .i64 s.fn], .agg (frA s.f), .agg #[.int .i64 s.p, .int .u8 (s.op : Int), .int .i64 s.a, .int .i64 s.b]] w fun e w' => e = .returned (.bool true) ∧ Below w.heap.size w w' := by
  have HX := hide (H3.new w s)
  have HEV := hide (fun W (hB : Below w.heap.size w W) => envC s W (hT.below hB) hz (hL.below hB) hzl (hA.1.below hB) (hA.2.below hB) ho ha hb)
  have HRP := hide (fun W (hB : Below w.heap.size w W) => refApply_of s hra W (hT.below hB) hz (hL.below hB) hzl hf (hA.2.below hB) ho ha hb)
  have HCH := hide (fun W => refCheckF_any s.ao s.cap s.T.length (applyD s).1 W (applyD_fr s hf))
  have hF := applyD_fr s hf
  have HEN := hide (heights_end s hf)
  have HFO := hide hf
  have HLO : Hid ((-9223372036854775808 ≤ s.f.lo ∧ s.f.lo ≤ 9223372036854775807) ∧ (-9223372036854775808 ≤ s.f.he ∧ s.f.he ≤ 9223372036854775807)) := hide ⟨hf.lo, hf.he⟩
  have HTW : Hid (frTwo (applyD s) = .tuple #[.agg (frA (applyD s).1), .int .i64 (applyD s).2]) := hide rfl
  rw [unhide HTW] at HRP
  clear hT hL hA ho ha hb hz hzl hra HTW
  obtain ⟨F, HF⟩ : ∃ F, Hid ((applyD s).1 = F) := ⟨_, hide rfl⟩
  obtain ⟨er, HER⟩ : ∃ er, Hid ((applyD s).2 = er) := ⟨_, hide rfl⟩
  rw [unhide HF, unhide HER] at HRP HEN
  rw [unhide HF] at HCH hF
  go_enter Tryz.func5, Tryz.ntmps5
  go_upto_region 1 with fail
  generalize (((w.alloc (.cells #[.slice s.ao s.T.length s.cap, .slice s.so s.L.length s.sc, .int .i64 s.fn] 25)).alloc (.cells (frA s.f) 29)).alloc (.cells #[.int .i64 s.p, .int .u8 (s.op : Int), .int .i64 s.a, .int .i64 s.b] 31)) = W1 at HX ⊢
  have HX201 := hide ((unhide HX).below (below_drew W1 1))
  refine wp_region_held_drew (S := fun w' => H3 w w' s) (by kernel_rfl) (unhide HX201) (fun hS203 => ?_)
  clear HX
  generalize hWd : W1.drewN 1 = W202 at HX201
  change W1.drew = W202 at hWd
  rw [hWd] at hS203 ⊢
  clear hWd W1
  refine wpAnyH_take (i := 0) (v := .agg #[.slice s.ao s.T.length s.cap, .slice s.so s.L.length s.sc, .int .i64 s.fn]) rfl (by kernel_rfl) (by kernel_rfl) (by kernel_rfl) (fun _ _ _ h => h) (yieldsIf_load_mid (by rfl) 25 _ rfl w.heap.size 0 rfl _ _ (fun _ h => box_range (h.e)) Tryz.underlying25 rfl (by kernel_rfl)) hS203 ?_
  refine wpAnyH_take (i := 2) (v := .agg (frA s.f)) rfl (by kernel_rfl) (by kernel_rfl) (by kernel_rfl) (fun _ _ _ h => h) (yieldsIf_load_fr (by rfl) _ rfl (w.heap.size + 1) rfl s.f (unhide HFO) (fun _ h => h.f)) hS203 ?_
  refine wpAnyH_take (i := 3) (v := .agg #[.int .i64 s.p, .int .u8 (s.op : Int), .int .i64 s.a, .int .i64 s.b]) rfl (by kernel_rfl) (by kernel_rfl) (by kernel_rfl) (fun _ _ _ h => h) (yieldsIf_load_mid (by rfl) 31 _ rfl (w.heap.size + 2) 0 rfl _ _ (fun _ h => box_range (h.i)) Tryz.underlying31 rfl (by kernel_rfl)) hS203 ?_
  refine wpAnyH_ready (rs := [1, 8]) (by kernel_rfl) (by simp) ?_
  refine (AllReadyH.cons rfl (fun K hK => ?_) (AllReadyH.cons rfl (fun K hK => ?_) AllReadyH.nil))
  · go_simp
    go_wp2_with (go_at_call 6; refine (unhide HEV W202 (unhide HX201).bel).mono ?_; rintro e W204 ⟨⟨v_x, rfl, hv⟩, hB205⟩)
    have HX206 := hide ((unhide HX201).below hB205)
    have HV_x := hide hv
    clear hv
    refine hK.out _ _ (unhide HX206) (fun hS207 => ?_)
    clear hK K hS203 HX201 hB205 W202
    refine wpAnyH_ready (rs := [4, 8]) (by kernel_rfl) (by simp) ?_
    refine (AllReadyH.cons rfl (fun K hK => ?_) (AllReadyH.cons rfl (fun K hK => ?_) AllReadyH.nil))
    · have HC_x := (by
            have h := (unhide HV_x).apply W204 s.f (Below.refl _ _) (unhide HFO)
            rw [show ({ s with f := s.f } : Sp) = s from rfl] at h
            rw [show frTwo (applyD s) = .tuple #[.agg (frA (applyD s).1), .int .i64 (applyD s).2] from rfl, unhide HF, unhide HER] at h
            exact hide h)
      go_simp
      go_wp2_with (go_at_call 7; refine (unhide HC_x).mono ?_; rintro e W208 ⟨rfl, hB209⟩)
      have HX210 := hide ((unhide HX206).below hB209)
      have HY211 := hide ((unhide HV_x).below hB209)
      clear HY211 HC_x
      refine hK.out _ _ (unhide HX210) (fun hS212 => ?_)
      clear hK K hS207 HX206 HV_x hB209 W204
      refine wpAnyH_take (i := 5) (v := .tuple #[.agg (frA F), .int .i64 er]) rfl (by kernel_rfl) (by kernel_rfl) (by kernel_rfl) (fun _ _ _ h => h) (Or.inl ⟨by rfl, fun w _ => by go_simp⟩) hS212 ?_
      refine wpAnyH_take (i := 6) (v := .agg (frA F)) rfl (by kernel_rfl) (by kernel_rfl) (by kernel_rfl) (fun _ _ _ h => h) (Or.inl ⟨by rfl, fun w _ => by go_simp⟩) hS212 ?_
      refine wpAnyH_take (i := 7) (v := .int .i64 er) rfl (by kernel_rfl) (by kernel_rfl) (by kernel_rfl) (fun _ _ _ h => h) (Or.inl ⟨by rfl, fun w _ => by go_simp⟩) hS212 ?_
      refine wpAnyH_ready (rs := [8]) (by kernel_rfl) (by simp) ?_
      refine AllReadyH.cons rfl (fun K hK => ?_) AllReadyH.nil
      go_simp
      rw [frZ_eq]
      have hal : Below W208.heap.size W208 (W208.alloc (.cells (frA frZ) 29)) := (Below.refl _ _).alloc (Nat.le_refl _) _
      have gt_x : w.heap.size + 2 < W208.heap.size := (unhide HX210).top
      have HX213 := hide ((unhide HX210).below hal)
      have HY214 : Hid (FAt (W208.alloc (.cells (frA frZ) 29)) W208.heap.size frZ) := hide (FAt.new W208 frZ)
      refine hK.out _ _ (unhide HX213) (fun hS215 => ?_)
      clear hK K hS212 HX210 hal
      generalize (W208.alloc (.cells (frA frZ) 29)) = W216 at HX213 hS215 HY214 ⊢
      generalize W208.heap.size = g_x at HY214 gt_x  ⊢
      clear W208
      refine wpAnyH_ready (rs := [9]) (by kernel_rfl) (by simp) ?_
      refine AllReadyH.cons rfl (fun K hK => ?_) AllReadyH.nil
      rw [if_pos (by rfl)]
      refine wp_store_row 29 _ _ rfl g_x (frA F) rfl rfl 29 (frA frZ) (unhide HY214) (sizeFr hF) (sizeEq frZ_ok hF) (frA_one _) ?_
      have HX217 := hide ((unhide HX213).row (g := g_x) (by omega) (frA F))
      have HY218 := hide ((unhide HY214).row F)
      refine hK.out _ _ (unhide HX217) (fun hS219 => ?_)
      clear hK K hS215 HX213 HY214 
      generalize (W216.setRow g_x (frA F)) = W220 at HX217 hS219 HY218 ⊢
      clear W216
      refine wpAnyH_ready (rs := [10]) (by kernel_rfl) (by simp) ?_
      refine AllReadyH.cons rfl (fun K hK => ?_) AllReadyH.nil
      go_simp
      refine hK.out _ _ (unhide HX217) (fun hS219' => ?_)
      clear hK K
      clear hS219
      refine wpAnyH_done (by kernel_rfl) ?_ _
      clear hS219'
      go_upto_region 2 with fail
      refine wp_region_lit ?_
      refine wpList_load_rowG (by kernel_rfl) 25 (.tmp 3) rfl w.heap.size rfl 25 #[.slice s.ao s.T.length s.cap, .slice s.so s.L.length s.sc, .int .i64 s.fn] (0, 0) _ (unhide HX217).e Tryz.underlying25 rfl (by kernel_rfl) ?_
      refine wpList_load_row rfl 29 (.tmp 4) rfl (w.heap.size + 1) rfl 29 (frA s.f) (0, 0) _ (unhide HX217).f Tryz.underlying29 rfl (sizeFr (unhide HFO)) ?_
      refine wpList_load_rowG (by kernel_rfl) 31 (.tmp 5) rfl (w.heap.size + 2) rfl 31 #[.int .i64 s.p, .int .u8 (s.op : Int), .int .i64 s.a, .int .i64 s.b] (0, 0) _ (unhide HX217).i Tryz.underlying31 rfl (by kernel_rfl) ?_
      go_simp
      go_wp2_with fail
      refine (unhide HRP W220 (unhide HX217).bel).mono ?_
      rintro e W90 ⟨rfl, hB90⟩
      have HX221 := hide ((unhide HX217).below hB90)
      have HY222 := hide ((unhide HY218).below hB90 (unhide HY218).lt)
      have HZ90 := hide (FAt.new W90 frZ)
      clear hB90 HX217 HY218 W220
      go_upto_region 3 with (refine wpList_store_rowN rfl 29 (.tmp 9) (.tmp 28) rfl W90.heap.size (frA F) rfl rfl 29 (frA frZ) (unhide HZ90) (sizeFr hF) (sizeEq frZ_ok hF) (frA_one _) (fun W91 hN => ?_))
      all_goals (
        have hBs : Below W90.heap.size W90 W91 := by rw [← hN]; exact below_setRow' ((Below.refl W90.heap.size W90).alloc (Nat.le_refl _) _) (Nat.le_refl _) _
        have HX92 := hide ((unhide HX221).below hBs)
        have HY92 := hide ((unhide HY222).below hBs (unhide HY222).lt)
        clear hN hBs HZ90 HX221 HY222
        generalize W90.heap.size = g90
        clear W90
        by_cases h0 : er = 0
        rotate_left
        · have q1 : (er != 0) = true := bne_t h0
          have q2 : (er == er) = true := by simp
          clear h0
          go_wp2
          go_ret
          exact ⟨rfl, (unhide HX92).bel⟩
        obtain ⟨c0, c1, c2, c3, c4, c5, c6, c7⟩ := unhide HEN h0
        obtain ⟨tn, HTN⟩ : ∃ tn, Hid ((cntD { s with f := frZ }).1 = tn) := ⟨_, hide rfl⟩
        obtain ⟨gn, HGN⟩ : ∃ gn, Hid ((cntD { s with f := frZ }).2.1 = gn) := ⟨_, hide rfl⟩
        have HC0 := hide c0
        rw [unhide HTN] at c1 c4
        rw [unhide HGN] at c1 c5
        have HCK := hide c3
        rw [h0]
        clear c0 c3 HEN HRP h0 HER
        go_upto_region 5 with fail
        have HX223 := hide ((unhide HX92).below (below_drew W91 1))
        have HY226 := hide ((unhide HY92).below (below_drew W91 1) (unhide HY92).lt)
        refine wp_region_held_drew (S := fun w' => H3 w w' s) (by kernel_rfl) (unhide HX223) (fun hS225 => ?_)
        clear HX92 HY92
        generalize hWd : W91.drewN 1 = W224 at HX223 HY226
        change W91.drew = W224 at hWd
        rw [hWd] at hS225 ⊢
        clear hWd W91
        refine wpAnyH_take (i := 0) (v := .agg #[.slice s.ao s.T.length s.cap, .slice s.so s.L.length s.sc, .int .i64 s.fn]) rfl (by kernel_rfl) (by kernel_rfl) (by kernel_rfl) (fun _ _ _ h => h) (yieldsIf_load_mid (by rfl) 25 _ rfl w.heap.size 0 rfl _ _ (fun _ h => box_range (h.e)) Tryz.underlying25 rfl (by kernel_rfl)) hS225 ?_
        refine wpAnyH_take (i := 2) (v := .agg #[.int .i64 s.p, .int .u8 (s.op : Int), .int .i64 s.a, .int .i64 s.b]) rfl (by kernel_rfl) (by kernel_rfl) (by kernel_rfl) (fun _ _ _ h => h) (yieldsIf_load_mid (by rfl) 31 _ rfl (w.heap.size + 2) 0 rfl _ _ (fun _ h => box_range (h.i)) Tryz.underlying31 rfl (by kernel_rfl)) hS225 ?_
        refine wpAnyH_ready (rs := [1]) (by kernel_rfl) (by simp) ?_
        refine AllReadyH.cons rfl (fun K hK => ?_) AllReadyH.nil
        go_simp
        go_wp2_with (go_at_call 6; refine (unhide HEV W224 (unhide HX223).bel).mono ?_; rintro e W227 ⟨⟨v_t, rfl, hv⟩, hB228⟩)
        have HX229 := hide ((unhide HX223).below hB228)
        have HY230 := hide ((unhide HY226).below hB228 (unhide HY226).lt)
        have HV_t := hide hv
        clear hv
        refine hK.out _ _ (unhide HX229) (fun hS231 => ?_)
        clear hK K hS225 HX223 HY226 hB228 W224
        have HC_t := (by
              have h := (unhide HV_t).takes W227 (Below.refl _ _)
              rw [unhide HTN, unhide HC0] at h
              exact hide h)
        refine wpAnyH_ready (rs := [3]) (by kernel_rfl) (by simp) ?_
        refine AllReadyH.cons rfl (fun K hK => ?_) AllReadyH.nil
        go_simp
        go_wp2_with (go_at_call 11; refine (unhide HC_t).mono ?_; rintro e W232 ⟨rfl, hB233⟩)
        have HX234 := hide ((unhide HX229).below hB233)
        have HY235 := hide ((unhide HY230).below hB233 (unhide HY230).lt)
        have HY236 := hide ((unhide HV_t).below hB233)
        clear HY236 HC_t
        refine hK.out _ _ (unhide HX234) (fun hS237 => ?_)
        clear hK K hS231 HX229 HY230 HV_t hB233 W227
        refine wpAnyH_take (i := 4) (v := .tuple #[.int .i64 (tn : Int), .int .i64 0]) rfl (by kernel_rfl) (by kernel_rfl) (by kernel_rfl) (fun _ _ _ h => h) (Or.inl ⟨by rfl, fun w _ => by go_simp⟩) hS237 ?_
        refine wpAnyH_take (i := 5) (v := .int .i64 (tn : Int)) rfl (by kernel_rfl) (by kernel_rfl) (by kernel_rfl) (fun _ _ _ h => h) (Or.inl ⟨by rfl, fun w _ => by go_simp⟩) hS237 ?_
        refine wpAnyH_take (i := 6) (v := .int .i64 0) rfl (by kernel_rfl) (by kernel_rfl) (by kernel_rfl) (fun _ _ _ h => h) (Or.inl ⟨by rfl, fun w _ => by go_simp⟩) hS237 ?_
        refine wpAnyH_take (i := 7) (v := .int .i64 (tn : Int)) rfl (by kernel_rfl) (by kernel_rfl) (by kernel_rfl) (fun _ _ _ h => h) (Or.inl ⟨by rfl, fun w _ => by go_simp⟩) hS237 ?_
        refine wpAnyH_take (i := 8) (v := .int .i64 0) rfl (by kernel_rfl) (by kernel_rfl) (by kernel_rfl) (fun _ _ _ h => h) (Or.inl ⟨by rfl, fun w _ => by go_simp⟩) hS237 ?_
        refine wpAnyH_done (by kernel_rfl) ?_ _
        clear hS237
        go_upto_region 6 with fail
        have HX238 := hide ((unhide HX234).below (below_drew W232 1))
        have HY241 := hide ((unhide HY235).below (below_drew W232 1) (unhide HY235).lt)
        refine wp_region_held_drew (S := fun w' => H3 w w' s) (by kernel_rfl) (unhide HX238) (fun hS240 => ?_)
        clear HX234 HY235
        generalize hWd : W232.drewN 1 = W239 at HX238 HY241
        change W232.drew = W239 at hWd
        rw [hWd] at hS240 ⊢
        clear hWd W232
        refine wpAnyH_take (i := 0) (v := .agg #[.slice s.ao s.T.length s.cap, .slice s.so s.L.length s.sc, .int .i64 s.fn]) rfl (by kernel_rfl) (by kernel_rfl) (by kernel_rfl) (fun _ _ _ h => h) (yieldsIf_load_mid (by rfl) 25 _ rfl w.heap.size 0 rfl _ _ (fun _ h => box_range (h.e)) Tryz.underlying25 rfl (by kernel_rfl)) hS240 ?_
        refine wpAnyH_take (i := 2) (v := .agg #[.int .i64 s.p, .int .u8 (s.op : Int), .int .i64 s.a, .int .i64 s.b]) rfl (by kernel_rfl) (by kernel_rfl) (by kernel_rfl) (fun _ _ _ h => h) (yieldsIf_load_mid (by rfl) 31 _ rfl (w.heap.size + 2) 0 rfl _ _ (fun _ h => box_range (h.i)) Tryz.underlying31 rfl (by kernel_rfl)) hS240 ?_
        refine wpAnyH_ready (rs := [1]) (by kernel_rfl) (by simp) ?_
        refine AllReadyH.cons rfl (fun K hK => ?_) AllReadyH.nil
        go_simp
        go_wp2_with (go_at_call 6; refine (unhide HEV W239 (unhide HX238).bel).mono ?_; rintro e W242 ⟨⟨v_g, rfl, hv⟩, hB243⟩)
        have HX244 := hide ((unhide HX238).below hB243)
        have HY245 := hide ((unhide HY241).below hB243 (unhide HY241).lt)
        have HV_g := hide hv
        clear hv
        refine hK.out _ _ (unhide HX244) (fun hS246 => ?_)
        clear hK K hS240 HX238 HY241 hB243 W239
        have HC_g := (by
              have h := (unhide HV_g).gives W242 (Below.refl _ _)
              rw [unhide HGN, unhide HC0] at h
              exact hide h)
        refine wpAnyH_ready (rs := [3]) (by kernel_rfl) (by simp) ?_
        refine AllReadyH.cons rfl (fun K hK => ?_) AllReadyH.nil
        go_simp
        go_wp2_with (go_at_call 12; refine (unhide HC_g).mono ?_; rintro e W247 ⟨rfl, hB248⟩)
        have HX249 := hide ((unhide HX244).below hB248)
        have HY250 := hide ((unhide HY245).below hB248 (unhide HY245).lt)
        have HY251 := hide ((unhide HV_g).below hB248)
        clear HY251 HC_g
        refine hK.out _ _ (unhide HX249) (fun hS252 => ?_)
        clear hK K hS246 HX244 HY245 HV_g hB248 W242
        refine wpAnyH_take (i := 4) (v := .tuple #[.int .i64 (gn : Int), .int .i64 0]) rfl (by kernel_rfl) (by kernel_rfl) (by kernel_rfl) (fun _ _ _ h => h) (Or.inl ⟨by rfl, fun w _ => by go_simp⟩) hS252 ?_
        refine wpAnyH_take (i := 5) (v := .int .i64 (gn : Int)) rfl (by kernel_rfl) (by kernel_rfl) (by kernel_rfl) (fun _ _ _ h => h) (Or.inl ⟨by rfl, fun w _ => by go_simp⟩) hS252 ?_
        refine wpAnyH_take (i := 6) (v := .int .i64 0) rfl (by kernel_rfl) (by kernel_rfl) (by kernel_rfl) (fun _ _ _ h => h) (Or.inl ⟨by rfl, fun w _ => by go_simp⟩) hS252 ?_
        refine wpAnyH_take (i := 7) (v := .int .i64 (gn : Int)) rfl (by kernel_rfl) (by kernel_rfl) (by kernel_rfl) (fun _ _ _ h => h) (Or.inl ⟨by rfl, fun w _ => by go_simp⟩) hS252 ?_
        refine wpAnyH_take (i := 8) (v := .int .i64 0) rfl (by kernel_rfl) (by kernel_rfl) (by kernel_rfl) (fun _ _ _ h => h) (Or.inl ⟨by rfl, fun w _ => by go_simp⟩) hS252 ?_
        refine wpAnyH_done (by kernel_rfl) ?_ _
        clear hS252
        go_upto_region 7 with fail
        have kf := (unhide HX249).f.he
        have kl := (unhide HX249).f.lo
        have kg := (unhide HY250).he
        have km := (unhide HY250).lo
        have k0 := (unhide HX249).e.c0
        have q1 : (F.lo == s.f.lo) = true := by rw [c2]; simp
        have q2 : (F.he == s.f.he - (tn : Int) + (gn : Int)) = true := by rw [c1]; simp
        have HFQ := hide hF
        rw [unhide HCK] at HCH
        clear c1 c2 HCK
        go_wp2_with (refine wpList_load_rowG (by kernel_rfl) 29 (.tmp 7) rfl g_x rfl 29 (frA F) (0, 0) _ (unhide HY250) Tryz.underlying29 rfl (sizeFr (unhide HFQ)) ?_)
        refine (unhide HCH W247).mono ?_
        rintro e W99 ⟨rfl, hB99⟩
        have HB99 : Hid (Below w.heap.size w W99) := hide ((unhide HX249).bel.trans (hB99.mono (unhide HX249).bel.size))
        clear hB99
        go_wp2
        go_ret
        exact ⟨rfl, unhide HB99⟩)
    · go_simp
      rw [frZ_eq]
      have hal : Below W204.heap.size W204 (W204.alloc (.cells (frA frZ) 29)) := (Below.refl _ _).alloc (Nat.le_refl _) _
      have gt_x : w.heap.size + 2 < W204.heap.size := (unhide HX206).top
      have HX253 := hide ((unhide HX206).below hal)
      have HY254 := hide ((unhide HV_x).below hal)
      have HY255 : Hid (FAt (W204.alloc (.cells (frA frZ) 29)) W204.heap.size frZ) := hide (FAt.new W204 frZ)
      refine hK.out _ _ (unhide HX253) (fun hS256 => ?_)
      clear hK K hS207 HX206 HV_x hal
      generalize (W204.alloc (.cells (frA frZ) 29)) = W257 at HX253 hS256 HY254 HY255 ⊢
      generalize W204.heap.size = g_x at HY255 gt_x  ⊢
      clear W204
      have HC_x := (by
            have h := (unhide HY254).apply W257 s.f (Below.refl _ _) (unhide HFO)
            rw [show ({ s with f := s.f } : Sp) = s from rfl] at h
            rw [show frTwo (applyD s) = .tuple #[.agg (frA (applyD s).1), .int .i64 (applyD s).2] from rfl, unhide HF, unhide HER] at h
            exact hide h)
      refine wpAnyH_ready (rs := [4]) (by kernel_rfl) (by simp) ?_
      refine AllReadyH.cons rfl (fun K hK => ?_) AllReadyH.nil
      go_simp
      go_wp2_with (go_at_call 7; refine (unhide HC_x).mono ?_; rintro e W258 ⟨rfl, hB259⟩)
      have HX260 := hide ((unhide HX253).below hB259)
      have HY261 := hide ((unhide HY254).below hB259)
      have HY262 := hide ((unhide HY255).below hB259 (unhide HY255).lt)
      clear HY261 HC_x
      refine hK.out _ _ (unhide HX260) (fun hS263 => ?_)
      clear hK K hS256 HX253 HY254 HY255 hB259 W257
      refine wpAnyH_take (i := 5) (v := .tuple #[.agg (frA F), .int .i64 er]) rfl (by kernel_rfl) (by kernel_rfl) (by kernel_rfl) (fun _ _ _ h => h) (Or.inl ⟨by rfl, fun w _ => by go_simp⟩) hS263 ?_
      refine wpAnyH_take (i := 6) (v := .agg (frA F)) rfl (by kernel_rfl) (by kernel_rfl) (by kernel_rfl) (fun _ _ _ h => h) (Or.inl ⟨by rfl, fun w _ => by go_simp⟩) hS263 ?_
      refine wpAnyH_take (i := 7) (v := .int .i64 er) rfl (by kernel_rfl) (by kernel_rfl) (by kernel_rfl) (fun _ _ _ h => h) (Or.inl ⟨by rfl, fun w _ => by go_simp⟩) hS263 ?_
      refine wpAnyH_ready (rs := [9]) (by kernel_rfl) (by simp) ?_
      refine AllReadyH.cons rfl (fun K hK => ?_) AllReadyH.nil
      rw [if_pos (by rfl)]
      refine wp_store_row 29 _ _ rfl g_x (frA F) rfl rfl 29 (frA frZ) (unhide HY262) (sizeFr hF) (sizeEq frZ_ok hF) (frA_one _) ?_
      have HX264 := hide ((unhide HX260).row (g := g_x) (by omega) (frA F))
      have HY265 := hide ((unhide HY262).row F)
      refine hK.out _ _ (unhide HX264) (fun hS266 => ?_)
      clear hK K hS263 HX260 HY262 
      generalize (W258.setRow g_x (frA F)) = W267 at HX264 hS266 HY265 ⊢
      clear W258
      refine wpAnyH_ready (rs := [10]) (by kernel_rfl) (by simp) ?_
      refine AllReadyH.cons rfl (fun K hK => ?_) AllReadyH.nil
      go_simp
      refine hK.out _ _ (unhide HX264) (fun hS266' => ?_)
      clear hK K
      clear hS266
      refine wpAnyH_done (by kernel_rfl) ?_ _
      clear hS266'
      go_upto_region 2 with fail
      refine wp_region_lit ?_
      refine wpList_load_rowG (by kernel_rfl) 25 (.tmp 3) rfl w.heap.size rfl 25 #[.slice s.ao s.T.length s.cap, .slice s.so s.L.length s.sc, .int .i64 s.fn] (0, 0) _ (unhide HX264).e Tryz.underlying25 rfl (by kernel_rfl) ?_
      refine wpList_load_row rfl 29 (.tmp 4) rfl (w.heap.size + 1) rfl 29 (frA s.f) (0, 0) _ (unhide HX264).f Tryz.underlying29 rfl (sizeFr (unhide HFO)) ?_
      refine wpList_load_rowG (by kernel_rfl) 31 (.tmp 5) rfl (w.heap.size + 2) rfl 31 #[.int .i64 s.p, .int .u8 (s.op : Int), .int .i64 s.a, .int .i64 s.b] (0, 0) _ (unhide HX264).i Tryz.underlying31 rfl (by kernel_rfl) ?_
      go_simp
      go_wp2_with fail
      refine (unhide HRP W267 (unhide HX264).bel).mono ?_
      rintro e W90 ⟨rfl, hB90⟩
      have HX268 := hide ((unhide HX264).below hB90)
      have HY269 := hide ((unhide HY265).below hB90 (unhide HY265).lt)
      have HZ90 := hide (FAt.new W90 frZ)
      clear hB90 HX264 HY265 W267
      go_upto_region 3 with (refine wpList_store_rowN rfl 29 (.tmp 9) (.tmp 28) rfl W90.heap.size (frA F) rfl rfl 29 (frA frZ) (unhide HZ90) (sizeFr hF) (sizeEq frZ_ok hF) (frA_one _) (fun W91 hN => ?_))
      all_goals (
        have hBs : Below W90.heap.size W90 W91 := by rw [← hN]; exact below_setRow' ((Below.refl W90.heap.size W90).alloc (Nat.le_refl _) _) (Nat.le_refl _) _
        have HX92 := hide ((unhide HX268).below hBs)
        have HY92 := hide ((unhide HY269).below hBs (unhide HY269).lt)
        clear hN hBs HZ90 HX268 HY269
        generalize W90.heap.size = g90
        clear W90
        by_cases h0 : er = 0
        rotate_left
        · have q1 : (er != 0) = true := bne_t h0
          have q2 : (er == er) = true := by simp
          clear h0
          go_wp2
          go_ret
          exact ⟨rfl, (unhide HX92).bel⟩
        obtain ⟨c0, c1, c2, c3, c4, c5, c6, c7⟩ := unhide HEN h0
        obtain ⟨tn, HTN⟩ : ∃ tn, Hid ((cntD { s with f := frZ }).1 = tn) := ⟨_, hide rfl⟩
        obtain ⟨gn, HGN⟩ : ∃ gn, Hid ((cntD { s with f := frZ }).2.1 = gn) := ⟨_, hide rfl⟩
        have HC0 := hide c0
        rw [unhide HTN] at c1 c4
        rw [unhide HGN] at c1 c5
        have HCK := hide c3
        rw [h0]
        clear c0 c3 HEN HRP h0 HER
        go_upto_region 5 with fail
        have HX270 := hide ((unhide HX92).below (below_drew W91 1))
        have HY273 := hide ((unhide HY92).below (below_drew W91 1) (unhide HY92).lt)
        refine wp_region_held_drew (S := fun w' => H3 w w' s) (by kernel_rfl) (unhide HX270) (fun hS272 => ?_)
        clear HX92 HY92
        generalize hWd : W91.drewN 1 = W271 at HX270 HY273
        change W91.drew = W271 at hWd
        rw [hWd] at hS272 ⊢
        clear hWd W91
        refine wpAnyH_take (i := 0) (v := .agg #[.slice s.ao s.T.length s.cap, .slice s.so s.L.length s.sc, .int .i64 s.fn]) rfl (by kernel_rfl) (by kernel_rfl) (by kernel_rfl) (fun _ _ _ h => h) (yieldsIf_load_mid (by rfl) 25 _ rfl w.heap.size 0 rfl _ _ (fun _ h => box_range (h.e)) Tryz.underlying25 rfl (by kernel_rfl)) hS272 ?_
        refine wpAnyH_take (i := 2) (v := .agg #[.int .i64 s.p, .int .u8 (s.op : Int), .int .i64 s.a, .int .i64 s.b]) rfl (by kernel_rfl) (by kernel_rfl) (by kernel_rfl) (fun _ _ _ h => h) (yieldsIf_load_mid (by rfl) 31 _ rfl (w.heap.size + 2) 0 rfl _ _ (fun _ h => box_range (h.i)) Tryz.underlying31 rfl (by kernel_rfl)) hS272 ?_
        refine wpAnyH_ready (rs := [1]) (by kernel_rfl) (by simp) ?_
        refine AllReadyH.cons rfl (fun K hK => ?_) AllReadyH.nil
        go_simp
        go_wp2_with (go_at_call 6; refine (unhide HEV W271 (unhide HX270).bel).mono ?_; rintro e W274 ⟨⟨v_t, rfl, hv⟩, hB275⟩)
        have HX276 := hide ((unhide HX270).below hB275)
        have HY277 := hide ((unhide HY273).below hB275 (unhide HY273).lt)
        have HV_t := hide hv
        clear hv
        refine hK.out _ _ (unhide HX276) (fun hS278 => ?_)
        clear hK K hS272 HX270 HY273 hB275 W271
        have HC_t := (by
              have h := (unhide HV_t).takes W274 (Below.refl _ _)
              rw [unhide HTN, unhide HC0] at h
              exact hide h)
        refine wpAnyH_ready (rs := [3]) (by kernel_rfl) (by simp) ?_
        refine AllReadyH.cons rfl (fun K hK => ?_) AllReadyH.nil
        go_simp
        go_wp2_with (go_at_call 11; refine (unhide HC_t).mono ?_; rintro e W279 ⟨rfl, hB280⟩)
        have HX281 := hide ((unhide HX276).below hB280)
        have HY282 := hide ((unhide HY277).below hB280 (unhide HY277).lt)
        have HY283 := hide ((unhide HV_t).below hB280)
        clear HY283 HC_t
        refine hK.out _ _ (unhide HX281) (fun hS284 => ?_)
        clear hK K hS278 HX276 HY277 HV_t hB280 W274
        refine wpAnyH_take (i := 4) (v := .tuple #[.int .i64 (tn : Int), .int .i64 0]) rfl (by kernel_rfl) (by kernel_rfl) (by kernel_rfl) (fun _ _ _ h => h) (Or.inl ⟨by rfl, fun w _ => by go_simp⟩) hS284 ?_
        refine wpAnyH_take (i := 5) (v := .int .i64 (tn : Int)) rfl (by kernel_rfl) (by kernel_rfl) (by kernel_rfl) (fun _ _ _ h => h) (Or.inl ⟨by rfl, fun w _ => by go_simp⟩) hS284 ?_
        refine wpAnyH_take (i := 6) (v := .int .i64 0) rfl (by kernel_rfl) (by kernel_rfl) (by kernel_rfl) (fun _ _ _ h => h) (Or.inl ⟨by rfl, fun w _ => by go_simp⟩) hS284 ?_
        refine wpAnyH_take (i := 7) (v := .int .i64 (tn : Int)) rfl (by kernel_rfl) (by kernel_rfl) (by kernel_rfl) (fun _ _ _ h => h) (Or.inl ⟨by rfl, fun w _ => by go_simp⟩) hS284 ?_
        refine wpAnyH_take (i := 8) (v := .int .i64 0) rfl (by kernel_rfl) (by kernel_rfl) (by kernel_rfl) (fun _ _ _ h => h) (Or.inl ⟨by rfl, fun w _ => by go_simp⟩) hS284 ?_
        refine wpAnyH_done (by kernel_rfl) ?_ _
        clear hS284
        go_upto_region 6 with fail
        have HX285 := hide ((unhide HX281).below (below_drew W279 1))
        have HY288 := hide ((unhide HY282).below (below_drew W279 1) (unhide HY282).lt)
        refine wp_region_held_drew (S := fun w' => H3 w w' s) (by kernel_rfl) (unhide HX285) (fun hS287 => ?_)
        clear HX281 HY282
        generalize hWd : W279.drewN 1 = W286 at HX285 HY288
        change W279.drew = W286 at hWd
        rw [hWd] at hS287 ⊢
        clear hWd W279
        refine wpAnyH_take (i := 0) (v := .agg #[.slice s.ao s.T.length s.cap, .slice s.so s.L.length s.sc, .int .i64 s.fn]) rfl (by kernel_rfl) (by kernel_rfl) (by kernel_rfl) (fun _ _ _ h => h) (yieldsIf_load_mid (by rfl) 25 _ rfl w.heap.size 0 rfl _ _ (fun _ h => box_range (h.e)) Tryz.underlying25 rfl (by kernel_rfl)) hS287 ?_
        refine wpAnyH_take (i := 2) (v := .agg #[.int .i64 s.p, .int .u8 (s.op : Int), .int .i64 s.a, .int .i64 s.b]) rfl (by kernel_rfl) (by kernel_rfl) (by kernel_rfl) (fun _ _ _ h => h) (yieldsIf_load_mid (by rfl) 31 _ rfl (w.heap.size + 2) 0 rfl _ _ (fun _ h => box_range (h.i)) Tryz.underlying31 rfl (by kernel_rfl)) hS287 ?_
        refine wpAnyH_ready (rs := [1]) (by kernel_rfl) (by simp) ?_
        refine AllReadyH.cons rfl (fun K hK => ?_) AllReadyH.nil
        go_simp
        go_wp2_with (go_at_call 6; refine (unhide HEV W286 (unhide HX285).bel).mono ?_; rintro e W289 ⟨⟨v_g, rfl, hv⟩, hB290⟩)
        have HX291 := hide ((unhide HX285).below hB290)
        have HY292 := hide ((unhide HY288).below hB290 (unhide HY288).lt)
        have HV_g := hide hv
        clear hv
        refine hK.out _ _ (unhide HX291) (fun hS293 => ?_)
        clear hK K hS287 HX285 HY288 hB290 W286
        have HC_g := (by
              have h := (unhide HV_g).gives W289 (Below.refl _ _)
              rw [unhide HGN, unhide HC0] at h
              exact hide h)
        refine wpAnyH_ready (rs := [3]) (by kernel_rfl) (by simp) ?_
        refine AllReadyH.cons rfl (fun K hK => ?_) AllReadyH.nil
        go_simp
        go_wp2_with (go_at_call 12; refine (unhide HC_g).mono ?_; rintro e W294 ⟨rfl, hB295⟩)
        have HX296 := hide ((unhide HX291).below hB295)
        have HY297 := hide ((unhide HY292).below hB295 (unhide HY292).lt)
        have HY298 := hide ((unhide HV_g).below hB295)
        clear HY298 HC_g
        refine hK.out _ _ (unhide HX296) (fun hS299 => ?_)
        clear hK K hS293 HX291 HY292 HV_g hB295 W289
        refine wpAnyH_take (i := 4) (v := .tuple #[.int .i64 (gn : Int), .int .i64 0]) rfl (by kernel_rfl) (by kernel_rfl) (by kernel_rfl) (fun _ _ _ h => h) (Or.inl ⟨by rfl, fun w _ => by go_simp⟩) hS299 ?_
        refine wpAnyH_take (i := 5) (v := .int .i64 (gn : Int)) rfl (by kernel_rfl) (by kernel_rfl) (by kernel_rfl) (fun _ _ _ h => h) (Or.inl ⟨by rfl, fun w _ => by go_simp⟩) hS299 ?_
        refine wpAnyH_take (i := 6) (v := .int .i64 0) rfl (by kernel_rfl) (by kernel_rfl) (by kernel_rfl) (fun _ _ _ h => h) (Or.inl ⟨by rfl, fun w _ => by go_simp⟩) hS299 ?_
        refine wpAnyH_take (i := 7) (v := .int .i64 (gn : Int)) rfl (by kernel_rfl) (by kernel_rfl) (by kernel_rfl) (fun _ _ _ h => h) (Or.inl ⟨by rfl, fun w _ => by go_simp⟩) hS299 ?_
        refine wpAnyH_take (i := 8) (v := .int .i64 0) rfl (by kernel_rfl) (by kernel_rfl) (by kernel_rfl) (fun _ _ _ h => h) (Or.inl ⟨by rfl, fun w _ => by go_simp⟩) hS299 ?_
        refine wpAnyH_done (by kernel_rfl) ?_ _
        clear hS299
        go_upto_region 7 with fail
        have kf := (unhide HX296).f.he
        have kl := (unhide HX296).f.lo
        have kg := (unhide HY297).he
        have km := (unhide HY297).lo
        have k0 := (unhide HX296).e.c0
        have q1 : (F.lo == s.f.lo) = true := by rw [c2]; simp
        have q2 : (F.he == s.f.he - (tn : Int) + (gn : Int)) = true := by rw [c1]; simp
        have HFQ := hide hF
        rw [unhide HCK] at HCH
        clear c1 c2 HCK
        go_wp2_with (refine wpList_load_rowG (by kernel_rfl) 29 (.tmp 7) rfl g_x rfl 29 (frA F) (0, 0) _ (unhide HY297) Tryz.underlying29 rfl (sizeFr (unhide HFQ)) ?_)
        refine (unhide HCH W294).mono ?_
        rintro e W99 ⟨rfl, hB99⟩
        have HB99 : Hid (Below w.heap.size w W99) := hide ((unhide HX296).bel.trans (hB99.mono (unhide HX296).bel.size))
        clear hB99
        go_wp2
        go_ret
        exact ⟨rfl, unhide HB99⟩)
  · go_simp
    rw [frZ_eq]
    have hal : Below W202.heap.size W202 (W202.alloc (.cells (frA frZ) 29)) := (Below.refl _ _).alloc (Nat.le_refl _) _
    have gt_x : w.heap.size + 2 < W202.heap.size := (unhide HX201).top
    have HX300 := hide ((unhide HX201).below hal)
    have HY301 : Hid (FAt (W202.alloc (.cells (frA frZ) 29)) W202.heap.size frZ) := hide (FAt.new W202 frZ)
    refine hK.out _ _ (unhide HX300) (fun hS302 => ?_)
    clear hK K hS203 HX201 hal
    generalize (W202.alloc (.cells (frA frZ) 29)) = W303 at HX300 hS302 HY301 ⊢
    generalize W202.heap.size = g_x at HY301 gt_x  ⊢
    clear W202
    refine wpAnyH_ready (rs := [1]) (by kernel_rfl) (by simp) ?_
    refine AllReadyH.cons rfl (fun K hK => ?_) AllReadyH.nil
    go_simp
    go_wp2_with (go_at_call 6; refine (unhide HEV W303 (unhide HX300).bel).mono ?_; rintro e W304 ⟨⟨v_x, rfl, hv⟩, hB305⟩)
    have HX306 := hide ((unhide HX300).below hB305)
    have HY307 := hide ((unhide HY301).below hB305 (unhide HY301).lt)
    have HV_x := hide hv
    clear hv
    refine hK.out _ _ (unhide HX306) (fun hS308 => ?_)
    clear hK K hS302 HX300 HY301 hB305 W303
    have HC_x := (by
          have h := (unhide HV_x).apply W304 s.f (Below.refl _ _) (unhide HFO)
          rw [show ({ s with f := s.f } : Sp) = s from rfl] at h
          rw [show frTwo (applyD s) = .tuple #[.agg (frA (applyD s).1), .int .i64 (applyD s).2] from rfl, unhide HF, unhide HER] at h
          exact hide h)
    refine wpAnyH_ready (rs := [4]) (by kernel_rfl) (by simp) ?_
    refine AllReadyH.cons rfl (fun K hK => ?_) AllReadyH.nil
    go_simp
    go_wp2_with (go_at_call 7; refine (unhide HC_x).mono ?_; rintro e W309 ⟨rfl, hB310⟩)
    have HX311 := hide ((unhide HX306).below hB310)
    have HY312 := hide ((unhide HY307).below hB310 (unhide HY307).lt)
    have HY313 := hide ((unhide HV_x).below hB310)
    clear HY313 HC_x
    refine hK.out _ _ (unhide HX311) (fun hS314 => ?_)
    clear hK K hS308 HX306 HY307 HV_x hB310 W304
    refine wpAnyH_take (i := 5) (v := .tuple #[.agg (frA F), .int .i64 er]) rfl (by kernel_rfl) (by kernel_rfl) (by kernel_rfl) (fun _ _ _ h => h) (Or.inl ⟨by rfl, fun w _ => by go_simp⟩) hS314 ?_
    refine wpAnyH_take (i := 6) (v := .agg (frA F)) rfl (by kernel_rfl) (by kernel_rfl) (by kernel_rfl) (fun _ _ _ h => h) (Or.inl ⟨by rfl, fun w _ => by go_simp⟩) hS314 ?_
    refine wpAnyH_take (i := 7) (v := .int .i64 er) rfl (by kernel_rfl) (by kernel_rfl) (by kernel_rfl) (fun _ _ _ h => h) (Or.inl ⟨by rfl, fun w _ => by go_simp⟩) hS314 ?_
    refine wpAnyH_ready (rs := [9]) (by kernel_rfl) (by simp) ?_
    refine AllReadyH.cons rfl (fun K hK => ?_) AllReadyH.nil
    rw [if_pos (by rfl)]
    refine wp_store_row 29 _ _ rfl g_x (frA F) rfl rfl 29 (frA frZ) (unhide HY312) (sizeFr hF) (sizeEq frZ_ok hF) (frA_one _) ?_
    have HX315 := hide ((unhide HX311).row (g := g_x) (by omega) (frA F))
    have HY316 := hide ((unhide HY312).row F)
    refine hK.out _ _ (unhide HX315) (fun hS317 => ?_)
    clear hK K hS314 HX311 HY312 
    generalize (W309.setRow g_x (frA F)) = W318 at HX315 hS317 HY316 ⊢
    clear W309
    refine wpAnyH_ready (rs := [10]) (by kernel_rfl) (by simp) ?_
    refine AllReadyH.cons rfl (fun K hK => ?_) AllReadyH.nil
    go_simp
    refine hK.out _ _ (unhide HX315) (fun hS317' => ?_)
    clear hK K
    clear hS317
    refine wpAnyH_done (by kernel_rfl) ?_ _
    clear hS317'
    go_upto_region 2 with fail
    refine wp_region_lit ?_
    refine wpList_load_rowG (by kernel_rfl) 25 (.tmp 3) rfl w.heap.size rfl 25 #[.slice s.ao s.T.length s.cap, .slice s.so s.L.length s.sc, .int .i64 s.fn] (0, 0) _ (unhide HX315).e Tryz.underlying25 rfl (by kernel_rfl) ?_
    refine wpList_load_row rfl 29 (.tmp 4) rfl (w.heap.size + 1) rfl 29 (frA s.f) (0, 0) _ (unhide HX315).f Tryz.underlying29 rfl (sizeFr (unhide HFO)) ?_
    refine wpList_load_rowG (by kernel_rfl) 31 (.tmp 5) rfl (w.heap.size + 2) rfl 31 #[.int .i64 s.p, .int .u8 (s.op : Int), .int .i64 s.a, .int .i64 s.b] (0, 0) _ (unhide HX315).i Tryz.underlying31 rfl (by kernel_rfl) ?_
    go_simp
    go_wp2_with fail
    refine (unhide HRP W318 (unhide HX315).bel).mono ?_
    rintro e W90 ⟨rfl, hB90⟩
    have HX319 := hide ((unhide HX315).below hB90)
    have HY320 := hide ((unhide HY316).below hB90 (unhide HY316).lt)
    have HZ90 := hide (FAt.new W90 frZ)
    clear hB90 HX315 HY316 W318
    go_upto_region 3 with (refine wpList_store_rowN rfl 29 (.tmp 9) (.tmp 28) rfl W90.heap.size (frA F) rfl rfl 29 (frA frZ) (unhide HZ90) (sizeFr hF) (sizeEq frZ_ok hF) (frA_one _) (fun W91 hN => ?_))
    all_goals (
      have hBs : Below W90.heap.size W90 W91 := by rw [← hN]; exact below_setRow' ((Below.refl W90.heap.size W90).alloc (Nat.le_refl _) _) (Nat.le_refl _) _
      have HX92 := hide ((unhide HX319).below hBs)
      have HY92 := hide ((unhide HY320).below hBs (unhide HY320).lt)
      clear hN hBs HZ90 HX319 HY320
      generalize W90.heap.size = g90
      clear W90
      by_cases h0 : er = 0
      rotate_left
      · have q1 : (er != 0) = true := bne_t h0
        have q2 : (er == er) = true := by simp
        clear h0
        go_wp2
        go_ret
        exact ⟨rfl, (unhide HX92).bel⟩
      obtain ⟨c0, c1, c2, c3, c4, c5, c6, c7⟩ := unhide HEN h0
      obtain ⟨tn, HTN⟩ : ∃ tn, Hid ((cntD { s with f := frZ }).1 = tn) := ⟨_, hide rfl⟩
      obtain ⟨gn, HGN⟩ : ∃ gn, Hid ((cntD { s with f := frZ }).2.1 = gn) := ⟨_, hide rfl⟩
      have HC0 := hide c0
      rw [unhide HTN] at c1 c4
      rw [unhide HGN] at c1 c5
      have HCK := hide c3
      rw [h0]
      clear c0 c3 HEN HRP h0 HER
      go_upto_region 5 with fail
      have HX321 := hide ((unhide HX92).below (below_drew W91 1))
      have HY324 := hide ((unhide HY92).below (below_drew W91 1) (unhide HY92).lt)
      refine wp_region_held_drew (S := fun w' => H3 w w' s) (by kernel_rfl) (unhide HX321) (fun hS323 => ?_)
      clear HX92 HY92
      generalize hWd : W91.drewN 1 = W322 at HX321 HY324
      change W91.drew = W322 at hWd
      rw [hWd] at hS323 ⊢
      clear hWd W91
      refine wpAnyH_take (i := 0) (v := .agg #[.slice s.ao s.T.length s.cap, .slice s.so s.L.length s.sc, .int .i64 s.fn]) rfl (by kernel_rfl) (by kernel_rfl) (by kernel_rfl) (fun _ _ _ h => h) (yieldsIf_load_mid (by rfl) 25 _ rfl w.heap.size 0 rfl _ _ (fun _ h => box_range (h.e)) Tryz.underlying25 rfl (by kernel_rfl)) hS323 ?_
      refine wpAnyH_take (i := 2) (v := .agg #[.int .i64 s.p, .int .u8 (s.op : Int), .int .i64 s.a, .int .i64 s.b]) rfl (by kernel_rfl) (by kernel_rfl) (by kernel_rfl) (fun _ _ _ h => h) (yieldsIf_load_mid (by rfl) 31 _ rfl (w.heap.size + 2) 0 rfl _ _ (fun _ h => box_range (h.i)) Tryz.underlying31 rfl (by kernel_rfl)) hS323 ?_
      refine wpAnyH_ready (rs := [1]) (by kernel_rfl) (by simp) ?_
      refine AllReadyH.cons rfl (fun K hK => ?_) AllReadyH.nil
      go_simp
      go_wp2_with (go_at_call 6; refine (unhide HEV W322 (unhide HX321).bel).mono ?_; rintro e W325 ⟨⟨v_t, rfl, hv⟩, hB326⟩)
      have HX327 := hide ((unhide HX321).below hB326)
      have HY328 := hide ((unhide HY324).below hB326 (unhide HY324).lt)
      have HV_t := hide hv
      clear hv
      refine hK.out _ _ (unhide HX327) (fun hS329 => ?_)
      clear hK K hS323 HX321 HY324 hB326 W322
      have HC_t := (by
            have h := (unhide HV_t).takes W325 (Below.refl _ _)
            rw [unhide HTN, unhide HC0] at h
            exact hide h)
      refine wpAnyH_ready (rs := [3]) (by kernel_rfl) (by simp) ?_
      refine AllReadyH.cons rfl (fun K hK => ?_) AllReadyH.nil
      go_simp
      go_wp2_with (go_at_call 11; refine (unhide HC_t).mono ?_; rintro e W330 ⟨rfl, hB331⟩)
      have HX332 := hide ((unhide HX327).below hB331)
      have HY333 := hide ((unhide HY328).below hB331 (unhide HY328).lt)
      have HY334 := hide ((unhide HV_t).below hB331)
      clear HY334 HC_t
      refine hK.out _ _ (unhide HX332) (fun hS335 => ?_)
      clear hK K hS329 HX327 HY328 HV_t hB331 W325
      refine wpAnyH_take (i := 4) (v := .tuple #[.int .i64 (tn : Int), .int .i64 0]) rfl (by kernel_rfl) (by kernel_rfl) (by kernel_rfl) (fun _ _ _ h => h) (Or.inl ⟨by rfl, fun w _ => by go_simp⟩) hS335 ?_
      refine wpAnyH_take (i := 5) (v := .int .i64 (tn : Int)) rfl (by kernel_rfl) (by kernel_rfl) (by kernel_rfl) (fun _ _ _ h => h) (Or.inl ⟨by rfl, fun w _ => by go_simp⟩) hS335 ?_
      refine wpAnyH_take (i := 6) (v := .int .i64 0) rfl (by kernel_rfl) (by kernel_rfl) (by kernel_rfl) (fun _ _ _ h => h) (Or.inl ⟨by rfl, fun w _ => by go_simp⟩) hS335 ?_
      refine wpAnyH_take (i := 7) (v := .int .i64 (tn : Int)) rfl (by kernel_rfl) (by kernel_rfl) (by kernel_rfl) (fun _ _ _ h => h) (Or.inl ⟨by rfl, fun w _ => by go_simp⟩) hS335 ?_
      refine wpAnyH_take (i := 8) (v := .int .i64 0) rfl (by kernel_rfl) (by kernel_rfl) (by kernel_rfl) (fun _ _ _ h => h) (Or.inl ⟨by rfl, fun w _ => by go_simp⟩) hS335 ?_
      refine wpAnyH_done (by kernel_rfl) ?_ _
      clear hS335
      go_upto_region 6 with fail
      have HX336 := hide ((unhide HX332).below (below_drew W330 1))
      have HY339 := hide ((unhide HY333).below (below_drew W330 1) (unhide HY333).lt)
      refine wp_region_held_drew (S := fun w' => H3 w w' s) (by kernel_rfl) (unhide HX336) (fun hS338 => ?_)
      clear HX332 HY333
      generalize hWd : W330.drewN 1 = W337 at HX336 HY339
      change W330.drew = W337 at hWd
      rw [hWd] at hS338 ⊢
      clear hWd W330
      refine wpAnyH_take (i := 0) (v := .agg #[.slice s.ao s.T.length s.cap, .slice s.so s.L.length s.sc, .int .i64 s.fn]) rfl (by kernel_rfl) (by kernel_rfl) (by kernel_rfl) (fun _ _ _ h => h) (yieldsIf_load_mid (by rfl) 25 _ rfl w.heap.size 0 rfl _ _ (fun _ h => box_range (h.e)) Tryz.underlying25 rfl (by kernel_rfl)) hS338 ?_
      refine wpAnyH_take (i := 2) (v := .agg #[.int .i64 s.p, .int .u8 (s.op : Int), .int .i64 s.a, .int .i64 s.b]) rfl (by kernel_rfl) (by kernel_rfl) (by kernel_rfl) (fun _ _ _ h => h) (yieldsIf_load_mid (by rfl) 31 _ rfl (w.heap.size + 2) 0 rfl _ _ (fun _ h => box_range (h.i)) Tryz.underlying31 rfl (by kernel_rfl)) hS338 ?_
      refine wpAnyH_ready (rs := [1]) (by kernel_rfl) (by simp) ?_
      refine AllReadyH.cons rfl (fun K hK => ?_) AllReadyH.nil
      go_simp
      go_wp2_with (go_at_call 6; refine (unhide HEV W337 (unhide HX336).bel).mono ?_; rintro e W340 ⟨⟨v_g, rfl, hv⟩, hB341⟩)
      have HX342 := hide ((unhide HX336).below hB341)
      have HY343 := hide ((unhide HY339).below hB341 (unhide HY339).lt)
      have HV_g := hide hv
      clear hv
      refine hK.out _ _ (unhide HX342) (fun hS344 => ?_)
      clear hK K hS338 HX336 HY339 hB341 W337
      have HC_g := (by
            have h := (unhide HV_g).gives W340 (Below.refl _ _)
            rw [unhide HGN, unhide HC0] at h
            exact hide h)
      refine wpAnyH_ready (rs := [3]) (by kernel_rfl) (by simp) ?_
      refine AllReadyH.cons rfl (fun K hK => ?_) AllReadyH.nil
      go_simp
      go_wp2_with (go_at_call 12; refine (unhide HC_g).mono ?_; rintro e W345 ⟨rfl, hB346⟩)
      have HX347 := hide ((unhide HX342).below hB346)
      have HY348 := hide ((unhide HY343).below hB346 (unhide HY343).lt)
      have HY349 := hide ((unhide HV_g).below hB346)
      clear HY349 HC_g
      refine hK.out _ _ (unhide HX347) (fun hS350 => ?_)
      clear hK K hS344 HX342 HY343 HV_g hB346 W340
      refine wpAnyH_take (i := 4) (v := .tuple #[.int .i64 (gn : Int), .int .i64 0]) rfl (by kernel_rfl) (by kernel_rfl) (by kernel_rfl) (fun _ _ _ h => h) (Or.inl ⟨by rfl, fun w _ => by go_simp⟩) hS350 ?_
      refine wpAnyH_take (i := 5) (v := .int .i64 (gn : Int)) rfl (by kernel_rfl) (by kernel_rfl) (by kernel_rfl) (fun _ _ _ h => h) (Or.inl ⟨by rfl, fun w _ => by go_simp⟩) hS350 ?_
      refine wpAnyH_take (i := 6) (v := .int .i64 0) rfl (by kernel_rfl) (by kernel_rfl) (by kernel_rfl) (fun _ _ _ h => h) (Or.inl ⟨by rfl, fun w _ => by go_simp⟩) hS350 ?_
      refine wpAnyH_take (i := 7) (v := .int .i64 (gn : Int)) rfl (by kernel_rfl) (by kernel_rfl) (by kernel_rfl) (fun _ _ _ h => h) (Or.inl ⟨by rfl, fun w _ => by go_simp⟩) hS350 ?_
      refine wpAnyH_take (i := 8) (v := .int .i64 0) rfl (by kernel_rfl) (by kernel_rfl) (by kernel_rfl) (fun _ _ _ h => h) (Or.inl ⟨by rfl, fun w _ => by go_simp⟩) hS350 ?_
      refine wpAnyH_done (by kernel_rfl) ?_ _
      clear hS350
      go_upto_region 7 with fail
      have kf := (unhide HX347).f.he
      have kl := (unhide HX347).f.lo
      have kg := (unhide HY348).he
      have km := (unhide HY348).lo
      have k0 := (unhide HX347).e.c0
      have q1 : (F.lo == s.f.lo) = true := by rw [c2]; simp
      have q2 : (F.he == s.f.he - (tn : Int) + (gn : Int)) = true := by rw [c1]; simp
      have HFQ := hide hF
      rw [unhide HCK] at HCH
      clear c1 c2 HCK
      go_wp2_with (refine wpList_load_rowG (by kernel_rfl) 29 (.tmp 7) rfl g_x rfl 29 (frA F) (0, 0) _ (unhide HY348) Tryz.underlying29 rfl (sizeFr (unhide HFQ)) ?_)
      refine (unhide HCH W345).mono ?_
      rintro e W99 ⟨rfl, hB99⟩
      have HB99 : Hid (Below w.heap.size w W99) := hide ((unhide HX347).bel.trans (hB99.mono (unhide HX347).bel.size))
      clear hB99
      go_wp2
      go_ret
      exact ⟨rfl, unhide HB99⟩)
end Go.Proofs.YtkodmpcnndbngaaGreatDoor
