/-
  The walk of the law StepMonotone, of what the document's apply answers: it returns true, and writes nothing that was there.
-/
import Derived.Test.YtkodmpcnndbngaaGreatDoorKSt29
import Derived.Test.YtkodmpcnndbngaaGreatDoorKFrQ
import Derived.Test.YtkodmpcnndbngaaGreatDoorShell
namespace Go.Proofs.YtkodmpcnndbngaaGreatDoor
open Go.RowKit
set_option maxRecDepth 20000

/-- The boxes of what is handed in: environment, two frames, instruction. -/
structure H4 (w W : World) (s : Sp) (g : Fr) : Prop where
  e : EBx W w.heap.size (.slice s.ao s.T.length s.cap) (.slice s.so s.L.length s.sc) s.fn
  f : FAt W (w.heap.size + 1) s.f
  g : FAt W (w.heap.size + 2) g
  i : IBx W (w.heap.size + 3) s
  bel : Below w.heap.size w W
theorem H4.below {w W W' : World} {s : Sp} {g : Fr} (h : H4 w W s g) (hb : Below W.heap.size W W') : H4 w W' s g :=
  ⟨(hb.block _ h.e.lt).trans h.e, h.f.below hb h.f.lt, h.g.below hb h.g.lt, (hb.block _ h.i.lt).trans h.i, h.bel.trans (hb.mono h.bel.size)⟩
theorem H4.top {w W : World} {s : Sp} {g : Fr} (h : H4 w W s g) : w.heap.size + 3 < W.heap.size := h.i.lt
theorem H4.row {w W : World} {s : Sp} {f : Fr} (h : H4 w W s f) {g : Nat} (hg : w.heap.size + 3 < g) (cs : Array Value) : H4 w (W.setRow g cs) s f :=
  ⟨(setRow_other _ _ _ _ (by omega)).trans h.e, (setRow_other _ _ _ _ (by omega)).trans h.f, (setRow_other _ _ _ _ (by omega)).trans h.g, (setRow_other _ _ _ _ (by omega)).trans h.i, below_setRow' h.bel (by omega) _⟩
theorem H4.new (w : World) (s : Sp) (g : Fr) : H4 w ((((w.alloc (.cells #[.slice s.ao s.T.length s.cap, .slice s.so s.L.length s.sc, .int .i64 s.fn] 25)).alloc (.cells (frA s.f) 29)).alloc (.cells (frA g) 29)).alloc (.cells #[.int .i64 s.p, .int .u8 (s.op : Int), .int .i64 s.a, .int .i64 s.b] 31)) s g := by
  have b1 := Bf.new w s
  generalize hW : ((w.alloc (.cells #[.slice s.ao s.T.length s.cap, .slice s.so s.L.length s.sc, .int .i64 s.fn] 25)).alloc (.cells (frA s.f) 29)) = W at b1
  have hsz : W.heap.size = w.heap.size + 2 := by rw [← hW]; simp
  have al2 := (Below.refl W.heap.size W).alloc (Nat.le_refl _) (.cells (frA g) 29)
  have n2 := FAt.new W g
  rw [hsz] at n2
  have b2 := b1.below al2
  generalize hW2 : W.alloc (.cells (frA g) 29) = W2 at n2 b2
  have hsz2 : W2.heap.size = w.heap.size + 3 := by rw [← hW2]; simp [hsz]
  have al3 := (Below.refl W2.heap.size W2).alloc (Nat.le_refl _) (.cells #[.int .i64 s.p, .int .u8 (s.op : Int), .int .i64 s.a, .int .i64 s.b] 31)
  have n3 := heap_alloc_new W2 (.cells #[.int .i64 s.p, .int .u8 (s.op : Int), .int .i64 s.a, .int .i64 s.b] 31)
  rw [hsz2] at n3
  have b3 := b2.below al3
  exact ⟨b3.e, b3.f, n2.below al3 n2.lt, n3, b3.bel⟩
theorem eqlFr_same {f : Fr} (hf : FrOk f) (w : World) : (binOp .eql 29 (.agg (frA f)) (.agg (frA f))).run Tryz.prog w = .ok (.bool true) w := by rw [run_eqlFr w hf hf, frEq_iff.2 rfl]
set_option maxRecDepth 20000 in
set_option maxHeartbeats 8000000 in
theorem stepMonotone_in {w : World} (s : Sp) (g : Fr) (hA : WordsAt w ∧ WidAt w) (hT : TabAt w s.ao s.T) (hz : s.T.length * 48 ≤ 140737488351232) (hL : SgsAt w s.so s.L) (hzl : s.L.length * 32 ≤ 140737488351232) (hf : FrOk s.f) (ho : s.op < 256) (ha : -9223372036854775808 ≤ s.a ∧ s.a ≤ 9223372036854775807) (hb : -9223372036854775808 ≤ s.b ∧ s.b ≤ 9223372036854775807) (hg : FrOk g) (hra : ∀ f, RefA { s with f := f }) :
    Calls Tryz.prog 4 #[.agg #[.slice s.ao s.T.length s.cap, .slice s.so s.L.length s.sc, .int .i64 s.fn], .agg (frA s.f), .agg (frA g), .agg #[.int .i64 s.p, .int .u8 (s.op : Int), .int .i64 s.a, .int .i64 s.b]] w fun e w' => e = .returned (.bool true) ∧ Below w.heap.size w w' := by
  have HX := hide (H4.new w s g)
  have HEV := hide (fun W (hB : Below w.heap.size w W) => envC s W (hT.below hB) hz (hL.below hB) hzl (hA.1.below hB) (hA.2.below hB) ho ha hb)
  have HRP : Hid (∀ W, Below w.heap.size w W → Calls Tryz.prog 8 #[.agg #[.slice s.ao s.T.length s.cap, .slice s.so s.L.length s.sc, .int .i64 s.fn], .agg (frA g), .agg #[.int .i64 s.p, .int .u8 (s.op : Int), .int .i64 s.a, .int .i64 s.b]] W fun e w' => e = .returned (frTwo (applyD { s with f := g })) ∧ Below W.heap.size W w') := hide (fun W hB => refApply_of { s with f := g } (hra g) W (hT.below hB) hz (hL.below hB) hzl hg (hA.2.below hB) ho ha hb)
  have HSF := hide (fun W (hB : Below w.heap.size w W) (hm : madeD s.T = true) (x y : Fr) (hx : FrOk x) (hy : FrOk y) => refSubF_any s.ao s.cap s.T x y W (hT.below hB) hz hm hx hy)
  have hF := applyD_fr s hf
  have hH := applyD_fr { s with f := g } hg
  have HMM := hide (mono_made { s with f := g } hg)
  have HEN := hide (mono_end s g hf hg)
  have HFO := hide hf
  have HGO := hide hg
  have HTW : Hid (frTwo (applyD { s with f := g }) = .tuple #[.agg (frA (applyD { s with f := g }).1), .int .i64 (applyD { s with f := g }).2]) := hide rfl
  rw [unhide HTW] at HRP
  clear hT hL hA ho ha hb hz hzl hra HTW
  obtain ⟨F, HF⟩ : ∃ F, Hid ((applyD s).1 = F) := ⟨_, hide rfl⟩
  obtain ⟨er, HER⟩ : ∃ er, Hid ((applyD s).2 = er) := ⟨_, hide rfl⟩
  obtain ⟨H, HH⟩ : ∃ H, Hid ((applyD { s with f := g }).1 = H) := ⟨_, hide rfl⟩
  obtain ⟨eh, HEH⟩ : ∃ eh, Hid ((applyD { s with f := g }).2 = eh) := ⟨_, hide rfl⟩
  rw [unhide HF, unhide HER, unhide HH, unhide HEH] at HEN
  rw [unhide HEH] at HMM
  rw [unhide HH, unhide HEH] at HRP
  rw [unhide HF] at hF
  rw [unhide HH] at hH
  go_enter Tryz.func4, Tryz.ntmps4
  go_upto_region 1 with fail
  generalize ((((w.alloc (.cells #[.slice s.ao s.T.length s.cap, .slice s.so s.L.length s.sc, .int .i64 s.fn] 25)).alloc (.cells (frA s.f) 29)).alloc (.cells (frA g) 29)).alloc (.cells #[.int .i64 s.p, .int .u8 (s.op : Int), .int .i64 s.a, .int .i64 s.b] 31)) = W1 at HX ⊢
  refine wp_region_lit ?_
  refine wpList_load_rowG (by kernel_rfl) 25 (.tmp 4) rfl w.heap.size rfl 25 #[.slice s.ao s.T.length s.cap, .slice s.so s.L.length s.sc, .int .i64 s.fn] (0, 0) _ (unhide HX).e Tryz.underlying25 rfl (by kernel_rfl) ?_
  refine wpList_load_row rfl 29 (.tmp 6) rfl (w.heap.size + 2) rfl 29 (frA g) (0, 0) _ (unhide HX).g Tryz.underlying29 rfl (sizeFr (unhide HGO)) ?_
  refine wpList_load_rowG (by kernel_rfl) 31 (.tmp 7) rfl (w.heap.size + 3) rfl 31 #[.int .i64 s.p, .int .u8 (s.op : Int), .int .i64 s.a, .int .i64 s.b] (0, 0) _ (unhide HX).i Tryz.underlying31 rfl (by kernel_rfl) ?_
  go_simp
  go_wp2_with fail
  refine (unhide HRP W1 (unhide HX).bel).mono ?_
  rintro e W90 ⟨rfl, hB90⟩
  have HX201 := hide ((unhide HX).below hB90)
  have HZ90 := hide (FAt.new W90 frZ)
  clear hB90 HRP HX W1
  go_upto_region 2 with (refine wpList_store_rowN rfl 29 (.tmp 9) (.tmp 22) rfl W90.heap.size (frA H) rfl rfl 29 (frA frZ) (unhide HZ90) (sizeFr hH) (sizeEq frZ_ok hH) (frA_one _) (fun W91 hN => ?_))
  all_goals (
    have hBs : Below W90.heap.size W90 W91 := by rw [← hN]; exact below_setRow' ((Below.refl W90.heap.size W90).alloc (Nat.le_refl _) _) (Nat.le_refl _) _
    have HX92 := hide ((unhide HX201).below hBs)
    have gt_h : w.heap.size + 3 < W90.heap.size := (unhide HX201).top
    have HY92 : Hid (FAt W91 W90.heap.size H) := hide (by rw [← hN]; exact (unhide HZ90).row H)
    clear hN hBs HZ90 HX201
    generalize W90.heap.size = g_h at HY92 gt_h ⊢
    clear W90
    by_cases h0 : eh = 0
    rotate_left
    · have q1 : (eh != 0) = true := bne_t h0
      clear h0 HEN HMM
      go_upto_region 3 with fail
      have HX202 := hide ((unhide HX92).below (below_drew W91 1))
      have HY205 := hide ((unhide HY92).below (below_drew W91 1) (unhide HY92).lt)
      refine wp_region_held_drew (S := fun w' => H4 w w' s g) (by kernel_rfl) (unhide HX202) (fun hS204 => ?_)
      clear HX92 HY92
      generalize hWd : W91.drewN 1 = W203 at HX202 HY205
      change W91.drew = W203 at hWd
      rw [hWd] at hS204 ⊢
      clear hWd W91
      refine wpAnyH_take (i := 0) (v := .agg #[.slice s.ao s.T.length s.cap, .slice s.so s.L.length s.sc, .int .i64 s.fn]) rfl (by kernel_rfl) (by kernel_rfl) (by kernel_rfl) (fun _ _ _ h => h) (yieldsIf_load_mid (by rfl) 25 _ rfl w.heap.size 0 rfl _ _ (fun _ h => box_range (h.e)) Tryz.underlying25 rfl (by kernel_rfl)) hS204 ?_
      refine wpAnyH_take (i := 2) (v := .agg (frA g)) rfl (by kernel_rfl) (by kernel_rfl) (by kernel_rfl) (fun _ _ _ h => h) (yieldsIf_load_fr (by rfl) _ rfl (w.heap.size + 2) rfl g (unhide HGO) (fun _ h => h.g)) hS204 ?_
      refine wpAnyH_take (i := 3) (v := .agg #[.int .i64 s.p, .int .u8 (s.op : Int), .int .i64 s.a, .int .i64 s.b]) rfl (by kernel_rfl) (by kernel_rfl) (by kernel_rfl) (fun _ _ _ h => h) (yieldsIf_load_mid (by rfl) 31 _ rfl (w.heap.size + 3) 0 rfl _ _ (fun _ h => box_range (h.i)) Tryz.underlying31 rfl (by kernel_rfl)) hS204 ?_
      refine wpAnyH_ready (rs := [1, 8]) (by kernel_rfl) (by simp) ?_
      refine (AllReadyH.cons rfl (fun K hK => ?_) (AllReadyH.cons rfl (fun K hK => ?_) AllReadyH.nil))
      · go_simp
        go_wp2_with (go_at_call 6; refine (unhide HEV W203 (unhide HX202).bel).mono ?_; rintro e W206 ⟨⟨v_x, rfl, hv⟩, hB207⟩)
        have HX208 := hide ((unhide HX202).below hB207)
        have HY209 := hide ((unhide HY205).below hB207 (unhide HY205).lt)
        have HV_x := hide hv
        clear hv
        refine hK.out _ _ (unhide HX208) (fun hS210 => ?_)
        clear hK K hS204 HX202 HY205 hB207 W203
        refine wpAnyH_ready (rs := [4, 8]) (by kernel_rfl) (by simp) ?_
        refine (AllReadyH.cons rfl (fun K hK => ?_) (AllReadyH.cons rfl (fun K hK => ?_) AllReadyH.nil))
        · have HC_x := (by
                have h := (unhide HV_x).apply W206 g (Below.refl _ _) (unhide HGO)
                rw [show frTwo (applyD { s with f := g }) = .tuple #[.agg (frA (applyD { s with f := g }).1), .int .i64 (applyD { s with f := g }).2] from rfl] at h
                rw [unhide HH, unhide HEH] at h
                exact hide h)
          go_simp
          go_wp2_with (go_at_call 7; refine (unhide HC_x).mono ?_; rintro e W211 ⟨rfl, hB212⟩)
          have HX213 := hide ((unhide HX208).below hB212)
          have HY214 := hide ((unhide HY209).below hB212 (unhide HY209).lt)
          have HY215 := hide ((unhide HV_x).below hB212)
          clear HY215 HC_x
          refine hK.out _ _ (unhide HX213) (fun hS216 => ?_)
          clear hK K hS210 HX208 HY209 HV_x hB212 W206
          refine wpAnyH_take (i := 5) (v := .tuple #[.agg (frA H), .int .i64 eh]) rfl (by kernel_rfl) (by kernel_rfl) (by kernel_rfl) (fun _ _ _ h => h) (Or.inl ⟨by rfl, fun w _ => by go_simp⟩) hS216 ?_
          refine wpAnyH_take (i := 6) (v := .agg (frA H)) rfl (by kernel_rfl) (by kernel_rfl) (by kernel_rfl) (fun _ _ _ h => h) (Or.inl ⟨by rfl, fun w _ => by go_simp⟩) hS216 ?_
          refine wpAnyH_take (i := 7) (v := .int .i64 eh) rfl (by kernel_rfl) (by kernel_rfl) (by kernel_rfl) (fun _ _ _ h => h) (Or.inl ⟨by rfl, fun w _ => by go_simp⟩) hS216 ?_
          refine wpAnyH_ready (rs := [8]) (by kernel_rfl) (by simp) ?_
          refine AllReadyH.cons rfl (fun K hK => ?_) AllReadyH.nil
          go_simp
          rw [frZ_eq]
          have hal : Below W211.heap.size W211 (W211.alloc (.cells (frA frZ) 29)) := (Below.refl _ _).alloc (Nat.le_refl _) _
          have gt_x : w.heap.size + 3 < W211.heap.size := (unhide HX213).top
          have lt_g_h_x : g_h < W211.heap.size := (unhide HY214).lt
          have HX217 := hide ((unhide HX213).below hal)
          have HY218 := hide ((unhide HY214).below hal (unhide HY214).lt)
          have HY219 : Hid (FAt (W211.alloc (.cells (frA frZ) 29)) W211.heap.size frZ) := hide (FAt.new W211 frZ)
          refine hK.out _ _ (unhide HX217) (fun hS220 => ?_)
          clear hK K hS216 HX213 HY214 hal
          generalize (W211.alloc (.cells (frA frZ) 29)) = W221 at HX217 hS220 HY218 HY219 ⊢
          generalize W211.heap.size = g_x at HY219 gt_x lt_g_h_x ⊢
          clear W211
          refine wpAnyH_ready (rs := [9]) (by kernel_rfl) (by simp) ?_
          refine AllReadyH.cons rfl (fun K hK => ?_) AllReadyH.nil
          rw [if_pos (by rfl)]
          refine wp_store_row 29 _ _ rfl g_x (frA H) rfl rfl 29 (frA frZ) (unhide HY219) (sizeFr hH) (sizeEq frZ_ok hH) (frA_one _) ?_
          have HX222 := hide ((unhide HX217).row (g := g_x) (by omega) (frA H))
          have HY223 : Hid (FAt (W221.setRow g_x (frA H)) g_h H) := hide ((unhide HY218).rowOther H (by omega))
          have HY224 := hide ((unhide HY219).row H)
          refine hK.out _ _ (unhide HX222) (fun hS225 => ?_)
          clear hK K hS220 HX217 HY218 HY219 
          generalize (W221.setRow g_x (frA H)) = W226 at HX222 hS225 HY223 HY224 ⊢
          clear W221
          refine wpAnyH_ready (rs := [10]) (by kernel_rfl) (by simp) ?_
          refine AllReadyH.cons rfl (fun K hK => ?_) AllReadyH.nil
          go_simp
          refine hK.out _ _ (unhide HX222) (fun hS225' => ?_)
          clear hK K
          clear hS225
          refine wpAnyH_done (by kernel_rfl) ?_ _
          clear hS225'
          have q4 : (eh == eh) = true := by simp
          go_wp2
          go_ret
          exact ⟨rfl, (unhide HX222).bel⟩
        · go_simp
          rw [frZ_eq]
          have hal : Below W206.heap.size W206 (W206.alloc (.cells (frA frZ) 29)) := (Below.refl _ _).alloc (Nat.le_refl _) _
          have gt_x : w.heap.size + 3 < W206.heap.size := (unhide HX208).top
          have lt_g_h_x : g_h < W206.heap.size := (unhide HY209).lt
          have HX227 := hide ((unhide HX208).below hal)
          have HY228 := hide ((unhide HY209).below hal (unhide HY209).lt)
          have HY229 := hide ((unhide HV_x).below hal)
          have HY230 : Hid (FAt (W206.alloc (.cells (frA frZ) 29)) W206.heap.size frZ) := hide (FAt.new W206 frZ)
          refine hK.out _ _ (unhide HX227) (fun hS231 => ?_)
          clear hK K hS210 HX208 HY209 HV_x hal
          generalize (W206.alloc (.cells (frA frZ) 29)) = W232 at HX227 hS231 HY228 HY229 HY230 ⊢
          generalize W206.heap.size = g_x at HY230 gt_x lt_g_h_x ⊢
          clear W206
          have HC_x := (by
                have h := (unhide HY229).apply W232 g (Below.refl _ _) (unhide HGO)
                rw [show frTwo (applyD { s with f := g }) = .tuple #[.agg (frA (applyD { s with f := g }).1), .int .i64 (applyD { s with f := g }).2] from rfl] at h
                rw [unhide HH, unhide HEH] at h
                exact hide h)
          refine wpAnyH_ready (rs := [4]) (by kernel_rfl) (by simp) ?_
          refine AllReadyH.cons rfl (fun K hK => ?_) AllReadyH.nil
          go_simp
          go_wp2_with (go_at_call 7; refine (unhide HC_x).mono ?_; rintro e W233 ⟨rfl, hB234⟩)
          have HX235 := hide ((unhide HX227).below hB234)
          have HY236 := hide ((unhide HY228).below hB234 (unhide HY228).lt)
          have HY237 := hide ((unhide HY229).below hB234)
          have HY238 := hide ((unhide HY230).below hB234 (unhide HY230).lt)
          clear HY237 HC_x
          refine hK.out _ _ (unhide HX235) (fun hS239 => ?_)
          clear hK K hS231 HX227 HY228 HY229 HY230 hB234 W232
          refine wpAnyH_take (i := 5) (v := .tuple #[.agg (frA H), .int .i64 eh]) rfl (by kernel_rfl) (by kernel_rfl) (by kernel_rfl) (fun _ _ _ h => h) (Or.inl ⟨by rfl, fun w _ => by go_simp⟩) hS239 ?_
          refine wpAnyH_take (i := 6) (v := .agg (frA H)) rfl (by kernel_rfl) (by kernel_rfl) (by kernel_rfl) (fun _ _ _ h => h) (Or.inl ⟨by rfl, fun w _ => by go_simp⟩) hS239 ?_
          refine wpAnyH_take (i := 7) (v := .int .i64 eh) rfl (by kernel_rfl) (by kernel_rfl) (by kernel_rfl) (fun _ _ _ h => h) (Or.inl ⟨by rfl, fun w _ => by go_simp⟩) hS239 ?_
          refine wpAnyH_ready (rs := [9]) (by kernel_rfl) (by simp) ?_
          refine AllReadyH.cons rfl (fun K hK => ?_) AllReadyH.nil
          rw [if_pos (by rfl)]
          refine wp_store_row 29 _ _ rfl g_x (frA H) rfl rfl 29 (frA frZ) (unhide HY238) (sizeFr hH) (sizeEq frZ_ok hH) (frA_one _) ?_
          have HX240 := hide ((unhide HX235).row (g := g_x) (by omega) (frA H))
          have HY241 : Hid (FAt (W233.setRow g_x (frA H)) g_h H) := hide ((unhide HY236).rowOther H (by omega))
          have HY242 := hide ((unhide HY238).row H)
          refine hK.out _ _ (unhide HX240) (fun hS243 => ?_)
          clear hK K hS239 HX235 HY236 HY238 
          generalize (W233.setRow g_x (frA H)) = W244 at HX240 hS243 HY241 HY242 ⊢
          clear W233
          refine wpAnyH_ready (rs := [10]) (by kernel_rfl) (by simp) ?_
          refine AllReadyH.cons rfl (fun K hK => ?_) AllReadyH.nil
          go_simp
          refine hK.out _ _ (unhide HX240) (fun hS243' => ?_)
          clear hK K
          clear hS243
          refine wpAnyH_done (by kernel_rfl) ?_ _
          clear hS243'
          have q4 : (eh == eh) = true := by simp
          go_wp2
          go_ret
          exact ⟨rfl, (unhide HX240).bel⟩
      · go_simp
        rw [frZ_eq]
        have hal : Below W203.heap.size W203 (W203.alloc (.cells (frA frZ) 29)) := (Below.refl _ _).alloc (Nat.le_refl _) _
        have gt_x : w.heap.size + 3 < W203.heap.size := (unhide HX202).top
        have lt_g_h_x : g_h < W203.heap.size := (unhide HY205).lt
        have HX245 := hide ((unhide HX202).below hal)
        have HY246 := hide ((unhide HY205).below hal (unhide HY205).lt)
        have HY247 : Hid (FAt (W203.alloc (.cells (frA frZ) 29)) W203.heap.size frZ) := hide (FAt.new W203 frZ)
        refine hK.out _ _ (unhide HX245) (fun hS248 => ?_)
        clear hK K hS204 HX202 HY205 hal
        generalize (W203.alloc (.cells (frA frZ) 29)) = W249 at HX245 hS248 HY246 HY247 ⊢
        generalize W203.heap.size = g_x at HY247 gt_x lt_g_h_x ⊢
        clear W203
        refine wpAnyH_ready (rs := [1]) (by kernel_rfl) (by simp) ?_
        refine AllReadyH.cons rfl (fun K hK => ?_) AllReadyH.nil
        go_simp
        go_wp2_with (go_at_call 6; refine (unhide HEV W249 (unhide HX245).bel).mono ?_; rintro e W250 ⟨⟨v_x, rfl, hv⟩, hB251⟩)
        have HX252 := hide ((unhide HX245).below hB251)
        have HY253 := hide ((unhide HY246).below hB251 (unhide HY246).lt)
        have HY254 := hide ((unhide HY247).below hB251 (unhide HY247).lt)
        have HV_x := hide hv
        clear hv
        refine hK.out _ _ (unhide HX252) (fun hS255 => ?_)
        clear hK K hS248 HX245 HY246 HY247 hB251 W249
        have HC_x := (by
              have h := (unhide HV_x).apply W250 g (Below.refl _ _) (unhide HGO)
              rw [show frTwo (applyD { s with f := g }) = .tuple #[.agg (frA (applyD { s with f := g }).1), .int .i64 (applyD { s with f := g }).2] from rfl] at h
              rw [unhide HH, unhide HEH] at h
              exact hide h)
        refine wpAnyH_ready (rs := [4]) (by kernel_rfl) (by simp) ?_
        refine AllReadyH.cons rfl (fun K hK => ?_) AllReadyH.nil
        go_simp
        go_wp2_with (go_at_call 7; refine (unhide HC_x).mono ?_; rintro e W256 ⟨rfl, hB257⟩)
        have HX258 := hide ((unhide HX252).below hB257)
        have HY259 := hide ((unhide HY253).below hB257 (unhide HY253).lt)
        have HY260 := hide ((unhide HY254).below hB257 (unhide HY254).lt)
        have HY261 := hide ((unhide HV_x).below hB257)
        clear HY261 HC_x
        refine hK.out _ _ (unhide HX258) (fun hS262 => ?_)
        clear hK K hS255 HX252 HY253 HY254 HV_x hB257 W250
        refine wpAnyH_take (i := 5) (v := .tuple #[.agg (frA H), .int .i64 eh]) rfl (by kernel_rfl) (by kernel_rfl) (by kernel_rfl) (fun _ _ _ h => h) (Or.inl ⟨by rfl, fun w _ => by go_simp⟩) hS262 ?_
        refine wpAnyH_take (i := 6) (v := .agg (frA H)) rfl (by kernel_rfl) (by kernel_rfl) (by kernel_rfl) (fun _ _ _ h => h) (Or.inl ⟨by rfl, fun w _ => by go_simp⟩) hS262 ?_
        refine wpAnyH_take (i := 7) (v := .int .i64 eh) rfl (by kernel_rfl) (by kernel_rfl) (by kernel_rfl) (fun _ _ _ h => h) (Or.inl ⟨by rfl, fun w _ => by go_simp⟩) hS262 ?_
        refine wpAnyH_ready (rs := [9]) (by kernel_rfl) (by simp) ?_
        refine AllReadyH.cons rfl (fun K hK => ?_) AllReadyH.nil
        rw [if_pos (by rfl)]
        refine wp_store_row 29 _ _ rfl g_x (frA H) rfl rfl 29 (frA frZ) (unhide HY260) (sizeFr hH) (sizeEq frZ_ok hH) (frA_one _) ?_
        have HX263 := hide ((unhide HX258).row (g := g_x) (by omega) (frA H))
        have HY264 : Hid (FAt (W256.setRow g_x (frA H)) g_h H) := hide ((unhide HY259).rowOther H (by omega))
        have HY265 := hide ((unhide HY260).row H)
        refine hK.out _ _ (unhide HX263) (fun hS266 => ?_)
        clear hK K hS262 HX258 HY259 HY260 
        generalize (W256.setRow g_x (frA H)) = W267 at HX263 hS266 HY264 HY265 ⊢
        clear W256
        refine wpAnyH_ready (rs := [10]) (by kernel_rfl) (by simp) ?_
        refine AllReadyH.cons rfl (fun K hK => ?_) AllReadyH.nil
        go_simp
        refine hK.out _ _ (unhide HX263) (fun hS266' => ?_)
        clear hK K
        clear hS266
        refine wpAnyH_done (by kernel_rfl) ?_ _
        clear hS266'
        have q4 : (eh == eh) = true := by simp
        go_wp2
        go_ret
        exact ⟨rfl, (unhide HX263).bel⟩
    have hm := unhide HMM h0
    have HSB := hide (unhide HSF W91 (unhide HX92).bel hm s.f g (unhide HFO) (unhide HGO))
    have k0 := (unhide HX92).e.c0
    have HE0 := hide h0
    have HMD := hide hm
    have HEQ := hide h0
    rw [h0]
    rw [h0] at HEH
    clear h0 hm HMM
    go_wp2_with (first | (refine wpList_load_rowG (by kernel_rfl) 29 (.tmp 5) rfl (w.heap.size + 1) rfl 29 (frA s.f) (0, 0) _ (unhide HX92).f Tryz.underlying29 rfl (sizeFr (unhide HFO)) ?_) | (refine wpList_load_rowG (by kernel_rfl) 29 (.tmp 6) rfl (w.heap.size + 2) rfl 29 (frA g) (0, 0) _ (unhide HX92).g Tryz.underlying29 rfl (sizeFr (unhide HGO)) ?_))
    refine (unhide HSB).mono ?_
    rintro e W93 ⟨rfl, hB93⟩
    have HX268 := hide ((unhide HX92).below hB93)
    have HY269 := hide ((unhide HY92).below hB93 (unhide HY92).lt)
    clear hB93 HSB k0 HX92 HY92 W91
    cases hsub : subF s.T s.f g
    · clear hsub HEN
      go_upto_region 3 with fail
      have HX270 := hide ((unhide HX268).below (below_drew W93 1))
      have HY273 := hide ((unhide HY269).below (below_drew W93 1) (unhide HY269).lt)
      refine wp_region_held_drew (S := fun w' => H4 w w' s g) (by kernel_rfl) (unhide HX270) (fun hS272 => ?_)
      clear HX268 HY269
      generalize hWd : W93.drewN 1 = W271 at HX270 HY273
      change W93.drew = W271 at hWd
      rw [hWd] at hS272 ⊢
      clear hWd W93
      refine wpAnyH_take (i := 0) (v := .agg #[.slice s.ao s.T.length s.cap, .slice s.so s.L.length s.sc, .int .i64 s.fn]) rfl (by kernel_rfl) (by kernel_rfl) (by kernel_rfl) (fun _ _ _ h => h) (yieldsIf_load_mid (by rfl) 25 _ rfl w.heap.size 0 rfl _ _ (fun _ h => box_range (h.e)) Tryz.underlying25 rfl (by kernel_rfl)) hS272 ?_
      refine wpAnyH_take (i := 2) (v := .agg (frA g)) rfl (by kernel_rfl) (by kernel_rfl) (by kernel_rfl) (fun _ _ _ h => h) (yieldsIf_load_fr (by rfl) _ rfl (w.heap.size + 2) rfl g (unhide HGO) (fun _ h => h.g)) hS272 ?_
      refine wpAnyH_take (i := 3) (v := .agg #[.int .i64 s.p, .int .u8 (s.op : Int), .int .i64 s.a, .int .i64 s.b]) rfl (by kernel_rfl) (by kernel_rfl) (by kernel_rfl) (fun _ _ _ h => h) (yieldsIf_load_mid (by rfl) 31 _ rfl (w.heap.size + 3) 0 rfl _ _ (fun _ h => box_range (h.i)) Tryz.underlying31 rfl (by kernel_rfl)) hS272 ?_
      refine wpAnyH_ready (rs := [1, 8]) (by kernel_rfl) (by simp) ?_
      refine (AllReadyH.cons rfl (fun K hK => ?_) (AllReadyH.cons rfl (fun K hK => ?_) AllReadyH.nil))
      · go_simp
        go_wp2_with (go_at_call 6; refine (unhide HEV W271 (unhide HX270).bel).mono ?_; rintro e W274 ⟨⟨v_y, rfl, hv⟩, hB275⟩)
        have HX276 := hide ((unhide HX270).below hB275)
        have HY277 := hide ((unhide HY273).below hB275 (unhide HY273).lt)
        have HV_y := hide hv
        clear hv
        refine hK.out _ _ (unhide HX276) (fun hS278 => ?_)
        clear hK K hS272 HX270 HY273 hB275 W271
        refine wpAnyH_ready (rs := [4, 8]) (by kernel_rfl) (by simp) ?_
        refine (AllReadyH.cons rfl (fun K hK => ?_) (AllReadyH.cons rfl (fun K hK => ?_) AllReadyH.nil))
        · have HC_y := (by
                have h := (unhide HV_y).apply W274 g (Below.refl _ _) (unhide HGO)
                rw [show frTwo (applyD { s with f := g }) = .tuple #[.agg (frA (applyD { s with f := g }).1), .int .i64 (applyD { s with f := g }).2] from rfl] at h
                rw [unhide HH, unhide HEH] at h
                exact hide h)
          go_simp
          go_wp2_with (go_at_call 7; refine (unhide HC_y).mono ?_; rintro e W279 ⟨rfl, hB280⟩)
          have HX281 := hide ((unhide HX276).below hB280)
          have HY282 := hide ((unhide HY277).below hB280 (unhide HY277).lt)
          have HY283 := hide ((unhide HV_y).below hB280)
          clear HY283 HC_y
          refine hK.out _ _ (unhide HX281) (fun hS284 => ?_)
          clear hK K hS278 HX276 HY277 HV_y hB280 W274
          refine wpAnyH_take (i := 5) (v := .tuple #[.agg (frA H), .int .i64 0]) rfl (by kernel_rfl) (by kernel_rfl) (by kernel_rfl) (fun _ _ _ h => h) (Or.inl ⟨by rfl, fun w _ => by go_simp⟩) hS284 ?_
          refine wpAnyH_take (i := 6) (v := .agg (frA H)) rfl (by kernel_rfl) (by kernel_rfl) (by kernel_rfl) (fun _ _ _ h => h) (Or.inl ⟨by rfl, fun w _ => by go_simp⟩) hS284 ?_
          refine wpAnyH_take (i := 7) (v := .int .i64 0) rfl (by kernel_rfl) (by kernel_rfl) (by kernel_rfl) (fun _ _ _ h => h) (Or.inl ⟨by rfl, fun w _ => by go_simp⟩) hS284 ?_
          refine wpAnyH_ready (rs := [8]) (by kernel_rfl) (by simp) ?_
          refine AllReadyH.cons rfl (fun K hK => ?_) AllReadyH.nil
          go_simp
          rw [frZ_eq]
          have hal : Below W279.heap.size W279 (W279.alloc (.cells (frA frZ) 29)) := (Below.refl _ _).alloc (Nat.le_refl _) _
          have gt_y : w.heap.size + 3 < W279.heap.size := (unhide HX281).top
          have lt_g_h_y : g_h < W279.heap.size := (unhide HY282).lt
          have HX285 := hide ((unhide HX281).below hal)
          have HY286 := hide ((unhide HY282).below hal (unhide HY282).lt)
          have HY287 : Hid (FAt (W279.alloc (.cells (frA frZ) 29)) W279.heap.size frZ) := hide (FAt.new W279 frZ)
          refine hK.out _ _ (unhide HX285) (fun hS288 => ?_)
          clear hK K hS284 HX281 HY282 hal
          generalize (W279.alloc (.cells (frA frZ) 29)) = W289 at HX285 hS288 HY286 HY287 ⊢
          generalize W279.heap.size = g_y at HY287 gt_y lt_g_h_y ⊢
          clear W279
          refine wpAnyH_ready (rs := [9]) (by kernel_rfl) (by simp) ?_
          refine AllReadyH.cons rfl (fun K hK => ?_) AllReadyH.nil
          rw [if_pos (by rfl)]
          refine wp_store_row 29 _ _ rfl g_y (frA H) rfl rfl 29 (frA frZ) (unhide HY287) (sizeFr hH) (sizeEq frZ_ok hH) (frA_one _) ?_
          have HX290 := hide ((unhide HX285).row (g := g_y) (by omega) (frA H))
          have HY291 : Hid (FAt (W289.setRow g_y (frA H)) g_h H) := hide ((unhide HY286).rowOther H (by omega))
          have HY292 := hide ((unhide HY287).row H)
          refine hK.out _ _ (unhide HX290) (fun hS293 => ?_)
          clear hK K hS288 HX285 HY286 HY287 
          generalize (W289.setRow g_y (frA H)) = W294 at HX290 hS293 HY291 HY292 ⊢
          clear W289
          refine wpAnyH_ready (rs := [10]) (by kernel_rfl) (by simp) ?_
          refine AllReadyH.cons rfl (fun K hK => ?_) AllReadyH.nil
          go_simp
          refine hK.out _ _ (unhide HX290) (fun hS293' => ?_)
          clear hK K
          clear hS293
          refine wpAnyH_done (by kernel_rfl) ?_ _
          clear hS293'
          go_wp2
          go_ret
          exact ⟨rfl, (unhide HX290).bel⟩
        · go_simp
          rw [frZ_eq]
          have hal : Below W274.heap.size W274 (W274.alloc (.cells (frA frZ) 29)) := (Below.refl _ _).alloc (Nat.le_refl _) _
          have gt_y : w.heap.size + 3 < W274.heap.size := (unhide HX276).top
          have lt_g_h_y : g_h < W274.heap.size := (unhide HY277).lt
          have HX295 := hide ((unhide HX276).below hal)
          have HY296 := hide ((unhide HY277).below hal (unhide HY277).lt)
          have HY297 := hide ((unhide HV_y).below hal)
          have HY298 : Hid (FAt (W274.alloc (.cells (frA frZ) 29)) W274.heap.size frZ) := hide (FAt.new W274 frZ)
          refine hK.out _ _ (unhide HX295) (fun hS299 => ?_)
          clear hK K hS278 HX276 HY277 HV_y hal
          generalize (W274.alloc (.cells (frA frZ) 29)) = W300 at HX295 hS299 HY296 HY297 HY298 ⊢
          generalize W274.heap.size = g_y at HY298 gt_y lt_g_h_y ⊢
          clear W274
          have HC_y := (by
                have h := (unhide HY297).apply W300 g (Below.refl _ _) (unhide HGO)
                rw [show frTwo (applyD { s with f := g }) = .tuple #[.agg (frA (applyD { s with f := g }).1), .int .i64 (applyD { s with f := g }).2] from rfl] at h
                rw [unhide HH, unhide HEH] at h
                exact hide h)
          refine wpAnyH_ready (rs := [4]) (by kernel_rfl) (by simp) ?_
          refine AllReadyH.cons rfl (fun K hK => ?_) AllReadyH.nil
          go_simp
          go_wp2_with (go_at_call 7; refine (unhide HC_y).mono ?_; rintro e W301 ⟨rfl, hB302⟩)
          have HX303 := hide ((unhide HX295).below hB302)
          have HY304 := hide ((unhide HY296).below hB302 (unhide HY296).lt)
          have HY305 := hide ((unhide HY297).below hB302)
          have HY306 := hide ((unhide HY298).below hB302 (unhide HY298).lt)
          clear HY305 HC_y
          refine hK.out _ _ (unhide HX303) (fun hS307 => ?_)
          clear hK K hS299 HX295 HY296 HY297 HY298 hB302 W300
          refine wpAnyH_take (i := 5) (v := .tuple #[.agg (frA H), .int .i64 0]) rfl (by kernel_rfl) (by kernel_rfl) (by kernel_rfl) (fun _ _ _ h => h) (Or.inl ⟨by rfl, fun w _ => by go_simp⟩) hS307 ?_
          refine wpAnyH_take (i := 6) (v := .agg (frA H)) rfl (by kernel_rfl) (by kernel_rfl) (by kernel_rfl) (fun _ _ _ h => h) (Or.inl ⟨by rfl, fun w _ => by go_simp⟩) hS307 ?_
          refine wpAnyH_take (i := 7) (v := .int .i64 0) rfl (by kernel_rfl) (by kernel_rfl) (by kernel_rfl) (fun _ _ _ h => h) (Or.inl ⟨by rfl, fun w _ => by go_simp⟩) hS307 ?_
          refine wpAnyH_ready (rs := [9]) (by kernel_rfl) (by simp) ?_
          refine AllReadyH.cons rfl (fun K hK => ?_) AllReadyH.nil
          rw [if_pos (by rfl)]
          refine wp_store_row 29 _ _ rfl g_y (frA H) rfl rfl 29 (frA frZ) (unhide HY306) (sizeFr hH) (sizeEq frZ_ok hH) (frA_one _) ?_
          have HX308 := hide ((unhide HX303).row (g := g_y) (by omega) (frA H))
          have HY309 : Hid (FAt (W301.setRow g_y (frA H)) g_h H) := hide ((unhide HY304).rowOther H (by omega))
          have HY310 := hide ((unhide HY306).row H)
          refine hK.out _ _ (unhide HX308) (fun hS311 => ?_)
          clear hK K hS307 HX303 HY304 HY306 
          generalize (W301.setRow g_y (frA H)) = W312 at HX308 hS311 HY309 HY310 ⊢
          clear W301
          refine wpAnyH_ready (rs := [10]) (by kernel_rfl) (by simp) ?_
          refine AllReadyH.cons rfl (fun K hK => ?_) AllReadyH.nil
          go_simp
          refine hK.out _ _ (unhide HX308) (fun hS311' => ?_)
          clear hK K
          clear hS311
          refine wpAnyH_done (by kernel_rfl) ?_ _
          clear hS311'
          go_wp2
          go_ret
          exact ⟨rfl, (unhide HX308).bel⟩
      · go_simp
        rw [frZ_eq]
        have hal : Below W271.heap.size W271 (W271.alloc (.cells (frA frZ) 29)) := (Below.refl _ _).alloc (Nat.le_refl _) _
        have gt_y : w.heap.size + 3 < W271.heap.size := (unhide HX270).top
        have lt_g_h_y : g_h < W271.heap.size := (unhide HY273).lt
        have HX313 := hide ((unhide HX270).below hal)
        have HY314 := hide ((unhide HY273).below hal (unhide HY273).lt)
        have HY315 : Hid (FAt (W271.alloc (.cells (frA frZ) 29)) W271.heap.size frZ) := hide (FAt.new W271 frZ)
        refine hK.out _ _ (unhide HX313) (fun hS316 => ?_)
        clear hK K hS272 HX270 HY273 hal
        generalize (W271.alloc (.cells (frA frZ) 29)) = W317 at HX313 hS316 HY314 HY315 ⊢
        generalize W271.heap.size = g_y at HY315 gt_y lt_g_h_y ⊢
        clear W271
        refine wpAnyH_ready (rs := [1]) (by kernel_rfl) (by simp) ?_
        refine AllReadyH.cons rfl (fun K hK => ?_) AllReadyH.nil
        go_simp
        go_wp2_with (go_at_call 6; refine (unhide HEV W317 (unhide HX313).bel).mono ?_; rintro e W318 ⟨⟨v_y, rfl, hv⟩, hB319⟩)
        have HX320 := hide ((unhide HX313).below hB319)
        have HY321 := hide ((unhide HY314).below hB319 (unhide HY314).lt)
        have HY322 := hide ((unhide HY315).below hB319 (unhide HY315).lt)
        have HV_y := hide hv
        clear hv
        refine hK.out _ _ (unhide HX320) (fun hS323 => ?_)
        clear hK K hS316 HX313 HY314 HY315 hB319 W317
        have HC_y := (by
              have h := (unhide HV_y).apply W318 g (Below.refl _ _) (unhide HGO)
              rw [show frTwo (applyD { s with f := g }) = .tuple #[.agg (frA (applyD { s with f := g }).1), .int .i64 (applyD { s with f := g }).2] from rfl] at h
              rw [unhide HH, unhide HEH] at h
              exact hide h)
        refine wpAnyH_ready (rs := [4]) (by kernel_rfl) (by simp) ?_
        refine AllReadyH.cons rfl (fun K hK => ?_) AllReadyH.nil
        go_simp
        go_wp2_with (go_at_call 7; refine (unhide HC_y).mono ?_; rintro e W324 ⟨rfl, hB325⟩)
        have HX326 := hide ((unhide HX320).below hB325)
        have HY327 := hide ((unhide HY321).below hB325 (unhide HY321).lt)
        have HY328 := hide ((unhide HY322).below hB325 (unhide HY322).lt)
        have HY329 := hide ((unhide HV_y).below hB325)
        clear HY329 HC_y
        refine hK.out _ _ (unhide HX326) (fun hS330 => ?_)
        clear hK K hS323 HX320 HY321 HY322 HV_y hB325 W318
        refine wpAnyH_take (i := 5) (v := .tuple #[.agg (frA H), .int .i64 0]) rfl (by kernel_rfl) (by kernel_rfl) (by kernel_rfl) (fun _ _ _ h => h) (Or.inl ⟨by rfl, fun w _ => by go_simp⟩) hS330 ?_
        refine wpAnyH_take (i := 6) (v := .agg (frA H)) rfl (by kernel_rfl) (by kernel_rfl) (by kernel_rfl) (fun _ _ _ h => h) (Or.inl ⟨by rfl, fun w _ => by go_simp⟩) hS330 ?_
        refine wpAnyH_take (i := 7) (v := .int .i64 0) rfl (by kernel_rfl) (by kernel_rfl) (by kernel_rfl) (fun _ _ _ h => h) (Or.inl ⟨by rfl, fun w _ => by go_simp⟩) hS330 ?_
        refine wpAnyH_ready (rs := [9]) (by kernel_rfl) (by simp) ?_
        refine AllReadyH.cons rfl (fun K hK => ?_) AllReadyH.nil
        rw [if_pos (by rfl)]
        refine wp_store_row 29 _ _ rfl g_y (frA H) rfl rfl 29 (frA frZ) (unhide HY328) (sizeFr hH) (sizeEq frZ_ok hH) (frA_one _) ?_
        have HX331 := hide ((unhide HX326).row (g := g_y) (by omega) (frA H))
        have HY332 : Hid (FAt (W324.setRow g_y (frA H)) g_h H) := hide ((unhide HY327).rowOther H (by omega))
        have HY333 := hide ((unhide HY328).row H)
        refine hK.out _ _ (unhide HX331) (fun hS334 => ?_)
        clear hK K hS330 HX326 HY327 HY328 
        generalize (W324.setRow g_y (frA H)) = W335 at HX331 hS334 HY332 HY333 ⊢
        clear W324
        refine wpAnyH_ready (rs := [10]) (by kernel_rfl) (by simp) ?_
        refine AllReadyH.cons rfl (fun K hK => ?_) AllReadyH.nil
        go_simp
        refine hK.out _ _ (unhide HX331) (fun hS334' => ?_)
        clear hK K
        clear hS334
        refine wpAnyH_done (by kernel_rfl) ?_ _
        clear hS334'
        go_wp2
        go_ret
        exact ⟨rfl, (unhide HX331).bel⟩
    obtain ⟨e0, e1⟩ := unhide HEN (unhide HEQ) hsub
    have HE1 := hide e1
    rw [e0] at HER
    clear e0 e1 hsub HEN
    go_upto_region 5 with fail
    have HX336 := hide ((unhide HX268).below (below_drew W93 1))
    have HY339 := hide ((unhide HY269).below (below_drew W93 1) (unhide HY269).lt)
    refine wp_region_held_drew (S := fun w' => H4 w w' s g) (by kernel_rfl) (unhide HX336) (fun hS338 => ?_)
    clear HX268 HY269
    generalize hWd : W93.drewN 1 = W337 at HX336 HY339
    change W93.drew = W337 at hWd
    rw [hWd] at hS338 ⊢
    clear hWd W93
    refine wpAnyH_take (i := 0) (v := .agg #[.slice s.ao s.T.length s.cap, .slice s.so s.L.length s.sc, .int .i64 s.fn]) rfl (by kernel_rfl) (by kernel_rfl) (by kernel_rfl) (fun _ _ _ h => h) (yieldsIf_load_mid (by rfl) 25 _ rfl w.heap.size 0 rfl _ _ (fun _ h => box_range (h.e)) Tryz.underlying25 rfl (by kernel_rfl)) hS338 ?_
    refine wpAnyH_take (i := 2) (v := .agg (frA s.f)) rfl (by kernel_rfl) (by kernel_rfl) (by kernel_rfl) (fun _ _ _ h => h) (yieldsIf_load_fr (by rfl) _ rfl (w.heap.size + 1) rfl s.f (unhide HFO) (fun _ h => h.f)) hS338 ?_
    refine wpAnyH_take (i := 3) (v := .agg #[.int .i64 s.p, .int .u8 (s.op : Int), .int .i64 s.a, .int .i64 s.b]) rfl (by kernel_rfl) (by kernel_rfl) (by kernel_rfl) (fun _ _ _ h => h) (yieldsIf_load_mid (by rfl) 31 _ rfl (w.heap.size + 3) 0 rfl _ _ (fun _ h => box_range (h.i)) Tryz.underlying31 rfl (by kernel_rfl)) hS338 ?_
    refine wpAnyH_ready (rs := [1, 8]) (by kernel_rfl) (by simp) ?_
    refine (AllReadyH.cons rfl (fun K hK => ?_) (AllReadyH.cons rfl (fun K hK => ?_) AllReadyH.nil))
    · go_simp
      go_wp2_with (go_at_call 6; refine (unhide HEV W337 (unhide HX336).bel).mono ?_; rintro e W340 ⟨⟨v_u, rfl, hv⟩, hB341⟩)
      have HX342 := hide ((unhide HX336).below hB341)
      have HY343 := hide ((unhide HY339).below hB341 (unhide HY339).lt)
      have HV_u := hide hv
      clear hv
      refine hK.out _ _ (unhide HX342) (fun hS344 => ?_)
      clear hK K hS338 HX336 HY339 hB341 W337
      refine wpAnyH_ready (rs := [4, 8]) (by kernel_rfl) (by simp) ?_
      refine (AllReadyH.cons rfl (fun K hK => ?_) (AllReadyH.cons rfl (fun K hK => ?_) AllReadyH.nil))
      · have HC_u := (by
              have h := (unhide HV_u).apply W340 s.f (Below.refl _ _) (unhide HFO)
              rw [show frTwo (applyD { s with f := s.f }) = .tuple #[.agg (frA (applyD { s with f := s.f }).1), .int .i64 (applyD { s with f := s.f }).2] from rfl] at h
              rw [show (applyD { s with f := s.f }).1 = F from unhide HF, show (applyD { s with f := s.f }).2 = 0 from unhide HER] at h
              exact hide h)
        go_simp
        go_wp2_with (go_at_call 7; refine (unhide HC_u).mono ?_; rintro e W345 ⟨rfl, hB346⟩)
        have HX347 := hide ((unhide HX342).below hB346)
        have HY348 := hide ((unhide HY343).below hB346 (unhide HY343).lt)
        have HY349 := hide ((unhide HV_u).below hB346)
        clear HY349 HC_u
        refine hK.out _ _ (unhide HX347) (fun hS350 => ?_)
        clear hK K hS344 HX342 HY343 HV_u hB346 W340
        refine wpAnyH_take (i := 5) (v := .tuple #[.agg (frA F), .int .i64 0]) rfl (by kernel_rfl) (by kernel_rfl) (by kernel_rfl) (fun _ _ _ h => h) (Or.inl ⟨by rfl, fun w _ => by go_simp⟩) hS350 ?_
        refine wpAnyH_take (i := 6) (v := .agg (frA F)) rfl (by kernel_rfl) (by kernel_rfl) (by kernel_rfl) (fun _ _ _ h => h) (Or.inl ⟨by rfl, fun w _ => by go_simp⟩) hS350 ?_
        refine wpAnyH_take (i := 7) (v := .int .i64 0) rfl (by kernel_rfl) (by kernel_rfl) (by kernel_rfl) (fun _ _ _ h => h) (Or.inl ⟨by rfl, fun w _ => by go_simp⟩) hS350 ?_
        refine wpAnyH_ready (rs := [8]) (by kernel_rfl) (by simp) ?_
        refine AllReadyH.cons rfl (fun K hK => ?_) AllReadyH.nil
        go_simp
        rw [frZ_eq]
        have hal : Below W345.heap.size W345 (W345.alloc (.cells (frA frZ) 29)) := (Below.refl _ _).alloc (Nat.le_refl _) _
        have gt_u : w.heap.size + 3 < W345.heap.size := (unhide HX347).top
        have lt_g_h_u : g_h < W345.heap.size := (unhide HY348).lt
        have HX351 := hide ((unhide HX347).below hal)
        have HY352 := hide ((unhide HY348).below hal (unhide HY348).lt)
        have HY353 : Hid (FAt (W345.alloc (.cells (frA frZ) 29)) W345.heap.size frZ) := hide (FAt.new W345 frZ)
        refine hK.out _ _ (unhide HX351) (fun hS354 => ?_)
        clear hK K hS350 HX347 HY348 hal
        generalize (W345.alloc (.cells (frA frZ) 29)) = W355 at HX351 hS354 HY352 HY353 ⊢
        generalize W345.heap.size = g_u at HY353 gt_u lt_g_h_u ⊢
        clear W345
        refine wpAnyH_ready (rs := [9]) (by kernel_rfl) (by simp) ?_
        refine AllReadyH.cons rfl (fun K hK => ?_) AllReadyH.nil
        rw [if_pos (by rfl)]
        refine wp_store_row 29 _ _ rfl g_u (frA F) rfl rfl 29 (frA frZ) (unhide HY353) (sizeFr hF) (sizeEq frZ_ok hF) (frA_one _) ?_
        have HX356 := hide ((unhide HX351).row (g := g_u) (by omega) (frA F))
        have HY357 : Hid (FAt (W355.setRow g_u (frA F)) g_h H) := hide ((unhide HY352).rowOther F (by omega))
        have HY358 := hide ((unhide HY353).row F)
        refine hK.out _ _ (unhide HX356) (fun hS359 => ?_)
        clear hK K hS354 HX351 HY352 HY353 
        generalize (W355.setRow g_u (frA F)) = W360 at HX356 hS359 HY357 HY358 ⊢
        clear W355
        refine wpAnyH_ready (rs := [10]) (by kernel_rfl) (by simp) ?_
        refine AllReadyH.cons rfl (fun K hK => ?_) AllReadyH.nil
        go_simp
        refine hK.out _ _ (unhide HX356) (fun hS359' => ?_)
        clear hK K
        clear hS359
        refine wpAnyH_done (by kernel_rfl) ?_ _
        clear hS359'
        go_upto_region 6 with fail
        have HX361 := hide ((unhide HX356).below (below_drew W360 1))
        have HY364 := hide ((unhide HY357).below (below_drew W360 1) (unhide HY357).lt)
        have HY365 := hide ((unhide HY358).below (below_drew W360 1) (unhide HY358).lt)
        refine wp_region_held_drew (S := fun w' => H4 w w' s g) (by kernel_rfl) (unhide HX361) (fun hS363 => ?_)
        clear HX356 HY357 HY358
        generalize hWd : W360.drewN 1 = W362 at HX361 HY364 HY365
        change W360.drew = W362 at hWd
        rw [hWd] at hS363 ⊢
        clear hWd W360
        refine wpAnyH_take (i := 0) (v := .agg #[.slice s.ao s.T.length s.cap, .slice s.so s.L.length s.sc, .int .i64 s.fn]) rfl (by kernel_rfl) (by kernel_rfl) (by kernel_rfl) (fun _ _ _ h => h) (yieldsIf_load_mid (by rfl) 25 _ rfl w.heap.size 0 rfl _ _ (fun _ h => box_range (h.e)) Tryz.underlying25 rfl (by kernel_rfl)) hS363 ?_
        refine wpAnyH_take (i := 2) (v := .agg (frA g)) rfl (by kernel_rfl) (by kernel_rfl) (by kernel_rfl) (fun _ _ _ h => h) (yieldsIf_load_fr (by rfl) _ rfl (w.heap.size + 2) rfl g (unhide HGO) (fun _ h => h.g)) hS363 ?_
        refine wpAnyH_take (i := 3) (v := .agg #[.int .i64 s.p, .int .u8 (s.op : Int), .int .i64 s.a, .int .i64 s.b]) rfl (by kernel_rfl) (by kernel_rfl) (by kernel_rfl) (fun _ _ _ h => h) (yieldsIf_load_mid (by rfl) 31 _ rfl (w.heap.size + 3) 0 rfl _ _ (fun _ h => box_range (h.i)) Tryz.underlying31 rfl (by kernel_rfl)) hS363 ?_
        refine wpAnyH_ready (rs := [1, 8]) (by kernel_rfl) (by simp) ?_
        refine (AllReadyH.cons rfl (fun K hK => ?_) (AllReadyH.cons rfl (fun K hK => ?_) AllReadyH.nil))
        · go_simp
          go_wp2_with (go_at_call 6; refine (unhide HEV W362 (unhide HX361).bel).mono ?_; rintro e W366 ⟨⟨v_v, rfl, hv⟩, hB367⟩)
          have HX368 := hide ((unhide HX361).below hB367)
          have HY369 := hide ((unhide HY364).below hB367 (unhide HY364).lt)
          have HY370 := hide ((unhide HY365).below hB367 (unhide HY365).lt)
          have HV_v := hide hv
          clear hv
          refine hK.out _ _ (unhide HX368) (fun hS371 => ?_)
          clear hK K hS363 HX361 HY364 HY365 hB367 W362
          refine wpAnyH_ready (rs := [4, 8]) (by kernel_rfl) (by simp) ?_
          refine (AllReadyH.cons rfl (fun K hK => ?_) (AllReadyH.cons rfl (fun K hK => ?_) AllReadyH.nil))
          · have HC_v := (by
                  have h := (unhide HV_v).apply W366 g (Below.refl _ _) (unhide HGO)
                  rw [show frTwo (applyD { s with f := g }) = .tuple #[.agg (frA (applyD { s with f := g }).1), .int .i64 (applyD { s with f := g }).2] from rfl] at h
                  rw [unhide HH, unhide HEH] at h
                  exact hide h)
            go_simp
            go_wp2_with (go_at_call 7; refine (unhide HC_v).mono ?_; rintro e W372 ⟨rfl, hB373⟩)
            have HX374 := hide ((unhide HX368).below hB373)
            have HY375 := hide ((unhide HY369).below hB373 (unhide HY369).lt)
            have HY376 := hide ((unhide HY370).below hB373 (unhide HY370).lt)
            have HY377 := hide ((unhide HV_v).below hB373)
            clear HY377 HC_v
            refine hK.out _ _ (unhide HX374) (fun hS378 => ?_)
            clear hK K hS371 HX368 HY369 HY370 HV_v hB373 W366
            refine wpAnyH_take (i := 5) (v := .tuple #[.agg (frA H), .int .i64 0]) rfl (by kernel_rfl) (by kernel_rfl) (by kernel_rfl) (fun _ _ _ h => h) (Or.inl ⟨by rfl, fun w _ => by go_simp⟩) hS378 ?_
            refine wpAnyH_take (i := 6) (v := .agg (frA H)) rfl (by kernel_rfl) (by kernel_rfl) (by kernel_rfl) (fun _ _ _ h => h) (Or.inl ⟨by rfl, fun w _ => by go_simp⟩) hS378 ?_
            refine wpAnyH_take (i := 7) (v := .int .i64 0) rfl (by kernel_rfl) (by kernel_rfl) (by kernel_rfl) (fun _ _ _ h => h) (Or.inl ⟨by rfl, fun w _ => by go_simp⟩) hS378 ?_
            refine wpAnyH_ready (rs := [8]) (by kernel_rfl) (by simp) ?_
            refine AllReadyH.cons rfl (fun K hK => ?_) AllReadyH.nil
            go_simp
            rw [frZ_eq]
            have hal : Below W372.heap.size W372 (W372.alloc (.cells (frA frZ) 29)) := (Below.refl _ _).alloc (Nat.le_refl _) _
            have gt_v : w.heap.size + 3 < W372.heap.size := (unhide HX374).top
            have lt_g_h_v : g_h < W372.heap.size := (unhide HY375).lt
            have lt_g_u_v : g_u < W372.heap.size := (unhide HY376).lt
            have HX379 := hide ((unhide HX374).below hal)
            have HY380 := hide ((unhide HY375).below hal (unhide HY375).lt)
            have HY381 := hide ((unhide HY376).below hal (unhide HY376).lt)
            have HY382 : Hid (FAt (W372.alloc (.cells (frA frZ) 29)) W372.heap.size frZ) := hide (FAt.new W372 frZ)
            refine hK.out _ _ (unhide HX379) (fun hS383 => ?_)
            clear hK K hS378 HX374 HY375 HY376 hal
            generalize (W372.alloc (.cells (frA frZ) 29)) = W384 at HX379 hS383 HY380 HY381 HY382 ⊢
            generalize W372.heap.size = g_v at HY382 gt_v lt_g_h_v lt_g_u_v ⊢
            clear W372
            refine wpAnyH_ready (rs := [9]) (by kernel_rfl) (by simp) ?_
            refine AllReadyH.cons rfl (fun K hK => ?_) AllReadyH.nil
            rw [if_pos (by rfl)]
            refine wp_store_row 29 _ _ rfl g_v (frA H) rfl rfl 29 (frA frZ) (unhide HY382) (sizeFr hH) (sizeEq frZ_ok hH) (frA_one _) ?_
            have HX385 := hide ((unhide HX379).row (g := g_v) (by omega) (frA H))
            have HY386 : Hid (FAt (W384.setRow g_v (frA H)) g_h H) := hide ((unhide HY380).rowOther H (by omega))
            have HY387 : Hid (FAt (W384.setRow g_v (frA H)) g_u F) := hide ((unhide HY381).rowOther H (by omega))
            have HY388 := hide ((unhide HY382).row H)
            refine hK.out _ _ (unhide HX385) (fun hS389 => ?_)
            clear hK K hS383 HX379 HY380 HY381 HY382 
            generalize (W384.setRow g_v (frA H)) = W390 at HX385 hS389 HY386 HY387 HY388 ⊢
            clear W384
            refine wpAnyH_ready (rs := [10]) (by kernel_rfl) (by simp) ?_
            refine AllReadyH.cons rfl (fun K hK => ?_) AllReadyH.nil
            go_simp
            refine hK.out _ _ (unhide HX385) (fun hS389' => ?_)
            clear hK K
            clear hS389
            refine wpAnyH_done (by kernel_rfl) ?_ _
            clear hS389'
            go_upto_region 7 with fail
            have k0 := (unhide HX385).e.c0
            have HSB := hide (unhide HSF W390 (unhide HX385).bel (unhide HMD) F H hF hH)
            rw [unhide HE1] at HSB
            have hq := eqlFr_same hH
            go_wp2_with (first | (refine wpList_load_rowG (by kernel_rfl) 29 (.tmp 15) rfl g_v rfl 29 (frA H) (0, 0) _ (unhide HY388) Tryz.underlying29 rfl (sizeFr hH) ?_) | (refine wpList_load_rowG (by kernel_rfl) 29 (.tmp 9) rfl g_h rfl 29 (frA H) (0, 0) _ (unhide HY386) Tryz.underlying29 rfl (sizeFr hH) ?_) | (refine wpList_load_rowG (by kernel_rfl) 29 (.tmp 13) rfl g_u rfl 29 (frA F) (0, 0) _ (unhide HY387) Tryz.underlying29 rfl (sizeFr hF) ?_))
            refine (unhide HSB).mono ?_
            rintro e W99 ⟨rfl, hB99⟩
            have HB99 : Hid (Below w.heap.size w W99) := hide ((unhide HX385).bel.trans (hB99.mono (unhide HX385).bel.size))
            clear hB99
            go_wp2
            go_ret
            exact ⟨rfl, unhide HB99⟩
          · go_simp
            rw [frZ_eq]
            have hal : Below W366.heap.size W366 (W366.alloc (.cells (frA frZ) 29)) := (Below.refl _ _).alloc (Nat.le_refl _) _
            have gt_v : w.heap.size + 3 < W366.heap.size := (unhide HX368).top
            have lt_g_h_v : g_h < W366.heap.size := (unhide HY369).lt
            have lt_g_u_v : g_u < W366.heap.size := (unhide HY370).lt
            have HX391 := hide ((unhide HX368).below hal)
            have HY392 := hide ((unhide HY369).below hal (unhide HY369).lt)
            have HY393 := hide ((unhide HY370).below hal (unhide HY370).lt)
            have HY394 := hide ((unhide HV_v).below hal)
            have HY395 : Hid (FAt (W366.alloc (.cells (frA frZ) 29)) W366.heap.size frZ) := hide (FAt.new W366 frZ)
            refine hK.out _ _ (unhide HX391) (fun hS396 => ?_)
            clear hK K hS371 HX368 HY369 HY370 HV_v hal
            generalize (W366.alloc (.cells (frA frZ) 29)) = W397 at HX391 hS396 HY392 HY393 HY394 HY395 ⊢
            generalize W366.heap.size = g_v at HY395 gt_v lt_g_h_v lt_g_u_v ⊢
            clear W366
            have HC_v := (by
                  have h := (unhide HY394).apply W397 g (Below.refl _ _) (unhide HGO)
                  rw [show frTwo (applyD { s with f := g }) = .tuple #[.agg (frA (applyD { s with f := g }).1), .int .i64 (applyD { s with f := g }).2] from rfl] at h
                  rw [unhide HH, unhide HEH] at h
                  exact hide h)
            refine wpAnyH_ready (rs := [4]) (by kernel_rfl) (by simp) ?_
            refine AllReadyH.cons rfl (fun K hK => ?_) AllReadyH.nil
            go_simp
            go_wp2_with (go_at_call 7; refine (unhide HC_v).mono ?_; rintro e W398 ⟨rfl, hB399⟩)
            have HX400 := hide ((unhide HX391).below hB399)
            have HY401 := hide ((unhide HY392).below hB399 (unhide HY392).lt)
            have HY402 := hide ((unhide HY393).below hB399 (unhide HY393).lt)
            have HY403 := hide ((unhide HY394).below hB399)
            have HY404 := hide ((unhide HY395).below hB399 (unhide HY395).lt)
            clear HY403 HC_v
            refine hK.out _ _ (unhide HX400) (fun hS405 => ?_)
            clear hK K hS396 HX391 HY392 HY393 HY394 HY395 hB399 W397
            refine wpAnyH_take (i := 5) (v := .tuple #[.agg (frA H), .int .i64 0]) rfl (by kernel_rfl) (by kernel_rfl) (by kernel_rfl) (fun _ _ _ h => h) (Or.inl ⟨by rfl, fun w _ => by go_simp⟩) hS405 ?_
            refine wpAnyH_take (i := 6) (v := .agg (frA H)) rfl (by kernel_rfl) (by kernel_rfl) (by kernel_rfl) (fun _ _ _ h => h) (Or.inl ⟨by rfl, fun w _ => by go_simp⟩) hS405 ?_
            refine wpAnyH_take (i := 7) (v := .int .i64 0) rfl (by kernel_rfl) (by kernel_rfl) (by kernel_rfl) (fun _ _ _ h => h) (Or.inl ⟨by rfl, fun w _ => by go_simp⟩) hS405 ?_
            refine wpAnyH_ready (rs := [9]) (by kernel_rfl) (by simp) ?_
            refine AllReadyH.cons rfl (fun K hK => ?_) AllReadyH.nil
            rw [if_pos (by rfl)]
            refine wp_store_row 29 _ _ rfl g_v (frA H) rfl rfl 29 (frA frZ) (unhide HY404) (sizeFr hH) (sizeEq frZ_ok hH) (frA_one _) ?_
            have HX406 := hide ((unhide HX400).row (g := g_v) (by omega) (frA H))
            have HY407 : Hid (FAt (W398.setRow g_v (frA H)) g_h H) := hide ((unhide HY401).rowOther H (by omega))
            have HY408 : Hid (FAt (W398.setRow g_v (frA H)) g_u F) := hide ((unhide HY402).rowOther H (by omega))
            have HY409 := hide ((unhide HY404).row H)
            refine hK.out _ _ (unhide HX406) (fun hS410 => ?_)
            clear hK K hS405 HX400 HY401 HY402 HY404 
            generalize (W398.setRow g_v (frA H)) = W411 at HX406 hS410 HY407 HY408 HY409 ⊢
            clear W398
            refine wpAnyH_ready (rs := [10]) (by kernel_rfl) (by simp) ?_
            refine AllReadyH.cons rfl (fun K hK => ?_) AllReadyH.nil
            go_simp
            refine hK.out _ _ (unhide HX406) (fun hS410' => ?_)
            clear hK K
            clear hS410
            refine wpAnyH_done (by kernel_rfl) ?_ _
            clear hS410'
            go_upto_region 7 with fail
            have k0 := (unhide HX406).e.c0
            have HSB := hide (unhide HSF W411 (unhide HX406).bel (unhide HMD) F H hF hH)
            rw [unhide HE1] at HSB
            have hq := eqlFr_same hH
            go_wp2_with (first | (refine wpList_load_rowG (by kernel_rfl) 29 (.tmp 15) rfl g_v rfl 29 (frA H) (0, 0) _ (unhide HY409) Tryz.underlying29 rfl (sizeFr hH) ?_) | (refine wpList_load_rowG (by kernel_rfl) 29 (.tmp 9) rfl g_h rfl 29 (frA H) (0, 0) _ (unhide HY407) Tryz.underlying29 rfl (sizeFr hH) ?_) | (refine wpList_load_rowG (by kernel_rfl) 29 (.tmp 13) rfl g_u rfl 29 (frA F) (0, 0) _ (unhide HY408) Tryz.underlying29 rfl (sizeFr hF) ?_))
            refine (unhide HSB).mono ?_
            rintro e W99 ⟨rfl, hB99⟩
            have HB99 : Hid (Below w.heap.size w W99) := hide ((unhide HX406).bel.trans (hB99.mono (unhide HX406).bel.size))
            clear hB99
            go_wp2
            go_ret
            exact ⟨rfl, unhide HB99⟩
        · go_simp
          rw [frZ_eq]
          have hal : Below W362.heap.size W362 (W362.alloc (.cells (frA frZ) 29)) := (Below.refl _ _).alloc (Nat.le_refl _) _
          have gt_v : w.heap.size + 3 < W362.heap.size := (unhide HX361).top
          have lt_g_h_v : g_h < W362.heap.size := (unhide HY364).lt
          have lt_g_u_v : g_u < W362.heap.size := (unhide HY365).lt
          have HX412 := hide ((unhide HX361).below hal)
          have HY413 := hide ((unhide HY364).below hal (unhide HY364).lt)
          have HY414 := hide ((unhide HY365).below hal (unhide HY365).lt)
          have HY415 : Hid (FAt (W362.alloc (.cells (frA frZ) 29)) W362.heap.size frZ) := hide (FAt.new W362 frZ)
          refine hK.out _ _ (unhide HX412) (fun hS416 => ?_)
          clear hK K hS363 HX361 HY364 HY365 hal
          generalize (W362.alloc (.cells (frA frZ) 29)) = W417 at HX412 hS416 HY413 HY414 HY415 ⊢
          generalize W362.heap.size = g_v at HY415 gt_v lt_g_h_v lt_g_u_v ⊢
          clear W362
          refine wpAnyH_ready (rs := [1]) (by kernel_rfl) (by simp) ?_
          refine AllReadyH.cons rfl (fun K hK => ?_) AllReadyH.nil
          go_simp
          go_wp2_with (go_at_call 6; refine (unhide HEV W417 (unhide HX412).bel).mono ?_; rintro e W418 ⟨⟨v_v, rfl, hv⟩, hB419⟩)
          have HX420 := hide ((unhide HX412).below hB419)
          have HY421 := hide ((unhide HY413).below hB419 (unhide HY413).lt)
          have HY422 := hide ((unhide HY414).below hB419 (unhide HY414).lt)
          have HY423 := hide ((unhide HY415).below hB419 (unhide HY415).lt)
          have HV_v := hide hv
          clear hv
          refine hK.out _ _ (unhide HX420) (fun hS424 => ?_)
          clear hK K hS416 HX412 HY413 HY414 HY415 hB419 W417
          have HC_v := (by
                have h := (unhide HV_v).apply W418 g (Below.refl _ _) (unhide HGO)
                rw [show frTwo (applyD { s with f := g }) = .tuple #[.agg (frA (applyD { s with f := g }).1), .int .i64 (applyD { s with f := g }).2] from rfl] at h
                rw [unhide HH, unhide HEH] at h
                exact hide h)
          refine wpAnyH_ready (rs := [4]) (by kernel_rfl) (by simp) ?_
          refine AllReadyH.cons rfl (fun K hK => ?_) AllReadyH.nil
          go_simp
          go_wp2_with (go_at_call 7; refine (unhide HC_v).mono ?_; rintro e W425 ⟨rfl, hB426⟩)
          have HX427 := hide ((unhide HX420).below hB426)
          have HY428 := hide ((unhide HY421).below hB426 (unhide HY421).lt)
          have HY429 := hide ((unhide HY422).below hB426 (unhide HY422).lt)
          have HY430 := hide ((unhide HY423).below hB426 (unhide HY423).lt)
          have HY431 := hide ((unhide HV_v).below hB426)
          clear HY431 HC_v
          refine hK.out _ _ (unhide HX427) (fun hS432 => ?_)
          clear hK K hS424 HX420 HY421 HY422 HY423 HV_v hB426 W418
          refine wpAnyH_take (i := 5) (v := .tuple #[.agg (frA H), .int .i64 0]) rfl (by kernel_rfl) (by kernel_rfl) (by kernel_rfl) (fun _ _ _ h => h) (Or.inl ⟨by rfl, fun w _ => by go_simp⟩) hS432 ?_
          refine wpAnyH_take (i := 6) (v := .agg (frA H)) rfl (by kernel_rfl) (by kernel_rfl) (by kernel_rfl) (fun _ _ _ h => h) (Or.inl ⟨by rfl, fun w _ => by go_simp⟩) hS432 ?_
          refine wpAnyH_take (i := 7) (v := .int .i64 0) rfl (by kernel_rfl) (by kernel_rfl) (by kernel_rfl) (fun _ _ _ h => h) (Or.inl ⟨by rfl, fun w _ => by go_simp⟩) hS432 ?_
          refine wpAnyH_ready (rs := [9]) (by kernel_rfl) (by simp) ?_
          refine AllReadyH.cons rfl (fun K hK => ?_) AllReadyH.nil
          rw [if_pos (by rfl)]
          refine wp_store_row 29 _ _ rfl g_v (frA H) rfl rfl 29 (frA frZ) (unhide HY430) (sizeFr hH) (sizeEq frZ_ok hH) (frA_one _) ?_
          have HX433 := hide ((unhide HX427).row (g := g_v) (by omega) (frA H))
          have HY434 : Hid (FAt (W425.setRow g_v (frA H)) g_h H) := hide ((unhide HY428).rowOther H (by omega))
          have HY435 : Hid (FAt (W425.setRow g_v (frA H)) g_u F) := hide ((unhide HY429).rowOther H (by omega))
          have HY436 := hide ((unhide HY430).row H)
          refine hK.out _ _ (unhide HX433) (fun hS437 => ?_)
          clear hK K hS432 HX427 HY428 HY429 HY430 
          generalize (W425.setRow g_v (frA H)) = W438 at HX433 hS437 HY434 HY435 HY436 ⊢
          clear W425
          refine wpAnyH_ready (rs := [10]) (by kernel_rfl) (by simp) ?_
          refine AllReadyH.cons rfl (fun K hK => ?_) AllReadyH.nil
          go_simp
          refine hK.out _ _ (unhide HX433) (fun hS437' => ?_)
          clear hK K
          clear hS437
          refine wpAnyH_done (by kernel_rfl) ?_ _
          clear hS437'
          go_upto_region 7 with fail
          have k0 := (unhide HX433).e.c0
          have HSB := hide (unhide HSF W438 (unhide HX433).bel (unhide HMD) F H hF hH)
          rw [unhide HE1] at HSB
          have hq := eqlFr_same hH
          go_wp2_with (first | (refine wpList_load_rowG (by kernel_rfl) 29 (.tmp 15) rfl g_v rfl 29 (frA H) (0, 0) _ (unhide HY436) Tryz.underlying29 rfl (sizeFr hH) ?_) | (refine wpList_load_rowG (by kernel_rfl) 29 (.tmp 9) rfl g_h rfl 29 (frA H) (0, 0) _ (unhide HY434) Tryz.underlying29 rfl (sizeFr hH) ?_) | (refine wpList_load_rowG (by kernel_rfl) 29 (.tmp 13) rfl g_u rfl 29 (frA F) (0, 0) _ (unhide HY435) Tryz.underlying29 rfl (sizeFr hF) ?_))
          refine (unhide HSB).mono ?_
          rintro e W99 ⟨rfl, hB99⟩
          have HB99 : Hid (Below w.heap.size w W99) := hide ((unhide HX433).bel.trans (hB99.mono (unhide HX433).bel.size))
          clear hB99
          go_wp2
          go_ret
          exact ⟨rfl, unhide HB99⟩
      · go_simp
        rw [frZ_eq]
        have hal : Below W340.heap.size W340 (W340.alloc (.cells (frA frZ) 29)) := (Below.refl _ _).alloc (Nat.le_refl _) _
        have gt_u : w.heap.size + 3 < W340.heap.size := (unhide HX342).top
        have lt_g_h_u : g_h < W340.heap.size := (unhide HY343).lt
        have HX439 := hide ((unhide HX342).below hal)
        have HY440 := hide ((unhide HY343).below hal (unhide HY343).lt)
        have HY441 := hide ((unhide HV_u).below hal)
        have HY442 : Hid (FAt (W340.alloc (.cells (frA frZ) 29)) W340.heap.size frZ) := hide (FAt.new W340 frZ)
        refine hK.out _ _ (unhide HX439) (fun hS443 => ?_)
        clear hK K hS344 HX342 HY343 HV_u hal
        generalize (W340.alloc (.cells (frA frZ) 29)) = W444 at HX439 hS443 HY440 HY441 HY442 ⊢
        generalize W340.heap.size = g_u at HY442 gt_u lt_g_h_u ⊢
        clear W340
        have HC_u := (by
              have h := (unhide HY441).apply W444 s.f (Below.refl _ _) (unhide HFO)
              rw [show frTwo (applyD { s with f := s.f }) = .tuple #[.agg (frA (applyD { s with f := s.f }).1), .int .i64 (applyD { s with f := s.f }).2] from rfl] at h
              rw [show (applyD { s with f := s.f }).1 = F from unhide HF, show (applyD { s with f := s.f }).2 = 0 from unhide HER] at h
              exact hide h)
        refine wpAnyH_ready (rs := [4]) (by kernel_rfl) (by simp) ?_
        refine AllReadyH.cons rfl (fun K hK => ?_) AllReadyH.nil
        go_simp
        go_wp2_with (go_at_call 7; refine (unhide HC_u).mono ?_; rintro e W445 ⟨rfl, hB446⟩)
        have HX447 := hide ((unhide HX439).below hB446)
        have HY448 := hide ((unhide HY440).below hB446 (unhide HY440).lt)
        have HY449 := hide ((unhide HY441).below hB446)
        have HY450 := hide ((unhide HY442).below hB446 (unhide HY442).lt)
        clear HY449 HC_u
        refine hK.out _ _ (unhide HX447) (fun hS451 => ?_)
        clear hK K hS443 HX439 HY440 HY441 HY442 hB446 W444
        refine wpAnyH_take (i := 5) (v := .tuple #[.agg (frA F), .int .i64 0]) rfl (by kernel_rfl) (by kernel_rfl) (by kernel_rfl) (fun _ _ _ h => h) (Or.inl ⟨by rfl, fun w _ => by go_simp⟩) hS451 ?_
        refine wpAnyH_take (i := 6) (v := .agg (frA F)) rfl (by kernel_rfl) (by kernel_rfl) (by kernel_rfl) (fun _ _ _ h => h) (Or.inl ⟨by rfl, fun w _ => by go_simp⟩) hS451 ?_
        refine wpAnyH_take (i := 7) (v := .int .i64 0) rfl (by kernel_rfl) (by kernel_rfl) (by kernel_rfl) (fun _ _ _ h => h) (Or.inl ⟨by rfl, fun w _ => by go_simp⟩) hS451 ?_
        refine wpAnyH_ready (rs := [9]) (by kernel_rfl) (by simp) ?_
        refine AllReadyH.cons rfl (fun K hK => ?_) AllReadyH.nil
        rw [if_pos (by rfl)]
        refine wp_store_row 29 _ _ rfl g_u (frA F) rfl rfl 29 (frA frZ) (unhide HY450) (sizeFr hF) (sizeEq frZ_ok hF) (frA_one _) ?_
        have HX452 := hide ((unhide HX447).row (g := g_u) (by omega) (frA F))
        have HY453 : Hid (FAt (W445.setRow g_u (frA F)) g_h H) := hide ((unhide HY448).rowOther F (by omega))
        have HY454 := hide ((unhide HY450).row F)
        refine hK.out _ _ (unhide HX452) (fun hS455 => ?_)
        clear hK K hS451 HX447 HY448 HY450 
        generalize (W445.setRow g_u (frA F)) = W456 at HX452 hS455 HY453 HY454 ⊢
        clear W445
        refine wpAnyH_ready (rs := [10]) (by kernel_rfl) (by simp) ?_
        refine AllReadyH.cons rfl (fun K hK => ?_) AllReadyH.nil
        go_simp
        refine hK.out _ _ (unhide HX452) (fun hS455' => ?_)
        clear hK K
        clear hS455
        refine wpAnyH_done (by kernel_rfl) ?_ _
        clear hS455'
        go_upto_region 6 with fail
        have HX457 := hide ((unhide HX452).below (below_drew W456 1))
        have HY460 := hide ((unhide HY453).below (below_drew W456 1) (unhide HY453).lt)
        have HY461 := hide ((unhide HY454).below (below_drew W456 1) (unhide HY454).lt)
        refine wp_region_held_drew (S := fun w' => H4 w w' s g) (by kernel_rfl) (unhide HX457) (fun hS459 => ?_)
        clear HX452 HY453 HY454
        generalize hWd : W456.drewN 1 = W458 at HX457 HY460 HY461
        change W456.drew = W458 at hWd
        rw [hWd] at hS459 ⊢
        clear hWd W456
        refine wpAnyH_take (i := 0) (v := .agg #[.slice s.ao s.T.length s.cap, .slice s.so s.L.length s.sc, .int .i64 s.fn]) rfl (by kernel_rfl) (by kernel_rfl) (by kernel_rfl) (fun _ _ _ h => h) (yieldsIf_load_mid (by rfl) 25 _ rfl w.heap.size 0 rfl _ _ (fun _ h => box_range (h.e)) Tryz.underlying25 rfl (by kernel_rfl)) hS459 ?_
        refine wpAnyH_take (i := 2) (v := .agg (frA g)) rfl (by kernel_rfl) (by kernel_rfl) (by kernel_rfl) (fun _ _ _ h => h) (yieldsIf_load_fr (by rfl) _ rfl (w.heap.size + 2) rfl g (unhide HGO) (fun _ h => h.g)) hS459 ?_
        refine wpAnyH_take (i := 3) (v := .agg #[.int .i64 s.p, .int .u8 (s.op : Int), .int .i64 s.a, .int .i64 s.b]) rfl (by kernel_rfl) (by kernel_rfl) (by kernel_rfl) (fun _ _ _ h => h) (yieldsIf_load_mid (by rfl) 31 _ rfl (w.heap.size + 3) 0 rfl _ _ (fun _ h => box_range (h.i)) Tryz.underlying31 rfl (by kernel_rfl)) hS459 ?_
        refine wpAnyH_ready (rs := [1, 8]) (by kernel_rfl) (by simp) ?_
        refine (AllReadyH.cons rfl (fun K hK => ?_) (AllReadyH.cons rfl (fun K hK => ?_) AllReadyH.nil))
        · go_simp
          go_wp2_with (go_at_call 6; refine (unhide HEV W458 (unhide HX457).bel).mono ?_; rintro e W462 ⟨⟨v_v, rfl, hv⟩, hB463⟩)
          have HX464 := hide ((unhide HX457).below hB463)
          have HY465 := hide ((unhide HY460).below hB463 (unhide HY460).lt)
          have HY466 := hide ((unhide HY461).below hB463 (unhide HY461).lt)
          have HV_v := hide hv
          clear hv
          refine hK.out _ _ (unhide HX464) (fun hS467 => ?_)
          clear hK K hS459 HX457 HY460 HY461 hB463 W458
          refine wpAnyH_ready (rs := [4, 8]) (by kernel_rfl) (by simp) ?_
          refine (AllReadyH.cons rfl (fun K hK => ?_) (AllReadyH.cons rfl (fun K hK => ?_) AllReadyH.nil))
          · have HC_v := (by
                  have h := (unhide HV_v).apply W462 g (Below.refl _ _) (unhide HGO)
                  rw [show frTwo (applyD { s with f := g }) = .tuple #[.agg (frA (applyD { s with f := g }).1), .int .i64 (applyD { s with f := g }).2] from rfl] at h
                  rw [unhide HH, unhide HEH] at h
                  exact hide h)
            go_simp
            go_wp2_with (go_at_call 7; refine (unhide HC_v).mono ?_; rintro e W468 ⟨rfl, hB469⟩)
            have HX470 := hide ((unhide HX464).below hB469)
            have HY471 := hide ((unhide HY465).below hB469 (unhide HY465).lt)
            have HY472 := hide ((unhide HY466).below hB469 (unhide HY466).lt)
            have HY473 := hide ((unhide HV_v).below hB469)
            clear HY473 HC_v
            refine hK.out _ _ (unhide HX470) (fun hS474 => ?_)
            clear hK K hS467 HX464 HY465 HY466 HV_v hB469 W462
            refine wpAnyH_take (i := 5) (v := .tuple #[.agg (frA H), .int .i64 0]) rfl (by kernel_rfl) (by kernel_rfl) (by kernel_rfl) (fun _ _ _ h => h) (Or.inl ⟨by rfl, fun w _ => by go_simp⟩) hS474 ?_
            refine wpAnyH_take (i := 6) (v := .agg (frA H)) rfl (by kernel_rfl) (by kernel_rfl) (by kernel_rfl) (fun _ _ _ h => h) (Or.inl ⟨by rfl, fun w _ => by go_simp⟩) hS474 ?_
            refine wpAnyH_take (i := 7) (v := .int .i64 0) rfl (by kernel_rfl) (by kernel_rfl) (by kernel_rfl) (fun _ _ _ h => h) (Or.inl ⟨by rfl, fun w _ => by go_simp⟩) hS474 ?_
            refine wpAnyH_ready (rs := [8]) (by kernel_rfl) (by simp) ?_
            refine AllReadyH.cons rfl (fun K hK => ?_) AllReadyH.nil
            go_simp
            rw [frZ_eq]
            have hal : Below W468.heap.size W468 (W468.alloc (.cells (frA frZ) 29)) := (Below.refl _ _).alloc (Nat.le_refl _) _
            have gt_v : w.heap.size + 3 < W468.heap.size := (unhide HX470).top
            have lt_g_h_v : g_h < W468.heap.size := (unhide HY471).lt
            have lt_g_u_v : g_u < W468.heap.size := (unhide HY472).lt
            have HX475 := hide ((unhide HX470).below hal)
            have HY476 := hide ((unhide HY471).below hal (unhide HY471).lt)
            have HY477 := hide ((unhide HY472).below hal (unhide HY472).lt)
            have HY478 : Hid (FAt (W468.alloc (.cells (frA frZ) 29)) W468.heap.size frZ) := hide (FAt.new W468 frZ)
            refine hK.out _ _ (unhide HX475) (fun hS479 => ?_)
            clear hK K hS474 HX470 HY471 HY472 hal
            generalize (W468.alloc (.cells (frA frZ) 29)) = W480 at HX475 hS479 HY476 HY477 HY478 ⊢
            generalize W468.heap.size = g_v at HY478 gt_v lt_g_h_v lt_g_u_v ⊢
            clear W468
            refine wpAnyH_ready (rs := [9]) (by kernel_rfl) (by simp) ?_
            refine AllReadyH.cons rfl (fun K hK => ?_) AllReadyH.nil
            rw [if_pos (by rfl)]
            refine wp_store_row 29 _ _ rfl g_v (frA H) rfl rfl 29 (frA frZ) (unhide HY478) (sizeFr hH) (sizeEq frZ_ok hH) (frA_one _) ?_
            have HX481 := hide ((unhide HX475).row (g := g_v) (by omega) (frA H))
            have HY482 : Hid (FAt (W480.setRow g_v (frA H)) g_h H) := hide ((unhide HY476).rowOther H (by omega))
            have HY483 : Hid (FAt (W480.setRow g_v (frA H)) g_u F) := hide ((unhide HY477).rowOther H (by omega))
            have HY484 := hide ((unhide HY478).row H)
            refine hK.out _ _ (unhide HX481) (fun hS485 => ?_)
            clear hK K hS479 HX475 HY476 HY477 HY478 
            generalize (W480.setRow g_v (frA H)) = W486 at HX481 hS485 HY482 HY483 HY484 ⊢
            clear W480
            refine wpAnyH_ready (rs := [10]) (by kernel_rfl) (by simp) ?_
            refine AllReadyH.cons rfl (fun K hK => ?_) AllReadyH.nil
            go_simp
            refine hK.out _ _ (unhide HX481) (fun hS485' => ?_)
            clear hK K
            clear hS485
            refine wpAnyH_done (by kernel_rfl) ?_ _
            clear hS485'
            go_upto_region 7 with fail
            have k0 := (unhide HX481).e.c0
            have HSB := hide (unhide HSF W486 (unhide HX481).bel (unhide HMD) F H hF hH)
            rw [unhide HE1] at HSB
            have hq := eqlFr_same hH
            go_wp2_with (first | (refine wpList_load_rowG (by kernel_rfl) 29 (.tmp 15) rfl g_v rfl 29 (frA H) (0, 0) _ (unhide HY484) Tryz.underlying29 rfl (sizeFr hH) ?_) | (refine wpList_load_rowG (by kernel_rfl) 29 (.tmp 9) rfl g_h rfl 29 (frA H) (0, 0) _ (unhide HY482) Tryz.underlying29 rfl (sizeFr hH) ?_) | (refine wpList_load_rowG (by kernel_rfl) 29 (.tmp 13) rfl g_u rfl 29 (frA F) (0, 0) _ (unhide HY483) Tryz.underlying29 rfl (sizeFr hF) ?_))
            refine (unhide HSB).mono ?_
            rintro e W99 ⟨rfl, hB99⟩
            have HB99 : Hid (Below w.heap.size w W99) := hide ((unhide HX481).bel.trans (hB99.mono (unhide HX481).bel.size))
            clear hB99
            go_wp2
            go_ret
            exact ⟨rfl, unhide HB99⟩
          · go_simp
            rw [frZ_eq]
            have hal : Below W462.heap.size W462 (W462.alloc (.cells (frA frZ) 29)) := (Below.refl _ _).alloc (Nat.le_refl _) _
            have gt_v : w.heap.size + 3 < W462.heap.size := (unhide HX464).top
            have lt_g_h_v : g_h < W462.heap.size := (unhide HY465).lt
            have lt_g_u_v : g_u < W462.heap.size := (unhide HY466).lt
            have HX487 := hide ((unhide HX464).below hal)
            have HY488 := hide ((unhide HY465).below hal (unhide HY465).lt)
            have HY489 := hide ((unhide HY466).below hal (unhide HY466).lt)
            have HY490 := hide ((unhide HV_v).below hal)
            have HY491 : Hid (FAt (W462.alloc (.cells (frA frZ) 29)) W462.heap.size frZ) := hide (FAt.new W462 frZ)
            refine hK.out _ _ (unhide HX487) (fun hS492 => ?_)
            clear hK K hS467 HX464 HY465 HY466 HV_v hal
            generalize (W462.alloc (.cells (frA frZ) 29)) = W493 at HX487 hS492 HY488 HY489 HY490 HY491 ⊢
            generalize W462.heap.size = g_v at HY491 gt_v lt_g_h_v lt_g_u_v ⊢
            clear W462
            have HC_v := (by
                  have h := (unhide HY490).apply W493 g (Below.refl _ _) (unhide HGO)
                  rw [show frTwo (applyD { s with f := g }) = .tuple #[.agg (frA (applyD { s with f := g }).1), .int .i64 (applyD { s with f := g }).2] from rfl] at h
                  rw [unhide HH, unhide HEH] at h
                  exact hide h)
            refine wpAnyH_ready (rs := [4]) (by kernel_rfl) (by simp) ?_
            refine AllReadyH.cons rfl (fun K hK => ?_) AllReadyH.nil
            go_simp
            go_wp2_with (go_at_call 7; refine (unhide HC_v).mono ?_; rintro e W494 ⟨rfl, hB495⟩)
            have HX496 := hide ((unhide HX487).below hB495)
            have HY497 := hide ((unhide HY488).below hB495 (unhide HY488).lt)
            have HY498 := hide ((unhide HY489).below hB495 (unhide HY489).lt)
            have HY499 := hide ((unhide HY490).below hB495)
            have HY500 := hide ((unhide HY491).below hB495 (unhide HY491).lt)
            clear HY499 HC_v
            refine hK.out _ _ (unhide HX496) (fun hS501 => ?_)
            clear hK K hS492 HX487 HY488 HY489 HY490 HY491 hB495 W493
            refine wpAnyH_take (i := 5) (v := .tuple #[.agg (frA H), .int .i64 0]) rfl (by kernel_rfl) (by kernel_rfl) (by kernel_rfl) (fun _ _ _ h => h) (Or.inl ⟨by rfl, fun w _ => by go_simp⟩) hS501 ?_
            refine wpAnyH_take (i := 6) (v := .agg (frA H)) rfl (by kernel_rfl) (by kernel_rfl) (by kernel_rfl) (fun _ _ _ h => h) (Or.inl ⟨by rfl, fun w _ => by go_simp⟩) hS501 ?_
            refine wpAnyH_take (i := 7) (v := .int .i64 0) rfl (by kernel_rfl) (by kernel_rfl) (by kernel_rfl) (fun _ _ _ h => h) (Or.inl ⟨by rfl, fun w _ => by go_simp⟩) hS501 ?_
            refine wpAnyH_ready (rs := [9]) (by kernel_rfl) (by simp) ?_
            refine AllReadyH.cons rfl (fun K hK => ?_) AllReadyH.nil
            rw [if_pos (by rfl)]
            refine wp_store_row 29 _ _ rfl g_v (frA H) rfl rfl 29 (frA frZ) (unhide HY500) (sizeFr hH) (sizeEq frZ_ok hH) (frA_one _) ?_
            have HX502 := hide ((unhide HX496).row (g := g_v) (by omega) (frA H))
            have HY503 : Hid (FAt (W494.setRow g_v (frA H)) g_h H) := hide ((unhide HY497).rowOther H (by omega))
            have HY504 : Hid (FAt (W494.setRow g_v (frA H)) g_u F) := hide ((unhide HY498).rowOther H (by omega))
            have HY505 := hide ((unhide HY500).row H)
            refine hK.out _ _ (unhide HX502) (fun hS506 => ?_)
            clear hK K hS501 HX496 HY497 HY498 HY500 
            generalize (W494.setRow g_v (frA H)) = W507 at HX502 hS506 HY503 HY504 HY505 ⊢
            clear W494
            refine wpAnyH_ready (rs := [10]) (by kernel_rfl) (by simp) ?_
            refine AllReadyH.cons rfl (fun K hK => ?_) AllReadyH.nil
            go_simp
            refine hK.out _ _ (unhide HX502) (fun hS506' => ?_)
            clear hK K
            clear hS506
            refine wpAnyH_done (by kernel_rfl) ?_ _
            clear hS506'
            go_upto_region 7 with fail
            have k0 := (unhide HX502).e.c0
            have HSB := hide (unhide HSF W507 (unhide HX502).bel (unhide HMD) F H hF hH)
            rw [unhide HE1] at HSB
            have hq := eqlFr_same hH
            go_wp2_with (first | (refine wpList_load_rowG (by kernel_rfl) 29 (.tmp 15) rfl g_v rfl 29 (frA H) (0, 0) _ (unhide HY505) Tryz.underlying29 rfl (sizeFr hH) ?_) | (refine wpList_load_rowG (by kernel_rfl) 29 (.tmp 9) rfl g_h rfl 29 (frA H) (0, 0) _ (unhide HY503) Tryz.underlying29 rfl (sizeFr hH) ?_) | (refine wpList_load_rowG (by kernel_rfl) 29 (.tmp 13) rfl g_u rfl 29 (frA F) (0, 0) _ (unhide HY504) Tryz.underlying29 rfl (sizeFr hF) ?_))
            refine (unhide HSB).mono ?_
            rintro e W99 ⟨rfl, hB99⟩
            have HB99 : Hid (Below w.heap.size w W99) := hide ((unhide HX502).bel.trans (hB99.mono (unhide HX502).bel.size))
            clear hB99
            go_wp2
            go_ret
            exact ⟨rfl, unhide HB99⟩
        · go_simp
          rw [frZ_eq]
          have hal : Below W458.heap.size W458 (W458.alloc (.cells (frA frZ) 29)) := (Below.refl _ _).alloc (Nat.le_refl _) _
          have gt_v : w.heap.size + 3 < W458.heap.size := (unhide HX457).top
          have lt_g_h_v : g_h < W458.heap.size := (unhide HY460).lt
          have lt_g_u_v : g_u < W458.heap.size := (unhide HY461).lt
          have HX508 := hide ((unhide HX457).below hal)
          have HY509 := hide ((unhide HY460).below hal (unhide HY460).lt)
          have HY510 := hide ((unhide HY461).below hal (unhide HY461).lt)
          have HY511 : Hid (FAt (W458.alloc (.cells (frA frZ) 29)) W458.heap.size frZ) := hide (FAt.new W458 frZ)
          refine hK.out _ _ (unhide HX508) (fun hS512 => ?_)
          clear hK K hS459 HX457 HY460 HY461 hal
          generalize (W458.alloc (.cells (frA frZ) 29)) = W513 at HX508 hS512 HY509 HY510 HY511 ⊢
          generalize W458.heap.size = g_v at HY511 gt_v lt_g_h_v lt_g_u_v ⊢
          clear W458
          refine wpAnyH_ready (rs := [1]) (by kernel_rfl) (by simp) ?_
          refine AllReadyH.cons rfl (fun K hK => ?_) AllReadyH.nil
          go_simp
          go_wp2_with (go_at_call 6; refine (unhide HEV W513 (unhide HX508).bel).mono ?_; rintro e W514 ⟨⟨v_v, rfl, hv⟩, hB515⟩)
          have HX516 := hide ((unhide HX508).below hB515)
          have HY517 := hide ((unhide HY509).below hB515 (unhide HY509).lt)
          have HY518 := hide ((unhide HY510).below hB515 (unhide HY510).lt)
          have HY519 := hide ((unhide HY511).below hB515 (unhide HY511).lt)
          have HV_v := hide hv
          clear hv
          refine hK.out _ _ (unhide HX516) (fun hS520 => ?_)
          clear hK K hS512 HX508 HY509 HY510 HY511 hB515 W513
          have HC_v := (by
                have h := (unhide HV_v).apply W514 g (Below.refl _ _) (unhide HGO)
                rw [show frTwo (applyD { s with f := g }) = .tuple #[.agg (frA (applyD { s with f := g }).1), .int .i64 (applyD { s with f := g }).2] from rfl] at h
                rw [unhide HH, unhide HEH] at h
                exact hide h)
          refine wpAnyH_ready (rs := [4]) (by kernel_rfl) (by simp) ?_
          refine AllReadyH.cons rfl (fun K hK => ?_) AllReadyH.nil
          go_simp
          go_wp2_with (go_at_call 7; refine (unhide HC_v).mono ?_; rintro e W521 ⟨rfl, hB522⟩)
          have HX523 := hide ((unhide HX516).below hB522)
          have HY524 := hide ((unhide HY517).below hB522 (unhide HY517).lt)
          have HY525 := hide ((unhide HY518).below hB522 (unhide HY518).lt)
          have HY526 := hide ((unhide HY519).below hB522 (unhide HY519).lt)
          have HY527 := hide ((unhide HV_v).below hB522)
          clear HY527 HC_v
          refine hK.out _ _ (unhide HX523) (fun hS528 => ?_)
          clear hK K hS520 HX516 HY517 HY518 HY519 HV_v hB522 W514
          refine wpAnyH_take (i := 5) (v := .tuple #[.agg (frA H), .int .i64 0]) rfl (by kernel_rfl) (by kernel_rfl) (by kernel_rfl) (fun _ _ _ h => h) (Or.inl ⟨by rfl, fun w _ => by go_simp⟩) hS528 ?_
          refine wpAnyH_take (i := 6) (v := .agg (frA H)) rfl (by kernel_rfl) (by kernel_rfl) (by kernel_rfl) (fun _ _ _ h => h) (Or.inl ⟨by rfl, fun w _ => by go_simp⟩) hS528 ?_
          refine wpAnyH_take (i := 7) (v := .int .i64 0) rfl (by kernel_rfl) (by kernel_rfl) (by kernel_rfl) (fun _ _ _ h => h) (Or.inl ⟨by rfl, fun w _ => by go_simp⟩) hS528 ?_
          refine wpAnyH_ready (rs := [9]) (by kernel_rfl) (by simp) ?_
          refine AllReadyH.cons rfl (fun K hK => ?_) AllReadyH.nil
          rw [if_pos (by rfl)]
          refine wp_store_row 29 _ _ rfl g_v (frA H) rfl rfl 29 (frA frZ) (unhide HY526) (sizeFr hH) (sizeEq frZ_ok hH) (frA_one _) ?_
          have HX529 := hide ((unhide HX523).row (g := g_v) (by omega) (frA H))
          have HY530 : Hid (FAt (W521.setRow g_v (frA H)) g_h H) := hide ((unhide HY524).rowOther H (by omega))
          have HY531 : Hid (FAt (W521.setRow g_v (frA H)) g_u F) := hide ((unhide HY525).rowOther H (by omega))
          have HY532 := hide ((unhide HY526).row H)
          refine hK.out _ _ (unhide HX529) (fun hS533 => ?_)
          clear hK K hS528 HX523 HY524 HY525 HY526 
          generalize (W521.setRow g_v (frA H)) = W534 at HX529 hS533 HY530 HY531 HY532 ⊢
          clear W521
          refine wpAnyH_ready (rs := [10]) (by kernel_rfl) (by simp) ?_
          refine AllReadyH.cons rfl (fun K hK => ?_) AllReadyH.nil
          go_simp
          refine hK.out _ _ (unhide HX529) (fun hS533' => ?_)
          clear hK K
          clear hS533
          refine wpAnyH_done (by kernel_rfl) ?_ _
          clear hS533'
          go_upto_region 7 with fail
          have k0 := (unhide HX529).e.c0
          have HSB := hide (unhide HSF W534 (unhide HX529).bel (unhide HMD) F H hF hH)
          rw [unhide HE1] at HSB
          have hq := eqlFr_same hH
          go_wp2_with (first | (refine wpList_load_rowG (by kernel_rfl) 29 (.tmp 15) rfl g_v rfl 29 (frA H) (0, 0) _ (unhide HY532) Tryz.underlying29 rfl (sizeFr hH) ?_) | (refine wpList_load_rowG (by kernel_rfl) 29 (.tmp 9) rfl g_h rfl 29 (frA H) (0, 0) _ (unhide HY530) Tryz.underlying29 rfl (sizeFr hH) ?_) | (refine wpList_load_rowG (by kernel_rfl) 29 (.tmp 13) rfl g_u rfl 29 (frA F) (0, 0) _ (unhide HY531) Tryz.underlying29 rfl (sizeFr hF) ?_))
          refine (unhide HSB).mono ?_
          rintro e W99 ⟨rfl, hB99⟩
          have HB99 : Hid (Below w.heap.size w W99) := hide ((unhide HX529).bel.trans (hB99.mono (unhide HX529).bel.size))
          clear hB99
          go_wp2
          go_ret
          exact ⟨rfl, unhide HB99⟩
    · go_simp
      rw [frZ_eq]
      have hal : Below W337.heap.size W337 (W337.alloc (.cells (frA frZ) 29)) := (Below.refl _ _).alloc (Nat.le_refl _) _
      have gt_u : w.heap.size + 3 < W337.heap.size := (unhide HX336).top
      have lt_g_h_u : g_h < W337.heap.size := (unhide HY339).lt
      have HX535 := hide ((unhide HX336).below hal)
      have HY536 := hide ((unhide HY339).below hal (unhide HY339).lt)
      have HY537 : Hid (FAt (W337.alloc (.cells (frA frZ) 29)) W337.heap.size frZ) := hide (FAt.new W337 frZ)
      refine hK.out _ _ (unhide HX535) (fun hS538 => ?_)
      clear hK K hS338 HX336 HY339 hal
      generalize (W337.alloc (.cells (frA frZ) 29)) = W539 at HX535 hS538 HY536 HY537 ⊢
      generalize W337.heap.size = g_u at HY537 gt_u lt_g_h_u ⊢
      clear W337
      refine wpAnyH_ready (rs := [1]) (by kernel_rfl) (by simp) ?_
      refine AllReadyH.cons rfl (fun K hK => ?_) AllReadyH.nil
      go_simp
      go_wp2_with (go_at_call 6; refine (unhide HEV W539 (unhide HX535).bel).mono ?_; rintro e W540 ⟨⟨v_u, rfl, hv⟩, hB541⟩)
      have HX542 := hide ((unhide HX535).below hB541)
      have HY543 := hide ((unhide HY536).below hB541 (unhide HY536).lt)
      have HY544 := hide ((unhide HY537).below hB541 (unhide HY537).lt)
      have HV_u := hide hv
      clear hv
      refine hK.out _ _ (unhide HX542) (fun hS545 => ?_)
      clear hK K hS538 HX535 HY536 HY537 hB541 W539
      have HC_u := (by
            have h := (unhide HV_u).apply W540 s.f (Below.refl _ _) (unhide HFO)
            rw [show frTwo (applyD { s with f := s.f }) = .tuple #[.agg (frA (applyD { s with f := s.f }).1), .int .i64 (applyD { s with f := s.f }).2] from rfl] at h
            rw [show (applyD { s with f := s.f }).1 = F from unhide HF, show (applyD { s with f := s.f }).2 = 0 from unhide HER] at h
            exact hide h)
      refine wpAnyH_ready (rs := [4]) (by kernel_rfl) (by simp) ?_
      refine AllReadyH.cons rfl (fun K hK => ?_) AllReadyH.nil
      go_simp
      go_wp2_with (go_at_call 7; refine (unhide HC_u).mono ?_; rintro e W546 ⟨rfl, hB547⟩)
      have HX548 := hide ((unhide HX542).below hB547)
      have HY549 := hide ((unhide HY543).below hB547 (unhide HY543).lt)
      have HY550 := hide ((unhide HY544).below hB547 (unhide HY544).lt)
      have HY551 := hide ((unhide HV_u).below hB547)
      clear HY551 HC_u
      refine hK.out _ _ (unhide HX548) (fun hS552 => ?_)
      clear hK K hS545 HX542 HY543 HY544 HV_u hB547 W540
      refine wpAnyH_take (i := 5) (v := .tuple #[.agg (frA F), .int .i64 0]) rfl (by kernel_rfl) (by kernel_rfl) (by kernel_rfl) (fun _ _ _ h => h) (Or.inl ⟨by rfl, fun w _ => by go_simp⟩) hS552 ?_
      refine wpAnyH_take (i := 6) (v := .agg (frA F)) rfl (by kernel_rfl) (by kernel_rfl) (by kernel_rfl) (fun _ _ _ h => h) (Or.inl ⟨by rfl, fun w _ => by go_simp⟩) hS552 ?_
      refine wpAnyH_take (i := 7) (v := .int .i64 0) rfl (by kernel_rfl) (by kernel_rfl) (by kernel_rfl) (fun _ _ _ h => h) (Or.inl ⟨by rfl, fun w _ => by go_simp⟩) hS552 ?_
      refine wpAnyH_ready (rs := [9]) (by kernel_rfl) (by simp) ?_
      refine AllReadyH.cons rfl (fun K hK => ?_) AllReadyH.nil
      rw [if_pos (by rfl)]
      refine wp_store_row 29 _ _ rfl g_u (frA F) rfl rfl 29 (frA frZ) (unhide HY550) (sizeFr hF) (sizeEq frZ_ok hF) (frA_one _) ?_
      have HX553 := hide ((unhide HX548).row (g := g_u) (by omega) (frA F))
      have HY554 : Hid (FAt (W546.setRow g_u (frA F)) g_h H) := hide ((unhide HY549).rowOther F (by omega))
      have HY555 := hide ((unhide HY550).row F)
      refine hK.out _ _ (unhide HX553) (fun hS556 => ?_)
      clear hK K hS552 HX548 HY549 HY550 
      generalize (W546.setRow g_u (frA F)) = W557 at HX553 hS556 HY554 HY555 ⊢
      clear W546
      refine wpAnyH_ready (rs := [10]) (by kernel_rfl) (by simp) ?_
      refine AllReadyH.cons rfl (fun K hK => ?_) AllReadyH.nil
      go_simp
      refine hK.out _ _ (unhide HX553) (fun hS556' => ?_)
      clear hK K
      clear hS556
      refine wpAnyH_done (by kernel_rfl) ?_ _
      clear hS556'
      go_upto_region 6 with fail
      have HX558 := hide ((unhide HX553).below (below_drew W557 1))
      have HY561 := hide ((unhide HY554).below (below_drew W557 1) (unhide HY554).lt)
      have HY562 := hide ((unhide HY555).below (below_drew W557 1) (unhide HY555).lt)
      refine wp_region_held_drew (S := fun w' => H4 w w' s g) (by kernel_rfl) (unhide HX558) (fun hS560 => ?_)
      clear HX553 HY554 HY555
      generalize hWd : W557.drewN 1 = W559 at HX558 HY561 HY562
      change W557.drew = W559 at hWd
      rw [hWd] at hS560 ⊢
      clear hWd W557
      refine wpAnyH_take (i := 0) (v := .agg #[.slice s.ao s.T.length s.cap, .slice s.so s.L.length s.sc, .int .i64 s.fn]) rfl (by kernel_rfl) (by kernel_rfl) (by kernel_rfl) (fun _ _ _ h => h) (yieldsIf_load_mid (by rfl) 25 _ rfl w.heap.size 0 rfl _ _ (fun _ h => box_range (h.e)) Tryz.underlying25 rfl (by kernel_rfl)) hS560 ?_
      refine wpAnyH_take (i := 2) (v := .agg (frA g)) rfl (by kernel_rfl) (by kernel_rfl) (by kernel_rfl) (fun _ _ _ h => h) (yieldsIf_load_fr (by rfl) _ rfl (w.heap.size + 2) rfl g (unhide HGO) (fun _ h => h.g)) hS560 ?_
      refine wpAnyH_take (i := 3) (v := .agg #[.int .i64 s.p, .int .u8 (s.op : Int), .int .i64 s.a, .int .i64 s.b]) rfl (by kernel_rfl) (by kernel_rfl) (by kernel_rfl) (fun _ _ _ h => h) (yieldsIf_load_mid (by rfl) 31 _ rfl (w.heap.size + 3) 0 rfl _ _ (fun _ h => box_range (h.i)) Tryz.underlying31 rfl (by kernel_rfl)) hS560 ?_
      refine wpAnyH_ready (rs := [1, 8]) (by kernel_rfl) (by simp) ?_
      refine (AllReadyH.cons rfl (fun K hK => ?_) (AllReadyH.cons rfl (fun K hK => ?_) AllReadyH.nil))
      · go_simp
        go_wp2_with (go_at_call 6; refine (unhide HEV W559 (unhide HX558).bel).mono ?_; rintro e W563 ⟨⟨v_v, rfl, hv⟩, hB564⟩)
        have HX565 := hide ((unhide HX558).below hB564)
        have HY566 := hide ((unhide HY561).below hB564 (unhide HY561).lt)
        have HY567 := hide ((unhide HY562).below hB564 (unhide HY562).lt)
        have HV_v := hide hv
        clear hv
        refine hK.out _ _ (unhide HX565) (fun hS568 => ?_)
        clear hK K hS560 HX558 HY561 HY562 hB564 W559
        refine wpAnyH_ready (rs := [4, 8]) (by kernel_rfl) (by simp) ?_
        refine (AllReadyH.cons rfl (fun K hK => ?_) (AllReadyH.cons rfl (fun K hK => ?_) AllReadyH.nil))
        · have HC_v := (by
                have h := (unhide HV_v).apply W563 g (Below.refl _ _) (unhide HGO)
                rw [show frTwo (applyD { s with f := g }) = .tuple #[.agg (frA (applyD { s with f := g }).1), .int .i64 (applyD { s with f := g }).2] from rfl] at h
                rw [unhide HH, unhide HEH] at h
                exact hide h)
          go_simp
          go_wp2_with (go_at_call 7; refine (unhide HC_v).mono ?_; rintro e W569 ⟨rfl, hB570⟩)
          have HX571 := hide ((unhide HX565).below hB570)
          have HY572 := hide ((unhide HY566).below hB570 (unhide HY566).lt)
          have HY573 := hide ((unhide HY567).below hB570 (unhide HY567).lt)
          have HY574 := hide ((unhide HV_v).below hB570)
          clear HY574 HC_v
          refine hK.out _ _ (unhide HX571) (fun hS575 => ?_)
          clear hK K hS568 HX565 HY566 HY567 HV_v hB570 W563
          refine wpAnyH_take (i := 5) (v := .tuple #[.agg (frA H), .int .i64 0]) rfl (by kernel_rfl) (by kernel_rfl) (by kernel_rfl) (fun _ _ _ h => h) (Or.inl ⟨by rfl, fun w _ => by go_simp⟩) hS575 ?_
          refine wpAnyH_take (i := 6) (v := .agg (frA H)) rfl (by kernel_rfl) (by kernel_rfl) (by kernel_rfl) (fun _ _ _ h => h) (Or.inl ⟨by rfl, fun w _ => by go_simp⟩) hS575 ?_
          refine wpAnyH_take (i := 7) (v := .int .i64 0) rfl (by kernel_rfl) (by kernel_rfl) (by kernel_rfl) (fun _ _ _ h => h) (Or.inl ⟨by rfl, fun w _ => by go_simp⟩) hS575 ?_
          refine wpAnyH_ready (rs := [8]) (by kernel_rfl) (by simp) ?_
          refine AllReadyH.cons rfl (fun K hK => ?_) AllReadyH.nil
          go_simp
          rw [frZ_eq]
          have hal : Below W569.heap.size W569 (W569.alloc (.cells (frA frZ) 29)) := (Below.refl _ _).alloc (Nat.le_refl _) _
          have gt_v : w.heap.size + 3 < W569.heap.size := (unhide HX571).top
          have lt_g_h_v : g_h < W569.heap.size := (unhide HY572).lt
          have lt_g_u_v : g_u < W569.heap.size := (unhide HY573).lt
          have HX576 := hide ((unhide HX571).below hal)
          have HY577 := hide ((unhide HY572).below hal (unhide HY572).lt)
          have HY578 := hide ((unhide HY573).below hal (unhide HY573).lt)
          have HY579 : Hid (FAt (W569.alloc (.cells (frA frZ) 29)) W569.heap.size frZ) := hide (FAt.new W569 frZ)
          refine hK.out _ _ (unhide HX576) (fun hS580 => ?_)
          clear hK K hS575 HX571 HY572 HY573 hal
          generalize (W569.alloc (.cells (frA frZ) 29)) = W581 at HX576 hS580 HY577 HY578 HY579 ⊢
          generalize W569.heap.size = g_v at HY579 gt_v lt_g_h_v lt_g_u_v ⊢
          clear W569
          refine wpAnyH_ready (rs := [9]) (by kernel_rfl) (by simp) ?_
          refine AllReadyH.cons rfl (fun K hK => ?_) AllReadyH.nil
          rw [if_pos (by rfl)]
          refine wp_store_row 29 _ _ rfl g_v (frA H) rfl rfl 29 (frA frZ) (unhide HY579) (sizeFr hH) (sizeEq frZ_ok hH) (frA_one _) ?_
          have HX582 := hide ((unhide HX576).row (g := g_v) (by omega) (frA H))
          have HY583 : Hid (FAt (W581.setRow g_v (frA H)) g_h H) := hide ((unhide HY577).rowOther H (by omega))
          have HY584 : Hid (FAt (W581.setRow g_v (frA H)) g_u F) := hide ((unhide HY578).rowOther H (by omega))
          have HY585 := hide ((unhide HY579).row H)
          refine hK.out _ _ (unhide HX582) (fun hS586 => ?_)
          clear hK K hS580 HX576 HY577 HY578 HY579 
          generalize (W581.setRow g_v (frA H)) = W587 at HX582 hS586 HY583 HY584 HY585 ⊢
          clear W581
          refine wpAnyH_ready (rs := [10]) (by kernel_rfl) (by simp) ?_
          refine AllReadyH.cons rfl (fun K hK => ?_) AllReadyH.nil
          go_simp
          refine hK.out _ _ (unhide HX582) (fun hS586' => ?_)
          clear hK K
          clear hS586
          refine wpAnyH_done (by kernel_rfl) ?_ _
          clear hS586'
          go_upto_region 7 with fail
          have k0 := (unhide HX582).e.c0
          have HSB := hide (unhide HSF W587 (unhide HX582).bel (unhide HMD) F H hF hH)
          rw [unhide HE1] at HSB
          have hq := eqlFr_same hH
          go_wp2_with (first | (refine wpList_load_rowG (by kernel_rfl) 29 (.tmp 15) rfl g_v rfl 29 (frA H) (0, 0) _ (unhide HY585) Tryz.underlying29 rfl (sizeFr hH) ?_) | (refine wpList_load_rowG (by kernel_rfl) 29 (.tmp 9) rfl g_h rfl 29 (frA H) (0, 0) _ (unhide HY583) Tryz.underlying29 rfl (sizeFr hH) ?_) | (refine wpList_load_rowG (by kernel_rfl) 29 (.tmp 13) rfl g_u rfl 29 (frA F) (0, 0) _ (unhide HY584) Tryz.underlying29 rfl (sizeFr hF) ?_))
          refine (unhide HSB).mono ?_
          rintro e W99 ⟨rfl, hB99⟩
          have HB99 : Hid (Below w.heap.size w W99) := hide ((unhide HX582).bel.trans (hB99.mono (unhide HX582).bel.size))
          clear hB99
          go_wp2
          go_ret
          exact ⟨rfl, unhide HB99⟩
        · go_simp
          rw [frZ_eq]
          have hal : Below W563.heap.size W563 (W563.alloc (.cells (frA frZ) 29)) := (Below.refl _ _).alloc (Nat.le_refl _) _
          have gt_v : w.heap.size + 3 < W563.heap.size := (unhide HX565).top
          have lt_g_h_v : g_h < W563.heap.size := (unhide HY566).lt
          have lt_g_u_v : g_u < W563.heap.size := (unhide HY567).lt
          have HX588 := hide ((unhide HX565).below hal)
          have HY589 := hide ((unhide HY566).below hal (unhide HY566).lt)
          have HY590 := hide ((unhide HY567).below hal (unhide HY567).lt)
          have HY591 := hide ((unhide HV_v).below hal)
          have HY592 : Hid (FAt (W563.alloc (.cells (frA frZ) 29)) W563.heap.size frZ) := hide (FAt.new W563 frZ)
          refine hK.out _ _ (unhide HX588) (fun hS593 => ?_)
          clear hK K hS568 HX565 HY566 HY567 HV_v hal
          generalize (W563.alloc (.cells (frA frZ) 29)) = W594 at HX588 hS593 HY589 HY590 HY591 HY592 ⊢
          generalize W563.heap.size = g_v at HY592 gt_v lt_g_h_v lt_g_u_v ⊢
          clear W563
          have HC_v := (by
                have h := (unhide HY591).apply W594 g (Below.refl _ _) (unhide HGO)
                rw [show frTwo (applyD { s with f := g }) = .tuple #[.agg (frA (applyD { s with f := g }).1), .int .i64 (applyD { s with f := g }).2] from rfl] at h
                rw [unhide HH, unhide HEH] at h
                exact hide h)
          refine wpAnyH_ready (rs := [4]) (by kernel_rfl) (by simp) ?_
          refine AllReadyH.cons rfl (fun K hK => ?_) AllReadyH.nil
          go_simp
          go_wp2_with (go_at_call 7; refine (unhide HC_v).mono ?_; rintro e W595 ⟨rfl, hB596⟩)
          have HX597 := hide ((unhide HX588).below hB596)
          have HY598 := hide ((unhide HY589).below hB596 (unhide HY589).lt)
          have HY599 := hide ((unhide HY590).below hB596 (unhide HY590).lt)
          have HY600 := hide ((unhide HY591).below hB596)
          have HY601 := hide ((unhide HY592).below hB596 (unhide HY592).lt)
          clear HY600 HC_v
          refine hK.out _ _ (unhide HX597) (fun hS602 => ?_)
          clear hK K hS593 HX588 HY589 HY590 HY591 HY592 hB596 W594
          refine wpAnyH_take (i := 5) (v := .tuple #[.agg (frA H), .int .i64 0]) rfl (by kernel_rfl) (by kernel_rfl) (by kernel_rfl) (fun _ _ _ h => h) (Or.inl ⟨by rfl, fun w _ => by go_simp⟩) hS602 ?_
          refine wpAnyH_take (i := 6) (v := .agg (frA H)) rfl (by kernel_rfl) (by kernel_rfl) (by kernel_rfl) (fun _ _ _ h => h) (Or.inl ⟨by rfl, fun w _ => by go_simp⟩) hS602 ?_
          refine wpAnyH_take (i := 7) (v := .int .i64 0) rfl (by kernel_rfl) (by kernel_rfl) (by kernel_rfl) (fun _ _ _ h => h) (Or.inl ⟨by rfl, fun w _ => by go_simp⟩) hS602 ?_
          refine wpAnyH_ready (rs := [9]) (by kernel_rfl) (by simp) ?_
          refine AllReadyH.cons rfl (fun K hK => ?_) AllReadyH.nil
          rw [if_pos (by rfl)]
          refine wp_store_row 29 _ _ rfl g_v (frA H) rfl rfl 29 (frA frZ) (unhide HY601) (sizeFr hH) (sizeEq frZ_ok hH) (frA_one _) ?_
          have HX603 := hide ((unhide HX597).row (g := g_v) (by omega) (frA H))
          have HY604 : Hid (FAt (W595.setRow g_v (frA H)) g_h H) := hide ((unhide HY598).rowOther H (by omega))
          have HY605 : Hid (FAt (W595.setRow g_v (frA H)) g_u F) := hide ((unhide HY599).rowOther H (by omega))
          have HY606 := hide ((unhide HY601).row H)
          refine hK.out _ _ (unhide HX603) (fun hS607 => ?_)
          clear hK K hS602 HX597 HY598 HY599 HY601 
          generalize (W595.setRow g_v (frA H)) = W608 at HX603 hS607 HY604 HY605 HY606 ⊢
          clear W595
          refine wpAnyH_ready (rs := [10]) (by kernel_rfl) (by simp) ?_
          refine AllReadyH.cons rfl (fun K hK => ?_) AllReadyH.nil
          go_simp
          refine hK.out _ _ (unhide HX603) (fun hS607' => ?_)
          clear hK K
          clear hS607
          refine wpAnyH_done (by kernel_rfl) ?_ _
          clear hS607'
          go_upto_region 7 with fail
          have k0 := (unhide HX603).e.c0
          have HSB := hide (unhide HSF W608 (unhide HX603).bel (unhide HMD) F H hF hH)
          rw [unhide HE1] at HSB
          have hq := eqlFr_same hH
          go_wp2_with (first | (refine wpList_load_rowG (by kernel_rfl) 29 (.tmp 15) rfl g_v rfl 29 (frA H) (0, 0) _ (unhide HY606) Tryz.underlying29 rfl (sizeFr hH) ?_) | (refine wpList_load_rowG (by kernel_rfl) 29 (.tmp 9) rfl g_h rfl 29 (frA H) (0, 0) _ (unhide HY604) Tryz.underlying29 rfl (sizeFr hH) ?_) | (refine wpList_load_rowG (by kernel_rfl) 29 (.tmp 13) rfl g_u rfl 29 (frA F) (0, 0) _ (unhide HY605) Tryz.underlying29 rfl (sizeFr hF) ?_))
          refine (unhide HSB).mono ?_
          rintro e W99 ⟨rfl, hB99⟩
          have HB99 : Hid (Below w.heap.size w W99) := hide ((unhide HX603).bel.trans (hB99.mono (unhide HX603).bel.size))
          clear hB99
          go_wp2
          go_ret
          exact ⟨rfl, unhide HB99⟩
      · go_simp
        rw [frZ_eq]
        have hal : Below W559.heap.size W559 (W559.alloc (.cells (frA frZ) 29)) := (Below.refl _ _).alloc (Nat.le_refl _) _
        have gt_v : w.heap.size + 3 < W559.heap.size := (unhide HX558).top
        have lt_g_h_v : g_h < W559.heap.size := (unhide HY561).lt
        have lt_g_u_v : g_u < W559.heap.size := (unhide HY562).lt
        have HX609 := hide ((unhide HX558).below hal)
        have HY610 := hide ((unhide HY561).below hal (unhide HY561).lt)
        have HY611 := hide ((unhide HY562).below hal (unhide HY562).lt)
        have HY612 : Hid (FAt (W559.alloc (.cells (frA frZ) 29)) W559.heap.size frZ) := hide (FAt.new W559 frZ)
        refine hK.out _ _ (unhide HX609) (fun hS613 => ?_)
        clear hK K hS560 HX558 HY561 HY562 hal
        generalize (W559.alloc (.cells (frA frZ) 29)) = W614 at HX609 hS613 HY610 HY611 HY612 ⊢
        generalize W559.heap.size = g_v at HY612 gt_v lt_g_h_v lt_g_u_v ⊢
        clear W559
        refine wpAnyH_ready (rs := [1]) (by kernel_rfl) (by simp) ?_
        refine AllReadyH.cons rfl (fun K hK => ?_) AllReadyH.nil
        go_simp
        go_wp2_with (go_at_call 6; refine (unhide HEV W614 (unhide HX609).bel).mono ?_; rintro e W615 ⟨⟨v_v, rfl, hv⟩, hB616⟩)
        have HX617 := hide ((unhide HX609).below hB616)
        have HY618 := hide ((unhide HY610).below hB616 (unhide HY610).lt)
        have HY619 := hide ((unhide HY611).below hB616 (unhide HY611).lt)
        have HY620 := hide ((unhide HY612).below hB616 (unhide HY612).lt)
        have HV_v := hide hv
        clear hv
        refine hK.out _ _ (unhide HX617) (fun hS621 => ?_)
        clear hK K hS613 HX609 HY610 HY611 HY612 hB616 W614
        have HC_v := (by
              have h := (unhide HV_v).apply W615 g (Below.refl _ _) (unhide HGO)
              rw [show frTwo (applyD { s with f := g }) = .tuple #[.agg (frA (applyD { s with f := g }).1), .int .i64 (applyD { s with f := g }).2] from rfl] at h
              rw [unhide HH, unhide HEH] at h
              exact hide h)
        refine wpAnyH_ready (rs := [4]) (by kernel_rfl) (by simp) ?_
        refine AllReadyH.cons rfl (fun K hK => ?_) AllReadyH.nil
        go_simp
        go_wp2_with (go_at_call 7; refine (unhide HC_v).mono ?_; rintro e W622 ⟨rfl, hB623⟩)
        have HX624 := hide ((unhide HX617).below hB623)
        have HY625 := hide ((unhide HY618).below hB623 (unhide HY618).lt)
        have HY626 := hide ((unhide HY619).below hB623 (unhide HY619).lt)
        have HY627 := hide ((unhide HY620).below hB623 (unhide HY620).lt)
        have HY628 := hide ((unhide HV_v).below hB623)
        clear HY628 HC_v
        refine hK.out _ _ (unhide HX624) (fun hS629 => ?_)
        clear hK K hS621 HX617 HY618 HY619 HY620 HV_v hB623 W615
        refine wpAnyH_take (i := 5) (v := .tuple #[.agg (frA H), .int .i64 0]) rfl (by kernel_rfl) (by kernel_rfl) (by kernel_rfl) (fun _ _ _ h => h) (Or.inl ⟨by rfl, fun w _ => by go_simp⟩) hS629 ?_
        refine wpAnyH_take (i := 6) (v := .agg (frA H)) rfl (by kernel_rfl) (by kernel_rfl) (by kernel_rfl) (fun _ _ _ h => h) (Or.inl ⟨by rfl, fun w _ => by go_simp⟩) hS629 ?_
        refine wpAnyH_take (i := 7) (v := .int .i64 0) rfl (by kernel_rfl) (by kernel_rfl) (by kernel_rfl) (fun _ _ _ h => h) (Or.inl ⟨by rfl, fun w _ => by go_simp⟩) hS629 ?_
        refine wpAnyH_ready (rs := [9]) (by kernel_rfl) (by simp) ?_
        refine AllReadyH.cons rfl (fun K hK => ?_) AllReadyH.nil
        rw [if_pos (by rfl)]
        refine wp_store_row 29 _ _ rfl g_v (frA H) rfl rfl 29 (frA frZ) (unhide HY627) (sizeFr hH) (sizeEq frZ_ok hH) (frA_one _) ?_
        have HX630 := hide ((unhide HX624).row (g := g_v) (by omega) (frA H))
        have HY631 : Hid (FAt (W622.setRow g_v (frA H)) g_h H) := hide ((unhide HY625).rowOther H (by omega))
        have HY632 : Hid (FAt (W622.setRow g_v (frA H)) g_u F) := hide ((unhide HY626).rowOther H (by omega))
        have HY633 := hide ((unhide HY627).row H)
        refine hK.out _ _ (unhide HX630) (fun hS634 => ?_)
        clear hK K hS629 HX624 HY625 HY626 HY627 
        generalize (W622.setRow g_v (frA H)) = W635 at HX630 hS634 HY631 HY632 HY633 ⊢
        clear W622
        refine wpAnyH_ready (rs := [10]) (by kernel_rfl) (by simp) ?_
        refine AllReadyH.cons rfl (fun K hK => ?_) AllReadyH.nil
        go_simp
        refine hK.out _ _ (unhide HX630) (fun hS634' => ?_)
        clear hK K
        clear hS634
        refine wpAnyH_done (by kernel_rfl) ?_ _
        clear hS634'
        go_upto_region 7 with fail
        have k0 := (unhide HX630).e.c0
        have HSB := hide (unhide HSF W635 (unhide HX630).bel (unhide HMD) F H hF hH)
        rw [unhide HE1] at HSB
        have hq := eqlFr_same hH
        go_wp2_with (first | (refine wpList_load_rowG (by kernel_rfl) 29 (.tmp 15) rfl g_v rfl 29 (frA H) (0, 0) _ (unhide HY633) Tryz.underlying29 rfl (sizeFr hH) ?_) | (refine wpList_load_rowG (by kernel_rfl) 29 (.tmp 9) rfl g_h rfl 29 (frA H) (0, 0) _ (unhide HY631) Tryz.underlying29 rfl (sizeFr hH) ?_) | (refine wpList_load_rowG (by kernel_rfl) 29 (.tmp 13) rfl g_u rfl 29 (frA F) (0, 0) _ (unhide HY632) Tryz.underlying29 rfl (sizeFr hF) ?_))
        refine (unhide HSB).mono ?_
        rintro e W99 ⟨rfl, hB99⟩
        have HB99 : Hid (Below w.heap.size w W99) := hide ((unhide HX630).bel.trans (hB99.mono (unhide HX630).bel.size))
        clear hB99
        go_wp2
        go_ret
        exact ⟨rfl, unhide HB99⟩)
end Go.Proofs.YtkodmpcnndbngaaGreatDoor
