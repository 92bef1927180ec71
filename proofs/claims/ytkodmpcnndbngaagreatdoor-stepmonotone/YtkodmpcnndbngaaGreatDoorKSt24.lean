/-
  provisoref07.Apply, of what provisoref07.apply answers: as the plain function says; nothing old is turned.
-/
import Derived.Test.YtkodmpcnndbngaaGreatDoorKSt20
namespace Go.Proofs.YtkodmpcnndbngaaGreatDoor
open Go.RowKit
set_option maxRecDepth 20000

/-- The five boxes. -/
structure Ba (w W : World) (s : Sp) : Prop where
  e : EBx W w.heap.size (.slice s.ao s.T.length s.cap) (.slice s.so s.L.length s.sc) s.fn
  f : FAt W (w.heap.size + 1) s.f
  i : IBx W (w.heap.size + 2) s
  r : FAt W (w.heap.size + 3) frZ
  n : FAt W (w.heap.size + 4) frZ
  bel : Below w.heap.size w W
theorem Ba.below {w W W' : World} {s : Sp} (h : Ba w W s) (hb : Below W.heap.size W W') : Ba w W' s :=
  ⟨(hb.block _ h.e.lt).trans h.e, h.f.below hb h.f.lt, (hb.block _ h.i.lt).trans h.i, h.r.below hb h.r.lt, h.n.below hb h.n.lt, h.bel.trans (hb.mono h.bel.size)⟩
/-- Of the first four. -/
structure B4 (w W : World) (s : Sp) : Prop where
  e : EBx W w.heap.size (.slice s.ao s.T.length s.cap) (.slice s.so s.L.length s.sc) s.fn
  f : FAt W (w.heap.size + 1) s.f
  i : IBx W (w.heap.size + 2) s
  r : FAt W (w.heap.size + 3) frZ
  bel : Below w.heap.size w W
  sz : W.heap.size = w.heap.size + 4
theorem B4.new (w : World) (s : Sp) : B4 w ((((w.alloc (.cells #[.slice s.ao s.T.length s.cap, .slice s.so s.L.length s.sc, .int .i64 s.fn] 25)).alloc (.cells (frA s.f) 29)).alloc (.cells #[.int .i64 s.p, .int .u8 (s.op : Int), .int .i64 s.a, .int .i64 s.b] 31)).alloc (.cells (frA frZ) 29)) s := by
  have b1 := Bf.new w s
  have al3 := (Below.refl _ ((w.alloc (.cells #[.slice s.ao s.T.length s.cap, .slice s.so s.L.length s.sc, .int .i64 s.fn] 25)).alloc (.cells (frA s.f) 29))).alloc (Nat.le_refl _) (.cells #[.int .i64 s.p, .int .u8 (s.op : Int), .int .i64 s.a, .int .i64 s.b] 31)
  have n3 := heap_alloc_new ((w.alloc (.cells #[.slice s.ao s.T.length s.cap, .slice s.so s.L.length s.sc, .int .i64 s.fn] 25)).alloc (.cells (frA s.f) 29)) (.cells #[.int .i64 s.p, .int .u8 (s.op : Int), .int .i64 s.a, .int .i64 s.b] 31)
  have hsz : ((w.alloc (.cells #[.slice s.ao s.T.length s.cap, .slice s.so s.L.length s.sc, .int .i64 s.fn] 25)).alloc (.cells (frA s.f) 29)).heap.size = w.heap.size + 2 := by simp
  rw [hsz] at n3
  have al4 := (Below.refl _ (((w.alloc (.cells #[.slice s.ao s.T.length s.cap, .slice s.so s.L.length s.sc, .int .i64 s.fn] 25)).alloc (.cells (frA s.f) 29)).alloc (.cells #[.int .i64 s.p, .int .u8 (s.op : Int), .int .i64 s.a, .int .i64 s.b] 31))).alloc (Nat.le_refl _) (.cells (frA frZ) 29)
  have n4 := FAt.new (((w.alloc (.cells #[.slice s.ao s.T.length s.cap, .slice s.so s.L.length s.sc, .int .i64 s.fn] 25)).alloc (.cells (frA s.f) 29)).alloc (.cells #[.int .i64 s.p, .int .u8 (s.op : Int), .int .i64 s.a, .int .i64 s.b] 31)) frZ
  have hsz2 : (((w.alloc (.cells #[.slice s.ao s.T.length s.cap, .slice s.so s.L.length s.sc, .int .i64 s.fn] 25)).alloc (.cells (frA s.f) 29)).alloc (.cells #[.int .i64 s.p, .int .u8 (s.op : Int), .int .i64 s.a, .int .i64 s.b] 31)).heap.size = w.heap.size + 3 := by simp
  rw [hsz2] at n4
  have HX := (b1.below al3).below al4
  exact ⟨HX.e, HX.f, (al4.block (w.heap.size + 2) (by rw [hsz2]; omega)).trans n3, n4, HX.bel, by simp⟩
theorem B4.five {w W W' : World} {s : Sp} (h : B4 w W s) (he : (W.alloc (.cells (frA frZ) 29)).setRow W.heap.size (frA frZ) = W') : Ba w W' s := by
  have hZ := FAt.new W frZ
  have hB : Below W.heap.size W W' := by rw [← he]; exact below_setRow' ((Below.refl W.heap.size W).alloc (Nat.le_refl _) _) (Nat.le_refl _) _
  have hN : FAt W' W.heap.size frZ := by rw [← he]; exact hZ.row frZ
  have hsz := h.sz
  rw [hsz] at hN
  exact ⟨(hB.block _ h.e.lt).trans h.e, h.f.below hB h.f.lt, (hB.block _ h.i.lt).trans h.i, h.r.below hB h.r.lt, hN, h.bel.trans (hB.mono h.bel.size)⟩
theorem IBx.c {W : World} {g : Nat} {s : Sp} (h : IBx W g s) (i : Nat) : W.cell? ⟨g, i, none⟩ = #[.int .i64 s.p, .int .u8 (s.op : Int), .int .i64 s.a, .int .i64 s.b][i]? := cell_of_row _ _ i _ _ _ h
/-- What apply answers where nothing is amiss. -/
def RefA (s : Sp) : Prop := ∀ W, SpOk W s → FrIs s.T.length s.f → missD s = 0 → Calls Tryz.prog 21 #[.agg #[.slice s.ao s.T.length s.cap, .slice s.so s.L.length s.sc, .int .i64 s.fn], .agg (frA s.f), .agg #[.int .i64 s.p, .int .u8 (s.op : Int), .int .i64 s.a, .int .i64 s.b]] W fun e w' => e = .returned (frTwo (applyS s)) ∧ Below W.heap.size W w'
theorem miss_slot {s : Sp} (h : s.op = 4 ∨ s.op = 5) (hf : shapeD s.f = true) : missD s = if s.a < 0 ∨ s.f.lo ≤ s.a then 33 else 0 := by
  unfold missD loadD
  rw [if_pos h, hf, if_neg (by decide)]
  by_cases hq : s.a < 0 ∨ s.f.lo ≤ s.a
  · rw [if_pos hq, if_pos hq]
  · rw [if_neg hq, if_neg hq]

set_option maxRecDepth 20000 in
set_option maxHeartbeats 8000000 in
theorem refApply_of (s : Sp) (hra : RefA s) (w : World) (hT : TabAt w s.ao s.T) (hz : s.T.length * 48 ≤ 140737488351232) (hL : SgsAt w s.so s.L) (hzl : s.L.length * 32 ≤ 140737488351232) (hf : FrOk s.f) (hw : WidAt w) (ho : s.op < 256) (ha : -9223372036854775808 ≤ s.a ∧ s.a ≤ 9223372036854775807) (hb : -9223372036854775808 ≤ s.b ∧ s.b ≤ 9223372036854775807) :
    Calls Tryz.prog 8 #[.agg #[.slice s.ao s.T.length s.cap, .slice s.so s.L.length s.sc, .int .i64 s.fn], .agg (frA s.f), .agg #[.int .i64 s.p, .int .u8 (s.op : Int), .int .i64 s.a, .int .i64 s.b]] w fun e w' => e = .returned (frTwo (applyD s)) ∧ Below w.heap.size w w' := by
  have HX4 := hide (B4.new w s)
  have HOKF : Hid (∀ W, Below w.heap.size w W → canD s.T s.L s.fn = true → SpOk W s) := hide (fun W hB hc => ⟨hT.below hB, hL.below hB, hz, hzl, canD_all hc, hf, ho, ha, hb, hw.below hB⟩)
  have HCB := hide (fun W (hB : Below w.heap.size w W) => Can_any s.ao s.cap s.T s.so s.sc s.L s.fn W (hT.below hB) hz (hL.below hB) hzl)
  have hbz := run_buildZ
  have HRA := hide hra
  have HE : Hid (∀ (X : Fr × Int) (W : World), applyD s = X → Below w.heap.size w W → (Ending.returned (frTwo X) = .returned (frTwo (applyD s)) ∧ Below w.heap.size w W)) := hide (fun X W h hB => ⟨by rw [h], hB⟩)
  clear hT hz hL hzl hw ho ha hb hra
  go_enter Tryz.func8, Tryz.ntmps8
  go_upto_region 1 with fail
  rw [frZ_eq]
  generalize ((((w.alloc (.cells #[.slice s.ao s.T.length s.cap, .slice s.so s.L.length s.sc, .int .i64 s.fn] 25)).alloc (.cells (frA s.f) 29)).alloc (.cells #[.int .i64 s.p, .int .u8 (s.op : Int), .int .i64 s.a, .int .i64 s.b] 31)).alloc (.cells (frA frZ) 29)) = W0 at HX4 ⊢
  have HZ0 := hide (FAt.new W0 frZ)
  go_upto_region 2 with (refine wpList_store_rowN rfl 29 (.tmp 8) (.tmp 12) rfl W0.heap.size (frA frZ) rfl rfl 29 (frA frZ) (unhide HZ0) (sizeFr frZ_ok) rfl (frA_one _) (fun W1 hW1 => ?_))
  have HX := hide ((unhide HX4).five hW1)
  rw [(unhide HX4).sz]
  clear hW1 HX4 HZ0 W0
  go_wp2_with (refine wpList_load_rowG (by kernel_rfl) 25 (.tmp 3) rfl w.heap.size rfl 25 #[.slice s.ao s.T.length s.cap, .slice s.so s.L.length s.sc, .int .i64 s.fn] (0, 0) _ (unhide HX).e Tryz.underlying25 rfl (by kernel_rfl) ?_)
  refine (unhide HCB W1 (unhide HX).bel).mono ?_
  rintro e W2 ⟨rfl, hB2⟩
  have HX2 := hide ((unhide HX).below hB2)
  clear hB2 HX HCB W1
  cases hc : canD s.T s.L s.fn
  · have HR : Hid (applyD s = (frZ, 1)) := hide (by unfold applyD begE; rw [if_pos hc, if_pos (by decide)])
    clear hc
    go_wp2_with (first | (refine wpList_load_row rfl 29 (.tmp 8) rfl (w.heap.size + 4) rfl 29 (frA frZ) (0, 0) _ (unhide HX2).n Tryz.underlying29 rfl (sizeFr frZ_ok) ?_) | (refine wpList_store_row rfl 29 (.tmp 6) (.tmp 16) rfl (w.heap.size + 3) (frA frZ) rfl rfl 29 (frA frZ) (unhide HX2).r (sizeFr frZ_ok) rfl (frA_one _) ?_))
    exact bodyPost_ret (v := frTwo (frZ, 1)) (results_fr2 rfl _ _ (w.heap.size + 3) frZ 1 frZ_ok rfl rfl ((unhide HX2).r.row _)) rfl (unhide HE _ _ (unhide HR) (below_setRow' (unhide HX2).bel (by omega) _))
  have HCAN := hide hc
  have HOK := hide (unhide HOKF W2 (unhide HX2).bel hc)
  have HBE : Hid (begE s = chkF s.T.length s.f) := hide (by unfold begE; rw [if_neg (by rw [hc]; decide)])
  have k0 := (unhide HX2).e.c0
  clear hc
  go_wp2_with (refine wpList_load_row rfl 29 (.tmp 4) rfl (w.heap.size + 1) rfl 29 (frA s.f) (0, 0) _ (unhide HX2).f Tryz.underlying29 rfl (sizeFr hf) ?_)
  refine (refCheckF_any s.ao s.cap s.T.length s.f W2 hf).mono ?_
  rintro e W3 ⟨rfl, hB3⟩
  have HX3 := hide ((unhide HX2).below hB3)
  have HOK3 := hide ((unhide HOK).below hB3)
  clear hB3 HX2 HOK k0 W2
  by_cases h0 : chkF s.T.length s.f = 0
  rotate_left
  · have HR : Hid (applyD s = (frZ, chkF s.T.length s.f)) := hide (by unfold applyD; rw [unhide HBE, if_pos h0])
    have q1 : (chkF s.T.length s.f != 0) = true := bne_t h0
    clear h0 HBE
    generalize chkF s.T.length s.f = er at HR q1 ⊢
    go_wp2_with (first | (refine wpList_load_row rfl 29 (.tmp 8) rfl (w.heap.size + 4) rfl 29 (frA frZ) (0, 0) _ (unhide HX3).n Tryz.underlying29 rfl (sizeFr frZ_ok) ?_) | (refine wpList_store_row rfl 29 (.tmp 6) (.tmp 23) rfl (w.heap.size + 3) (frA frZ) rfl rfl 29 (frA frZ) (unhide HX3).r (sizeFr frZ_ok) rfl (frA_one _) ?_))
    exact bodyPost_ret (v := frTwo (frZ, er)) (results_fr2 rfl _ _ (w.heap.size + 3) frZ er frZ_ok rfl rfl ((unhide HX3).r.row _)) rfl (unhide HE _ _ (unhide HR) (below_setRow' (unhide HX3).bel (by omega) _))
  have HR0 : Hid (applyD s = applyS s) := hide (by unfold applyD; rw [unhide HBE, if_neg (by omega)])
  have HFI := hide (frIs_of hf h0)
  rw [h0]
  clear h0 HBE
  have ko : W3.cell? ⟨w.heap.size + 2, 1, none⟩ = some (.int .u8 (s.op : Int)) := (unhide HX3).i.c 1
  have ka : W3.cell? ⟨w.heap.size + 2, 2, none⟩ = some (.int .i64 s.a) := (unhide HX3).i.c 2
  have kl := (unhide HX3).f.lo
  go_wp2_with fail
  refine (refSize_any s.op W3).mono ?_
  rintro e W4 ⟨rfl, hw4⟩
  rw [hw4]
  clear hw4 W4
  by_cases h34 : s.op < 34
  rotate_left
  · have b0 : (((sizeD s.op : Nat) : Int) == 0) = true := beq_t (sizeD_out h34)
    have HR : Hid (applyD s = (frZ, 40)) := hide (by
      have hu : missD s = 40 := by unfold missD unkD unkO; rw [if_neg (by omega), if_pos (by omega)]
      rw [unhide HR0]; unfold applyS
      rw [if_pos (by rw [hu]; decide), hu])
    clear h34
    go_wp2_with (first | (refine wpList_load_row rfl 29 (.tmp 8) rfl (w.heap.size + 4) rfl 29 (frA frZ) (0, 0) _ (unhide HX3).n Tryz.underlying29 rfl (sizeFr frZ_ok) ?_) | (refine wpList_store_row rfl 29 (.tmp 6) (.tmp 29) rfl (w.heap.size + 3) (frA frZ) rfl rfl 29 (frA frZ) (unhide HX3).r (sizeFr frZ_ok) rfl (frA_one _) ?_))
    exact bodyPost_ret (v := frTwo (frZ, 40)) (results_fr2 rfl _ _ (w.heap.size + 3) frZ 40 frZ_ok rfl rfl ((unhide HX3).r.row _)) rfl (unhide HE _ _ (unhide HR) (below_setRow' (unhide HX3).bel (by omega) _))
  have b0 : (((sizeD s.op : Nat) : Int) == 0) = false := beq_f (sizeD_in h34)
  have H34 := hide h34
  clear h34
  have HLOC : Hid (∀ (Q : Prop), ((missD s = 33) → ((((s.op : Nat) : Int) == 4) = true ∨ ((((s.op : Nat) : Int) == 4) = false ∧ (((s.op : Nat) : Int) == 5) = true)) → (s.a < 0 ∨ (¬ s.a < 0 ∧ s.a ≥ s.f.lo)) → Q) → ((((((s.op : Nat) : Int) == 4) = true ∨ ((((s.op : Nat) : Int) == 4) = false ∧ (((s.op : Nat) : Int) == 5) = true)) ∧ ¬ s.a < 0 ∧ ¬ s.a ≥ s.f.lo ∧ missD s = unkD s) → Q) → (((((s.op : Nat) : Int) == 4) = false ∧ (((s.op : Nat) : Int) == 5) = false ∧ missD s = unkD s) → Q) → Q) := hide (by
    intro Q h1 h2 h3
    by_cases hl : s.op = 4 ∨ s.op = 5
    · have hm := miss_slot hl (unhide HFI).shape
      have ht : ((((s.op : Nat) : Int) == 4) = true ∨ ((((s.op : Nat) : Int) == 4) = false ∧ (((s.op : Nat) : Int) == 5) = true)) := by
        rcases hl with h | h
        · exact Or.inl (beq_t (by omega))
        · exact Or.inr ⟨beq_f (by omega), beq_t (by omega)⟩
      by_cases hq : s.a < 0 ∨ s.f.lo ≤ s.a
      · rw [if_pos hq] at hm
        refine h1 hm ht ?_
        by_cases h0 : s.a < 0
        · exact Or.inl h0
        · exact Or.inr ⟨h0, by omega⟩
      · rw [if_neg hq] at hm
        refine h2 ⟨ht, by omega, by omega, ?_⟩
        rw [hm, miss_unk hm]
    · refine h3 ⟨beq_f (by omega), beq_f (by omega), ?_⟩
      unfold missD; rw [if_neg hl])
  have HNEXT : Hid (missD s = unkD s → True) := hide (fun _ => trivial)
  clear HNEXT
  refine unhide HLOC _ ?_ ?_ ?_
  · intro hm ht hq
    have HR : Hid (applyD s = (frZ, 33)) := hide (by rw [unhide HR0]; unfold applyS; rw [if_pos (by rw [hm]; decide), hm])
    clear hm HLOC
    rcases ht with t4 | ⟨t4, t5⟩ <;> rcases hq with q1 | ⟨q1, q2⟩
    all_goals (
      go_upto_region 11 with fail
      go_wp2_with (first | (refine wpList_load_row rfl 29 (.tmp 8) rfl (w.heap.size + 4) rfl 29 (frA frZ) (0, 0) _ (unhide HX3).n Tryz.underlying29 rfl (sizeFr frZ_ok) ?_) | (refine wpList_store_row rfl 29 (.tmp 6) (.tmp 51) rfl (w.heap.size + 3) (frA frZ) rfl rfl 29 (frA frZ) (unhide HX3).r (sizeFr frZ_ok) rfl (frA_one _) ?_))
      exact bodyPost_ret (v := frTwo (frZ, 33)) (results_fr2 rfl _ _ (w.heap.size + 3) frZ 33 frZ_ok rfl rfl ((unhide HX3).r.row _)) rfl (unhide HE _ _ (unhide HR) (below_setRow' (unhide HX3).bel (by omega) _)))
  · rintro ⟨ht, q1, q2, hm⟩
    clear HLOC
    rcases ht with t4 | ⟨t4, t5⟩
    all_goals (
      have k0 := (unhide HX3).e.c0
      have k1 := (unhide HX3).e.c1
      have k2 := (unhide HX3).e.c2
      have k3 : W3.cell? ⟨w.heap.size + 2, 0, none⟩ = some (.int .i64 s.p) := (unhide HX3).i.c 0
      have k5 : W3.cell? ⟨w.heap.size + 2, 3, none⟩ = some (.int .i64 s.b) := (unhide HX3).i.c 3
      go_wp2_with fail
      refine (Operands_any s W3 (unhide HOK3) (unhide H34)).mono ?_
      rintro e W5 ⟨rfl, hB5⟩
      have HX5 := hide ((unhide HX3).below hB5)
      have HOK5 := hide ((unhide HOK3).below hB5)
      have HM := hide hm
      clear hB5 HX3 HOK3 ko ka kl k0 k1 k2 k3 k5 W3 hm
      by_cases hu : unkD s = 0
      rotate_left
      · have HR : Hid (applyD s = (frZ, unkD s)) := hide (by rw [unhide HR0]; unfold applyS; rw [unhide HM, if_pos hu])
        have q3 : (unkD s != 0) = true := bne_t hu
        clear hu HM
        generalize unkD s = er at HR q3 ⊢
        go_wp2_with (first | (refine wpList_load_row rfl 29 (.tmp 8) rfl (w.heap.size + 4) rfl 29 (frA frZ) (0, 0) _ (unhide HX5).n Tryz.underlying29 rfl (sizeFr frZ_ok) ?_) | (refine wpList_store_row rfl 29 (.tmp 6) (.tmp 57) rfl (w.heap.size + 3) (frA frZ) rfl rfl 29 (frA frZ) (unhide HX5).r (sizeFr frZ_ok) rfl (frA_one _) ?_))
        exact bodyPost_ret (v := frTwo (frZ, er)) (results_fr2 rfl _ _ (w.heap.size + 3) frZ er frZ_ok rfl rfl ((unhide HX5).r.row _)) rfl (unhide HE _ _ (unhide HR) (below_setRow' (unhide HX5).bel (by omega) _))
      have HAP := hide (unhide HRA W5 (unhide HOK5) (unhide HFI) (by rw [unhide HM]; exact hu))
      have HR : Hid (applyD s = ((applyS s).1, (applyS s).2)) := hide (unhide HR0)
      have HOR : Hid (FrOk (applyS s).1) := hide (applyS_ok s (unhide HOK5).can (unhide HFI))
      have HT2 : Hid (frTwo (applyS s) = .tuple #[.agg (frA (applyS s).1), .int .i64 (applyS s).2]) := hide rfl
      rw [unhide HT2] at HAP
      clear HR0 HRA HT2
      generalize (applyS s).1 = F at HR HAP HOR
      generalize (applyS s).2 = er at HR HAP
      rw [hu]
      clear hu HM
      go_upto_region 15 with fail
      refine wp_region_lit ?_
      refine wpList_load_rowG (by kernel_rfl) 25 (.tmp 3) rfl w.heap.size rfl 25 #[.slice s.ao s.T.length s.cap, .slice s.so s.L.length s.sc, .int .i64 s.fn] (0, 0) _ (unhide HX5).e Tryz.underlying25 rfl (by kernel_rfl) ?_
      refine wpList_load_row rfl 29 (.tmp 4) rfl (w.heap.size + 1) rfl 29 (frA s.f) (0, 0) _ (unhide HX5).f Tryz.underlying29 rfl (sizeFr hf) ?_
      refine wpList_load_rowG (by kernel_rfl) 31 (.tmp 5) rfl (w.heap.size + 2) rfl 31 #[.int .i64 s.p, .int .u8 (s.op : Int), .int .i64 s.a, .int .i64 s.b] (0, 0) _ (unhide HX5).i Tryz.underlying31 rfl (by kernel_rfl) ?_
      go_simp
      go_wp2_with fail
      refine (unhide HAP).mono ?_
      rintro e W6 ⟨rfl, hB6⟩
      have HX6 := hide ((unhide HX5).below hB6)
      clear hB6 HAP HX5
      go_wp2_with (refine wpList_store_row rfl 29 (.tmp 6) (.tmp 63) rfl (w.heap.size + 3) (frA F) rfl rfl 29 (frA frZ) (unhide HX6).r (sizeFr (unhide HOR)) (sizeEq frZ_ok (unhide HOR)) (frA_one _) ?_)
      exact bodyPost_ret (v := frTwo (F, er)) (results_fr2 rfl _ _ (w.heap.size + 3) F er (unhide HOR) rfl rfl ((unhide HX6).r.row _)) rfl (unhide HE _ _ (unhide HR) (below_setRow' (unhide HX6).bel (by omega) _))
      )
  · rintro ⟨t4, t5, hm⟩
    clear HLOC
    all_goals (
      have k0 := (unhide HX3).e.c0
      have k1 := (unhide HX3).e.c1
      have k2 := (unhide HX3).e.c2
      have k3 : W3.cell? ⟨w.heap.size + 2, 0, none⟩ = some (.int .i64 s.p) := (unhide HX3).i.c 0
      have k5 : W3.cell? ⟨w.heap.size + 2, 3, none⟩ = some (.int .i64 s.b) := (unhide HX3).i.c 3
      go_wp2_with fail
      refine (Operands_any s W3 (unhide HOK3) (unhide H34)).mono ?_
      rintro e W5 ⟨rfl, hB5⟩
      have HX5 := hide ((unhide HX3).below hB5)
      have HOK5 := hide ((unhide HOK3).below hB5)
      have HM := hide hm
      clear hB5 HX3 HOK3 ko ka kl k0 k1 k2 k3 k5 W3 hm
      by_cases hu : unkD s = 0
      rotate_left
      · have HR : Hid (applyD s = (frZ, unkD s)) := hide (by rw [unhide HR0]; unfold applyS; rw [unhide HM, if_pos hu])
        have q3 : (unkD s != 0) = true := bne_t hu
        clear hu HM
        generalize unkD s = er at HR q3 ⊢
        go_wp2_with (first | (refine wpList_load_row rfl 29 (.tmp 8) rfl (w.heap.size + 4) rfl 29 (frA frZ) (0, 0) _ (unhide HX5).n Tryz.underlying29 rfl (sizeFr frZ_ok) ?_) | (refine wpList_store_row rfl 29 (.tmp 6) (.tmp 57) rfl (w.heap.size + 3) (frA frZ) rfl rfl 29 (frA frZ) (unhide HX5).r (sizeFr frZ_ok) rfl (frA_one _) ?_))
        exact bodyPost_ret (v := frTwo (frZ, er)) (results_fr2 rfl _ _ (w.heap.size + 3) frZ er frZ_ok rfl rfl ((unhide HX5).r.row _)) rfl (unhide HE _ _ (unhide HR) (below_setRow' (unhide HX5).bel (by omega) _))
      have HAP := hide (unhide HRA W5 (unhide HOK5) (unhide HFI) (by rw [unhide HM]; exact hu))
      have HR : Hid (applyD s = ((applyS s).1, (applyS s).2)) := hide (unhide HR0)
      have HOR : Hid (FrOk (applyS s).1) := hide (applyS_ok s (unhide HOK5).can (unhide HFI))
      have HT2 : Hid (frTwo (applyS s) = .tuple #[.agg (frA (applyS s).1), .int .i64 (applyS s).2]) := hide rfl
      rw [unhide HT2] at HAP
      clear HR0 HRA HT2
      generalize (applyS s).1 = F at HR HAP HOR
      generalize (applyS s).2 = er at HR HAP
      rw [hu]
      clear hu HM
      go_upto_region 15 with fail
      refine wp_region_lit ?_
      refine wpList_load_rowG (by kernel_rfl) 25 (.tmp 3) rfl w.heap.size rfl 25 #[.slice s.ao s.T.length s.cap, .slice s.so s.L.length s.sc, .int .i64 s.fn] (0, 0) _ (unhide HX5).e Tryz.underlying25 rfl (by kernel_rfl) ?_
      refine wpList_load_row rfl 29 (.tmp 4) rfl (w.heap.size + 1) rfl 29 (frA s.f) (0, 0) _ (unhide HX5).f Tryz.underlying29 rfl (sizeFr hf) ?_
      refine wpList_load_rowG (by kernel_rfl) 31 (.tmp 5) rfl (w.heap.size + 2) rfl 31 #[.int .i64 s.p, .int .u8 (s.op : Int), .int .i64 s.a, .int .i64 s.b] (0, 0) _ (unhide HX5).i Tryz.underlying31 rfl (by kernel_rfl) ?_
      go_simp
      go_wp2_with fail
      refine (unhide HAP).mono ?_
      rintro e W6 ⟨rfl, hB6⟩
      have HX6 := hide ((unhide HX5).below hB6)
      clear hB6 HAP HX5
      go_wp2_with (refine wpList_store_row rfl 29 (.tmp 6) (.tmp 63) rfl (w.heap.size + 3) (frA F) rfl rfl 29 (frA frZ) (unhide HX6).r (sizeFr (unhide HOR)) (sizeEq frZ_ok (unhide HOR)) (frA_one _) ?_)
      exact bodyPost_ret (v := frTwo (F, er)) (results_fr2 rfl _ _ (w.heap.size + 3) F er (unhide HOR) rfl rfl ((unhide HX6).r.row _)) rfl (unhide HE _ _ (unhide HR) (below_setRow' (unhide HX6).bel (by omega) _))
      )
end Go.Proofs.YtkodmpcnndbngaaGreatDoor
