/-
  The walk of the law StepApplies, of what the document's apply answers: it returns true, and writes nothing that was there.
-/
import Derived.Test.YtkodmpcnndbngaaGreatDoorKSt23
import Derived.Test.YtkodmpcnndbngaaGreatDoorKSt24
import Derived.Test.YtkodmpcnndbngaaGreatDoorJSU
import Derived.Test.YtkodmpcnndbngaaGreatDoorShell
namespace Go.Proofs.YtkodmpcnndbngaaGreatDoor
open Go.RowKit
set_option maxRecDepth 20000

theorem applyD_ok (s : Sp) (hf : FrOk s.f) : FrOk (applyD s).1 := by
  unfold applyD
  by_cases h : begE s = 0
  · rw [if_neg (by omega)]
    have hc : canD s.T s.L s.fn = true := by
      unfold begE at h
      cases hc : canD s.T s.L s.fn
      · rw [if_pos hc] at h; exact absurd h (by decide)
      · rfl
    have hk : chkF s.T.length s.f = 0 := by
      unfold begE at h
      rw [if_neg (by rw [hc]; decide)] at h
      exact h
    exact applyS_ok s (canD_all hc) (frIs_of hf hk)
  · rw [if_pos h]; exact frZ_ok
/-- The three boxes of what is handed in. -/
structure B3 (w W : World) (s : Sp) : Prop where
  e : EBx W w.heap.size (.slice s.ao s.T.length s.cap) (.slice s.so s.L.length s.sc) s.fn
  f : FAt W (w.heap.size + 1) s.f
  i : IBx W (w.heap.size + 2) s
  bel : Below w.heap.size w W
theorem B3.below {w W W' : World} {s : Sp} (h : B3 w W s) (hb : Below W.heap.size W W') : B3 w W' s :=
  ⟨(hb.block _ h.e.lt).trans h.e, h.f.below hb h.f.lt, (hb.block _ h.i.lt).trans h.i, h.bel.trans (hb.mono h.bel.size)⟩
/-- And the copy's. -/
structure B3g (w W : World) (g : Nat) (s t : Sp) : Prop where
  e : EBx W w.heap.size (.slice s.ao s.T.length s.cap) (.slice s.so s.L.length s.sc) s.fn
  f : FAt W (w.heap.size + 1) s.f
  i : IBx W (w.heap.size + 2) s
  c : EBx W g (.slice t.ao t.T.length t.cap) (.slice t.so t.L.length t.sc) t.fn
  bel : Below w.heap.size w W
theorem B3g.below {w W W' : World} {g : Nat} {s t : Sp} (h : B3g w W g s t) (hb : Below W.heap.size W W') : B3g w W' g s t :=
  ⟨(hb.block _ h.e.lt).trans h.e, h.f.below hb h.f.lt, (hb.block _ h.i.lt).trans h.i, (hb.block _ h.c.lt).trans h.c, h.bel.trans (hb.mono h.bel.size)⟩
theorem B3.new (w : World) (s : Sp) : B3 w (((w.alloc (.cells #[.slice s.ao s.T.length s.cap, .slice s.so s.L.length s.sc, .int .i64 s.fn] 25)).alloc (.cells (frA s.f) 29)).alloc (.cells #[.int .i64 s.p, .int .u8 (s.op : Int), .int .i64 s.a, .int .i64 s.b] 31)) s := by
  have b1 := Bf.new w s
  have al3 := (Below.refl _ ((w.alloc (.cells #[.slice s.ao s.T.length s.cap, .slice s.so s.L.length s.sc, .int .i64 s.fn] 25)).alloc (.cells (frA s.f) 29))).alloc (Nat.le_refl _) (.cells #[.int .i64 s.p, .int .u8 (s.op : Int), .int .i64 s.a, .int .i64 s.b] 31)
  have n3 := heap_alloc_new ((w.alloc (.cells #[.slice s.ao s.T.length s.cap, .slice s.so s.L.length s.sc, .int .i64 s.fn] 25)).alloc (.cells (frA s.f) 29)) (.cells #[.int .i64 s.p, .int .u8 (s.op : Int), .int .i64 s.a, .int .i64 s.b] 31)
  have hsz : ((w.alloc (.cells #[.slice s.ao s.T.length s.cap, .slice s.so s.L.length s.sc, .int .i64 s.fn] 25)).alloc (.cells (frA s.f) 29)).heap.size = w.heap.size + 2 := by simp
  rw [hsz] at n3
  have HX := b1.below al3
  exact ⟨HX.e, HX.f, n3, HX.bel⟩
theorem eqlFr_self {f : Fr} (hf : FrOk f) (w : World) : (binOp .eql 29 (.agg (frA f)) (.agg (frA f))).run Tryz.prog w = .ok (.bool true) w := by rw [run_eqlFr w hf hf, frEq_iff.2 rfl]
set_option maxRecDepth 20000 in
set_option maxHeartbeats 8000000 in
theorem walkStepApplies_of {w : World} (hA : WordsAt w ∧ WidAt w) (ao : Option Addr) (cap : Nat) (T : List Cl) (so : Option Addr) (sc : Nat) (L : List Sg) (fn : Int) (hT : TabAt w ao T) (hz : T.length * 48 ≤ 140737488351232) (hL : SgsAt w so L) (hzl : L.length * 32 ≤ 140737488351232) (f : Fr) (hf : FrOk f) (p : Int) (op : Nat) (a b : Int) (ho : op < 256) (ha : -9223372036854775808 ≤ a ∧ a ≤ 9223372036854775807) (hb : -9223372036854775808 ≤ b ∧ b ≤ 9223372036854775807) (hra : RefA (⟨ao, cap, T, so, sc, L, fn, f, p, op, a, b⟩ : Sp)) :
    Calls Tryz.prog 3 #[.agg #[.slice ao T.length cap, .slice so L.length sc, .int .i64 fn], .agg (frA f), .agg #[.int .i64 p, .int .u8 (op : Int), .int .i64 a, .int .i64 b]] w fun e w' => e = .returned (.bool true) ∧ Below w.heap.size w w' := by
  have HX := hide (B3.new w (⟨ao, cap, T, so, sc, L, fn, f, p, op, a, b⟩ : Sp))
  have HEV := hide (Env_any ao cap T so sc L fn _ (hT.below (B3.new w (⟨ao, cap, T, so, sc, L, fn, f, p, op, a, b⟩ : Sp)).bel) hz (hL.below (B3.new w (⟨ao, cap, T, so, sc, L, fn, f, p, op, a, b⟩ : Sp)).bel) hzl)
  have HTW : Hid (∀ W, Below w.heap.size w W → TabAt W ao T ∧ SgsAt W so L ∧ WordsAt W ∧ WidAt W) := hide (fun W hB => ⟨hT.below hB, hL.below hB, hA.1.below hB, hA.2.below hB⟩)
  have HO := hide ho
  have HA := hide ha
  have HBB := hide hb
  have HZ := hide hz
  have HZL := hide hzl
  have HRA := hide hra
  clear hT hL hA ho ha hb hz hzl hra
  go_enter Tryz.func3, Tryz.ntmps3
  go_upto_region 1 with fail
  generalize (((w.alloc (.cells #[.slice ao T.length cap, .slice so L.length sc, .int .i64 fn] 25)).alloc (.cells (frA f) 29)).alloc (.cells #[.int .i64 p, .int .u8 (op : Int), .int .i64 a, .int .i64 b] 31)) = W1 at HX HEV ⊢
  have k0 := (unhide HX).e.c0
  have k1 := (unhide HX).e.c1
  have k2 := (unhide HX).e.c2
  go_wp2_with fail
  refine (unhide HEV).mono ?_
  rintro e W2 ⟨ga, gc, G, va, vc, M, rfl, hG, hS, hcp, hM, hSm, hB2⟩
  have HX2 := hide ((unhide HX).below hB2)
  have al2 := (Below.refl W2.heap.size W2).alloc (Nat.le_refl _) (.cells #[.slice ga G.length gc, .slice va M.length vc, .int .i64 fn] 25)
  have HG3 : Hid (EBx (W2.alloc (.cells #[.slice ga G.length gc, .slice va M.length vc, .int .i64 fn] 25)) W2.heap.size (.slice ga G.length gc) (.slice va M.length vc) fn) := hide (heap_alloc_new W2 _)
  have HX3 : Hid (B3g w (W2.alloc (.cells #[.slice ga G.length gc, .slice va M.length vc, .int .i64 fn] 25)) W2.heap.size (⟨ao, cap, T, so, sc, L, fn, f, p, op, a, b⟩ : Sp) (⟨ga, gc, G, va, vc, M, fn, f, p, op, a, b⟩ : Sp)) := hide (by
    have h := (unhide HX2).below al2
    exact ⟨h.e, h.f, h.i, unhide HG3, h.bel⟩)
  have HTG : Hid (∀ W, Below (W2.alloc (.cells #[.slice ga G.length gc, .slice va M.length vc, .int .i64 fn] 25)).heap.size (W2.alloc (.cells #[.slice ga G.length gc, .slice va M.length vc, .int .i64 fn] 25)) W → TabAt W ga G ∧ SgsAt W va M) := hide (fun W hB => ⟨(hG.below al2).below hB, (hM.below al2).below hB⟩)
  have HSS : Hid (SameSp (⟨ao, cap, T, so, sc, L, fn, f, p, op, a, b⟩ : Sp) (⟨ga, gc, G, va, vc, M, fn, f, p, op, a, b⟩ : Sp)) := hide ⟨hS, hSm, rfl, rfl, rfl, rfl, rfl⟩
  have HCP := hide hcp
  have HZG : Hid (G.length * 48 ≤ 140737488351232) := hide (by rw [hS.1]; exact unhide HZ)
  have HZM : Hid (M.length * 32 ≤ 140737488351232) := hide (by rw [hSm.1]; exact unhide HZL)
  have HS := hide hS
  have HSM := hide hSm
  clear hG hS hcp hM hSm hB2 al2 HX HG3 HX2 HEV k0 k1 k2
  go_upto_region 2 with fail
  generalize (W2.alloc (.cells #[.slice ga G.length gc, .slice va M.length vc, .int .i64 fn] 25)) = W3 at HX3 HTG ⊢
  generalize W2.heap.size = g at HX3 ⊢
  clear W1 W2
  have HAP : Hid (∀ W, Below W3.heap.size W3 W → Calls Tryz.prog 7 #[.agg #[.slice ga G.length gc, .slice va M.length vc, .int .i64 fn], .agg (frA f), .agg #[.int .i64 p, .int .u8 (op : Int), .int .i64 a, .int .i64 b]] W fun e w' => e = .returned (frTwo (applyD (⟨ga, gc, G, va, vc, M, fn, f, p, op, a, b⟩ : Sp))) ∧ Below W.heap.size W w') := hide (fun W hB => by
    have hw := unhide HTW W ((unhide HX3).below hB).bel
    exact Apply_any (⟨ga, gc, G, va, vc, M, fn, f, p, op, a, b⟩ : Sp) W (unhide HTG W hB).1 (unhide HCP) hw.2.2.1 (unhide HZG) (unhide HTG W hB).2 (unhide HZM) hf hw.2.2.2 (unhide HO) (unhide HA) (unhide HBB))
  have HRP : Hid (∀ W, Below W3.heap.size W3 W → Calls Tryz.prog 8 #[.agg #[.slice ao T.length cap, .slice so L.length sc, .int .i64 fn], .agg (frA f), .agg #[.int .i64 p, .int .u8 (op : Int), .int .i64 a, .int .i64 b]] W fun e w' => e = .returned (frTwo (applyD (⟨ao, cap, T, so, sc, L, fn, f, p, op, a, b⟩ : Sp))) ∧ Below W.heap.size W w') := hide (fun W hB => by
    have hw := unhide HTW W ((unhide HX3).below hB).bel
    exact refApply_of (⟨ao, cap, T, so, sc, L, fn, f, p, op, a, b⟩ : Sp) (unhide HRA) W hw.1 (unhide HZ) hw.2.1 (unhide HZL) hf hw.2.2.2 (unhide HO) (unhide HA) (unhide HBB))
  have HSE := hide (fun W (hB : Below W3.heap.size W3 W) => SameEnv_yes ga ao gc cap T G va so vc sc L M fn W (unhide HTG W hB).1 (unhide HTW W ((unhide HX3).below hB).bel).1 (unhide HS) (unhide HZ) (unhide HTG W hB).2 (unhide HTW W ((unhide HX3).below hB).bel).2.1 (unhide HSM) (unhide HZL))
  rw [(unhide HSS).applyD] at HAP
  have hF : FrOk (applyD (⟨ao, cap, T, so, sc, L, fn, f, p, op, a, b⟩ : Sp)).1 := applyD_ok _ hf
  have HT2 : Hid (frTwo (applyD (⟨ao, cap, T, so, sc, L, fn, f, p, op, a, b⟩ : Sp)) = .tuple #[.agg (frA (applyD (⟨ao, cap, T, so, sc, L, fn, f, p, op, a, b⟩ : Sp)).1), .int .i64 (applyD (⟨ao, cap, T, so, sc, L, fn, f, p, op, a, b⟩ : Sp)).2]) := hide rfl
  rw [unhide HT2] at HAP HRP
  clear HT2 HSS HRA HTG HTW
  generalize (applyD (⟨ao, cap, T, so, sc, L, fn, f, p, op, a, b⟩ : Sp)).1 = F at HAP HRP hF
  generalize (applyD (⟨ao, cap, T, so, sc, L, fn, f, p, op, a, b⟩ : Sp)).2 = er at HAP HRP
  have hq : ∀ W, (binOp .eql 29 (.agg (frA F)) (.agg (frA F))).run Tryz.prog W = .ok (.bool true) W := eqlFr_self hF
  refine wp_region_lit ?_
  refine wpList_load_rowG (by kernel_rfl) 25 (.tmp 7) rfl g rfl 25 #[.slice ga G.length gc, .slice va M.length vc, .int .i64 fn] (0, 0) _ (unhide HX3).c Tryz.underlying25 rfl (by kernel_rfl) ?_
  refine wpList_load_row rfl 29 (.tmp 4) rfl (w.heap.size + 1) rfl 29 (frA f) (0, 0) _ (unhide HX3).f Tryz.underlying29 rfl (sizeFr hf) ?_
  refine wpList_load_rowG (by kernel_rfl) 31 (.tmp 5) rfl (w.heap.size + 2) rfl 31 #[.int .i64 p, .int .u8 (op : Int), .int .i64 a, .int .i64 b] (0, 0) _ (unhide HX3).i Tryz.underlying31 rfl (by kernel_rfl) ?_
  go_simp
  go_wp2_with fail
  refine (unhide HAP W3 (Below.refl _ _)).mono ?_
  rintro e W4 ⟨rfl, hB4⟩
  have HR4 := hide hB4
  have Z4 : Hid (FAt (W4.alloc (.cells (frA frZ) 29)) W4.heap.size frZ) := hide (FAt.new W4 frZ)
  clear hB4 HAP
  go_upto_region 3 with (refine wpList_store_rowN rfl 29 (.tmp 8) (.tmp 19) rfl W4.heap.size (frA F) rfl rfl 29 (frA frZ) (unhide Z4) (sizeFr hF) (sizeEq frZ_ok hF) (frA_one _) (fun W5 hN => ?_))
  all_goals (
    have hBs : Below W4.heap.size W4 W5 := by rw [← hN]; exact below_setRow' ((Below.refl W4.heap.size W4).alloc (Nat.le_refl _) _) (Nat.le_refl _) _
    have HR5 : Hid (Below W3.heap.size W3 W5) := hide ((unhide HR4).trans (hBs.mono (unhide HR4).size))
    have HF5 : Hid (FAt W5 W4.heap.size F) := hide (by rw [← hN]; exact (unhide Z4).row F)
    have HX5 := hide ((unhide HX3).below (unhide HR5))
    clear hN hBs Z4 HR4
    generalize W4.heap.size = g8 at HF5 ⊢
    refine wp_region_lit ?_
    refine wpList_load_rowG (by kernel_rfl) 25 (.tmp 3) rfl w.heap.size rfl 25 #[.slice ao T.length cap, .slice so L.length sc, .int .i64 fn] (0, 0) _ (unhide HX5).e Tryz.underlying25 rfl (by kernel_rfl) ?_
    refine wpList_load_row rfl 29 (.tmp 4) rfl (w.heap.size + 1) rfl 29 (frA f) (0, 0) _ (unhide HX5).f Tryz.underlying29 rfl (sizeFr hf) ?_
    refine wpList_load_rowG (by kernel_rfl) 31 (.tmp 5) rfl (w.heap.size + 2) rfl 31 #[.int .i64 p, .int .u8 (op : Int), .int .i64 a, .int .i64 b] (0, 0) _ (unhide HX5).i Tryz.underlying31 rfl (by kernel_rfl) ?_
    go_simp
    go_wp2_with fail
    refine (unhide HRP W5 (unhide HR5)).mono ?_
    rintro e W6 ⟨rfl, hB6⟩
    have HR6 := hide ((unhide HR5).trans (hB6.mono (unhide HR5).size))
    have HF6 := hide ((unhide HF5).below hB6 (unhide HF5).lt)
    have Z6 : Hid (FAt (W6.alloc (.cells (frA frZ) 29)) W6.heap.size frZ) := hide (FAt.new W6 frZ)
    clear hB6 HRP HF5 HX5 HR5
    go_upto_region 4 with (refine wpList_store_rowN rfl 29 (.tmp 10) (.tmp 26) rfl W6.heap.size (frA F) rfl rfl 29 (frA frZ) (unhide Z6) (sizeFr hF) (sizeEq frZ_ok hF) (frA_one _) (fun W7 hN => ?_))
    all_goals (
      have hBs : Below W6.heap.size W6 W7 := by rw [← hN]; exact below_setRow' ((Below.refl W6.heap.size W6).alloc (Nat.le_refl _) _) (Nat.le_refl _) _
      have HR7 : Hid (Below W3.heap.size W3 W7) := hide ((unhide HR6).trans (hBs.mono (unhide HR6).size))
      have HF7 := hide ((unhide HF6).below hBs (unhide HF6).lt)
      have HH7 : Hid (FAt W7 W6.heap.size F) := hide (by rw [← hN]; exact (unhide Z6).row F)
      have HX7 := hide ((unhide HX3).below (unhide HR7))
      clear hN hBs Z6 HR6 HF6 HX3
      generalize W6.heap.size = g10 at HH7 ⊢
      have q3 : (er == er) = true := by simp
      have k0 := (unhide HX7).e.c0
      have k1 := (unhide HX7).e.c1
      have k2 := (unhide HX7).e.c2
      have k3 := (unhide HX7).c.c0
      have k4 := (unhide HX7).c.c1
      have k5 := (unhide HX7).c.c2
      refine wp_region_lit ?_
      refine wpList_load_row rfl 29 (.tmp 8) rfl g8 rfl 29 (frA F) (0, 0) _ (unhide HF7) Tryz.underlying29 rfl (sizeFr hF) ?_
      refine wpList_load_row rfl 29 (.tmp 10) rfl g10 rfl 29 (frA F) (0, 0) _ (unhide HH7) Tryz.underlying29 rfl (sizeFr hF) ?_
      go_simp
      go_wp2_with fail
      refine (unhide HSE W7 (unhide HR7)).mono ?_
      rintro e W8 ⟨rfl, hB8⟩
      have HR8 : Hid (Below w.heap.size w W8) := hide ((unhide HX7).bel.trans (hB8.mono (unhide HX7).bel.size))
      clear hB8
      go_wp2
      go_ret
      exact ⟨rfl, unhide HR8⟩))
end Go.Proofs.YtkodmpcnndbngaaGreatDoor
