/-
  The walk of the law FramesMoves: it returns true for every frame, type and number, and writes nothing that was there.
-/
import Derived.Test.YtihkodfcgfnjoaaFrH
import Derived.Test.YtihkodfcgfnjoaaShell
namespace Go.Proofs.Ytihkodfcgfnjoaa
open Go.RowKit

theorem push_ok {f : Fr} (hf : FrOk f) {t : Nat} (ht : t < 256) : FrOk (pushD f t).1 := by
  unfold pushD
  by_cases h1 : shapeD f = false
  · rw [if_pos h1]; exact frZ_ok
  · rw [if_neg h1]
    by_cases h2 : nF f = 24
    · rw [if_pos h2]; exact frZ_ok
    · rw [if_neg h2]
      have hs : shapeD f = true := by simpa using h1
      have h := set_ok (trim_ok hf hs) (i := nF f) ht
      have := shapeD_iff.1 hs
      exact ⟨h.len, h.byte, h.lo, by constructor <;> show _ ≤ _ <;> simp only <;> omega⟩
theorem pop_ok {f : Fr} (hf : FrOk f) : FrOk (popD f).1 := by
  unfold popD
  by_cases h1 : (topD f 0).2 ≠ 0
  · rw [if_pos h1]; exact frZ_ok
  · rw [if_neg h1]
    obtain ⟨hs, _, h0⟩ := top_good (by simpa using h1)
    have hn := shapeD_iff.1 hs
    have hk : nF f - 1 ≤ 24 := by have := shape_n hs; omega
    refine ⟨trimL_length hf.len hk, fun t ht => ?_, hf.lo, by constructor <;> show _ ≤ _ <;> simp only <;> omega⟩
    unfold trimL at ht
    rcases List.mem_append.1 ht with h | h
    · exact hf.byte t (List.mem_of_mem_take h)
    · rw [List.eq_of_mem_replicate h]; omega
theorem store_ok {f : Fr} (hf : FrOk f) {s : Int} {t : Nat} (ht : t < 256) : FrOk (storeD f s t).1 := by
  unfold storeD
  by_cases h1 : (loadD f s).2 ≠ 0
  · rw [if_pos h1]; exact frZ_ok
  · rw [if_neg h1]
    obtain ⟨hs, _, _⟩ := load_good (by simpa using h1)
    exact set_ok (trim_ok hf hs) (i := s.toNat) ht
theorem frEq_refl (f : Fr) : frEq f f = true := frEq_iff.2 rfl
theorem neq_self {f : Fr} (hf : FrOk f) (w : World) : (binOp .neq 27 (.agg (frA f)) (.agg (frA f))).run Try.prog w = .ok (.bool false) w := by rw [run_neqFr w hf hf, frEq_refl]; rfl
theorem eql_self {f : Fr} (hf : FrOk f) (w : World) : (binOp .eql 27 (.agg (frA f)) (.agg (frA f))).run Try.prog w = .ok (.bool true) w := by rw [run_eqlFr w hf hf, frEq_refl]

set_option maxRecDepth 100000 in
set_option maxHeartbeats 4000000 in
theorem walkFramesMoves {w : World} (f : Fr) (hf : FrOk f) (t : Nat) (ht : t < 256) (n : Int) (hw : (Lit.int .i64 n).wf = true) :
    Calls Try.prog 5 #[.agg (frA f), .int .u8 (t : Int), .int .i64 n] w fun e w' => e = .returned (.bool true) ∧ Below w.heap.size w w' := by
  have hb := bounds_i64 hw
  have HF := hide hf
  have F0 := hide (FAt.new w f)
  have HB0 : Hid (Below w.heap.size w (w.alloc (.cells (frA f) 27))) := hide ((Below.refl _ _).alloc (Nat.le_refl _) _)
  have HX1 := hide (push_ok hf ht)
  have HX2 := hide (pop_ok hf)
  have HX3 := hide (store_ok hf (s := n) ht)
  have hq1 := fun W => neq_self (unhide HX1) W
  have hq2 := fun W => neq_self (unhide HX2) W
  have hq3 := fun W => eql_self (unhide HX3) W
  clear hf hw
  go_enter Try.func5, Try.ntmps5
  go_wp2_with (refine wpList_load_row rfl 27 _ rfl w.heap.size rfl 27 (frA f) (0, 0) _ (unhide F0) Try.underlying27 rfl (sizeFr (unhide HF)) ?_)
  generalize (w.alloc (.cells (frA f) 27)) = W at F0 HB0 ⊢
  refine (Push_any f t _ (unhide HF) ht).mono ?_
  rintro e W1 ⟨rfl, hB2⟩
  have F3 := hide ((unhide F0).below hB2 (unhide F0).lt)
  have HB4 := hide ((unhide HB0).trans (hB2.mono (unhide HB0).size))
  clear hB2 F0 HB0 W
  unfold frTwo
  simp only
  have HP : Hid (frTwo (pushD f t) = .tuple #[.agg (frA (pushD f t).1), .int .i64 (pushD f t).2]) := hide rfl
  generalize (pushD f t).2 = e1 at HP ⊢
  generalize (pushD f t).1 = X1 at HP HX1 hq1 ⊢
  have o_f_a : w.heap.size < W1.heap.size := (unhide F3).lt
  have Z5 : Hid (FAt (W1.alloc (.cells (frA frZ) 27)) W1.heap.size frZ) := hide (FAt.new W1 frZ)
  have hal : Below W1.heap.size W1 (W1.alloc (.cells (frA frZ) 27)) := (Below.refl _ _).alloc (Nat.le_refl _) _
  have F6 : Hid (FAt ((W1.alloc (.cells (frA frZ) 27)).setRow W1.heap.size (frA X1)) w.heap.size f) := hide (((unhide F3).below hal (unhide F3).lt).rowOther X1 (Nat.ne_of_lt (unhide F3).lt))
  have F7 : Hid (FAt ((W1.alloc (.cells (frA frZ) 27)).setRow W1.heap.size (frA X1)) W1.heap.size X1) := hide ((unhide Z5).row X1)
  have HB8 : Hid (Below w.heap.size w ((W1.alloc (.cells (frA frZ) 27)).setRow W1.heap.size (frA X1))) := hide (below_setRow' ((unhide HB4).trans (hal.mono (unhide HB4).size)) (unhide HB4).size _)
  go_wp2_with (first | (refine wpList_store_row rfl 27 _ _ rfl W1.heap.size (frA X1) rfl rfl 27 (frA frZ) (unhide Z5) (sizeFr (unhide HX1)) (sizeEq frZ_ok (unhide HX1)) (frA_one _) ?_) | (refine wpList_load_row rfl 27 _ rfl w.heap.size rfl 27 (frA f) (0, 0) _ (unhide F6) Try.underlying27 rfl (sizeFr (unhide HF)) ?_))
  rw [frZ_eq]
  generalize ((W1.alloc (.cells (frA frZ) 27)).setRow W1.heap.size (frA X1)) = W9 at F6 F7 HB8 ⊢
  clear F3 Z5 HB4 hal
  generalize W1.heap.size = g_a at F7 o_f_a ⊢
  clear W1
  refine (refPush_any f t _ (unhide HF) ht).mono ?_
  rintro e W10 ⟨rfl, hB11⟩
  have F12 := hide ((unhide F6).below hB11 (unhide F6).lt)
  have F13 := hide ((unhide F7).below hB11 (unhide F7).lt)
  have HB14 := hide ((unhide HB8).trans (hB11.mono (unhide HB8).size))
  clear hB11 F6 F7 HB8 W9
  rw [unhide HP]
  have o_f_b : w.heap.size < W10.heap.size := (unhide F12).lt
  have o_a_b : g_a < W10.heap.size := (unhide F13).lt
  have Z15 : Hid (FAt (W10.alloc (.cells (frA frZ) 27)) W10.heap.size frZ) := hide (FAt.new W10 frZ)
  have hal : Below W10.heap.size W10 (W10.alloc (.cells (frA frZ) 27)) := (Below.refl _ _).alloc (Nat.le_refl _) _
  have F16 : Hid (FAt ((W10.alloc (.cells (frA frZ) 27)).setRow W10.heap.size (frA X1)) w.heap.size f) := hide (((unhide F12).below hal (unhide F12).lt).rowOther X1 (Nat.ne_of_lt (unhide F12).lt))
  have F17 : Hid (FAt ((W10.alloc (.cells (frA frZ) 27)).setRow W10.heap.size (frA X1)) g_a X1) := hide (((unhide F13).below hal (unhide F13).lt).rowOther X1 (Nat.ne_of_lt (unhide F13).lt))
  have F18 : Hid (FAt ((W10.alloc (.cells (frA frZ) 27)).setRow W10.heap.size (frA X1)) W10.heap.size X1) := hide ((unhide Z15).row X1)
  have HB19 : Hid (Below w.heap.size w ((W10.alloc (.cells (frA frZ) 27)).setRow W10.heap.size (frA X1))) := hide (below_setRow' ((unhide HB14).trans (hal.mono (unhide HB14).size)) (unhide HB14).size _)
  go_wp2_with (first | (refine wpList_store_row rfl 27 _ _ rfl W10.heap.size (frA X1) rfl rfl 27 (frA frZ) (unhide Z15) (sizeFr (unhide HX1)) (sizeEq frZ_ok (unhide HX1)) (frA_one _) ?_) | (refine wpList_load_row rfl 27 _ rfl g_a rfl 27 (frA X1) (0, 0) _ (unhide F17) Try.underlying27 rfl (sizeFr (unhide HX1)) ?_) | (refine wpList_load_row rfl 27 _ rfl W10.heap.size rfl 27 (frA X1) (0, 0) _ (unhide F18) Try.underlying27 rfl (sizeFr (unhide HX1)) ?_) | (refine wpList_load_row rfl 27 _ rfl w.heap.size rfl 27 (frA f) (0, 0) _ (unhide F16) Try.underlying27 rfl (sizeFr (unhide HF)) ?_))
  rw [frZ_eq]
  generalize ((W10.alloc (.cells (frA frZ) 27)).setRow W10.heap.size (frA X1)) = W20 at F16 F17 F18 HB19 ⊢
  clear F12 F13 Z15 HB14 hal
  generalize W10.heap.size = g_b at F18 o_f_b o_a_b ⊢
  clear W10
  refine (Pop_any f _ (unhide HF)).mono ?_
  rintro e W21 ⟨rfl, hB22⟩
  have F23 := hide ((unhide F16).below hB22 (unhide F16).lt)
  have F24 := hide ((unhide F17).below hB22 (unhide F17).lt)
  have F25 := hide ((unhide F18).below hB22 (unhide F18).lt)
  have HB26 := hide ((unhide HB19).trans (hB22.mono (unhide HB19).size))
  clear hB22 F16 F17 F18 HB19 W20
  have HP2 : Hid (frThree (popD f) = .tuple #[.agg (frA (popD f).1), .int .u8 ((popD f).2.1 : Int), .int .i64 (popD f).2.2]) := hide rfl
  generalize (popD f).2.2 = e2 at HP2
  generalize (popD f).2.1 = u2 at HP2
  generalize (popD f).1 = X2 at HP2 HX2 hq2
  rw [unhide HP2]
  have F27 : Hid (FAt (W21.setRow g_a (frA X2)) w.heap.size f) := hide ((unhide F23).rowOther X2 (by omega))
  have F28 : Hid (FAt (W21.setRow g_a (frA X2)) g_a X2) := hide ((unhide F24).row X2)
  have F29 : Hid (FAt (W21.setRow g_a (frA X2)) g_b X1) := hide ((unhide F25).rowOther X2 (by omega))
  have HB30 : Hid (Below w.heap.size w (W21.setRow g_a (frA X2))) := hide (below_setRow' (unhide HB26) (by omega) _)
  go_wp2_with (first | (refine wpList_store_row rfl 27 _ _ rfl g_a (frA X2) rfl rfl 27 (frA X1) (unhide F24) (sizeFr (unhide HX2)) (sizeEq (unhide HX1) (unhide HX2)) (frA_one _) ?_) | (refine wpList_load_row rfl 27 _ rfl w.heap.size rfl 27 (frA f) (0, 0) _ (unhide F27) Try.underlying27 rfl (sizeFr (unhide HF)) ?_))
  generalize (W21.setRow g_a (frA X2)) = W31 at F27 F28 F29 HB30 ⊢
  clear F23 F24 F25 HB26
  clear W21
  refine (refPop_any f _ (unhide HF)).mono ?_
  rintro e W32 ⟨rfl, hB33⟩
  have F34 := hide ((unhide F27).below hB33 (unhide F27).lt)
  have F35 := hide ((unhide F28).below hB33 (unhide F28).lt)
  have F36 := hide ((unhide F29).below hB33 (unhide F29).lt)
  have HB37 := hide ((unhide HB30).trans (hB33.mono (unhide HB30).size))
  clear hB33 F27 F28 F29 HB30 W31
  rw [unhide HP2]
  have F38 : Hid (FAt (W32.setRow g_b (frA X2)) w.heap.size f) := hide ((unhide F34).rowOther X2 (by omega))
  have F39 : Hid (FAt (W32.setRow g_b (frA X2)) g_a X2) := hide ((unhide F35).rowOther X2 (by omega))
  have F40 : Hid (FAt (W32.setRow g_b (frA X2)) g_b X2) := hide ((unhide F36).row X2)
  have HB41 : Hid (Below w.heap.size w (W32.setRow g_b (frA X2))) := hide (below_setRow' (unhide HB37) (by omega) _)
  go_wp2_with (first | (refine wpList_store_row rfl 27 _ _ rfl g_b (frA X2) rfl rfl 27 (frA X1) (unhide F36) (sizeFr (unhide HX2)) (sizeEq (unhide HX1) (unhide HX2)) (frA_one _) ?_) | (refine wpList_load_row rfl 27 _ rfl g_a rfl 27 (frA X2) (0, 0) _ (unhide F39) Try.underlying27 rfl (sizeFr (unhide HX2)) ?_) | (refine wpList_load_row rfl 27 _ rfl g_b rfl 27 (frA X2) (0, 0) _ (unhide F40) Try.underlying27 rfl (sizeFr (unhide HX2)) ?_) | (refine wpList_load_row rfl 27 _ rfl w.heap.size rfl 27 (frA f) (0, 0) _ (unhide F38) Try.underlying27 rfl (sizeFr (unhide HF)) ?_))
  generalize (W32.setRow g_b (frA X2)) = W42 at F38 F39 F40 HB41 ⊢
  clear F34 F35 F36 HB37
  clear W32
  refine (Top_any f n _ (unhide HF) hb).mono ?_
  rintro e W43 ⟨rfl, hB44⟩
  have F45 := hide ((unhide F38).below hB44 (unhide F38).lt)
  have F46 := hide ((unhide F39).below hB44 (unhide F39).lt)
  have F47 := hide ((unhide F40).below hB44 (unhide F40).lt)
  have HB48 := hide ((unhide HB41).trans (hB44.mono (unhide HB41).size))
  clear hB44 F38 F39 F40 HB41 W42
  obtain ⟨p50, HP49⟩ : ∃ p, Hid (topD f n = p) := ⟨_, hide rfl⟩
  rw [unhide HP49]
  unfold twoV
  simp only
  go_wp2_with (refine wpList_load_row rfl 27 _ rfl w.heap.size rfl 27 (frA f) (0, 0) _ (unhide F45) Try.underlying27 rfl (sizeFr (unhide HF)) ?_)
  refine (refTop_any f n _ (unhide HF) hb).mono ?_
  rintro e W51 ⟨rfl, hB52⟩
  have F53 := hide ((unhide F45).below hB52 (unhide F45).lt)
  have F54 := hide ((unhide F46).below hB52 (unhide F46).lt)
  have F55 := hide ((unhide F47).below hB52 (unhide F47).lt)
  have HB56 := hide ((unhide HB48).trans (hB52.mono (unhide HB48).size))
  clear hB52 F45 F46 F47 HB48 W43
  rw [unhide HP49]
  unfold twoV
  simp only
  go_wp2_with (refine wpList_load_row rfl 27 _ rfl w.heap.size rfl 27 (frA f) (0, 0) _ (unhide F53) Try.underlying27 rfl (sizeFr (unhide HF)) ?_)
  refine (Load_any f n _ (unhide HF) hb).mono ?_
  rintro e W57 ⟨rfl, hB58⟩
  have F59 := hide ((unhide F53).below hB58 (unhide F53).lt)
  have F60 := hide ((unhide F54).below hB58 (unhide F54).lt)
  have F61 := hide ((unhide F55).below hB58 (unhide F55).lt)
  have HB62 := hide ((unhide HB56).trans (hB58.mono (unhide HB56).size))
  clear hB58 F53 F54 F55 HB56 W51
  obtain ⟨p64, HP63⟩ : ∃ p, Hid (loadD f n = p) := ⟨_, hide rfl⟩
  rw [unhide HP63]
  unfold twoV
  simp only
  go_wp2_with (refine wpList_load_row rfl 27 _ rfl w.heap.size rfl 27 (frA f) (0, 0) _ (unhide F59) Try.underlying27 rfl (sizeFr (unhide HF)) ?_)
  refine (refLoad_any f n _ (unhide HF) hb).mono ?_
  rintro e W65 ⟨rfl, hB66⟩
  have F67 := hide ((unhide F59).below hB66 (unhide F59).lt)
  have F68 := hide ((unhide F60).below hB66 (unhide F60).lt)
  have F69 := hide ((unhide F61).below hB66 (unhide F61).lt)
  have HB70 := hide ((unhide HB62).trans (hB66.mono (unhide HB62).size))
  clear hB66 F59 F60 F61 HB62 W57
  rw [unhide HP63]
  unfold twoV
  simp only
  go_wp2_with (refine wpList_load_row rfl 27 _ rfl w.heap.size rfl 27 (frA f) (0, 0) _ (unhide F67) Try.underlying27 rfl (sizeFr (unhide HF)) ?_)
  refine (Store_any f n t _ (unhide HF) hb ht).mono ?_
  rintro e W71 ⟨rfl, hB72⟩
  have F73 := hide ((unhide F67).below hB72 (unhide F67).lt)
  have F74 := hide ((unhide F68).below hB72 (unhide F68).lt)
  have F75 := hide ((unhide F69).below hB72 (unhide F69).lt)
  have HB76 := hide ((unhide HB70).trans (hB72.mono (unhide HB70).size))
  clear hB72 F67 F68 F69 HB70 W65
  have HP3 : Hid (frTwo (storeD f n t) = .tuple #[.agg (frA (storeD f n t).1), .int .i64 (storeD f n t).2]) := hide rfl
  generalize (storeD f n t).2 = e3 at HP3
  generalize (storeD f n t).1 = X3 at HP3 HX3 hq3
  rw [unhide HP3]
  have F77 : Hid (FAt (W71.setRow g_a (frA X3)) w.heap.size f) := hide ((unhide F73).rowOther X3 (by omega))
  have F78 : Hid (FAt (W71.setRow g_a (frA X3)) g_a X3) := hide ((unhide F74).row X3)
  have F79 : Hid (FAt (W71.setRow g_a (frA X3)) g_b X2) := hide ((unhide F75).rowOther X3 (by omega))
  have HB80 : Hid (Below w.heap.size w (W71.setRow g_a (frA X3))) := hide (below_setRow' (unhide HB76) (by omega) _)
  go_wp2_with (first | (refine wpList_store_row rfl 27 _ _ rfl g_a (frA X3) rfl rfl 27 (frA X2) (unhide F74) (sizeFr (unhide HX3)) (sizeEq (unhide HX2) (unhide HX3)) (frA_one _) ?_) | (refine wpList_load_row rfl 27 _ rfl w.heap.size rfl 27 (frA f) (0, 0) _ (unhide F77) Try.underlying27 rfl (sizeFr (unhide HF)) ?_))
  generalize (W71.setRow g_a (frA X3)) = W81 at F77 F78 F79 HB80 ⊢
  clear F73 F74 F75 HB76
  clear W71
  refine (refStore_any f n t _ (unhide HF) hb ht).mono ?_
  rintro e W82 ⟨rfl, hB83⟩
  have F84 := hide ((unhide F77).below hB83 (unhide F77).lt)
  have F85 := hide ((unhide F78).below hB83 (unhide F78).lt)
  have F86 := hide ((unhide F79).below hB83 (unhide F79).lt)
  have HB87 := hide ((unhide HB80).trans (hB83.mono (unhide HB80).size))
  clear hB83 F77 F78 F79 HB80 W81
  rw [unhide HP3]
  have F88 : Hid (FAt (W82.setRow g_b (frA X3)) w.heap.size f) := hide ((unhide F84).rowOther X3 (by omega))
  have F89 : Hid (FAt (W82.setRow g_b (frA X3)) g_a X3) := hide ((unhide F85).rowOther X3 (by omega))
  have F90 : Hid (FAt (W82.setRow g_b (frA X3)) g_b X3) := hide ((unhide F86).row X3)
  have HB91 : Hid (Below w.heap.size w (W82.setRow g_b (frA X3))) := hide (below_setRow' (unhide HB87) (by omega) _)
  go_wp2_with (first | (refine wpList_store_row rfl 27 _ _ rfl g_b (frA X3) rfl rfl 27 (frA X2) (unhide F86) (sizeFr (unhide HX3)) (sizeEq (unhide HX2) (unhide HX3)) (frA_one _) ?_) | (refine wpList_load_row rfl 27 _ rfl g_a rfl 27 (frA X3) (0, 0) _ (unhide F89) Try.underlying27 rfl (sizeFr (unhide HX3)) ?_) | (refine wpList_load_row rfl 27 _ rfl g_b rfl 27 (frA X3) (0, 0) _ (unhide F90) Try.underlying27 rfl (sizeFr (unhide HX3)) ?_))
  go_ret
  exact ⟨by simp, unhide HB91⟩
end Go.Proofs.Ytihkodfcgfnjoaa
