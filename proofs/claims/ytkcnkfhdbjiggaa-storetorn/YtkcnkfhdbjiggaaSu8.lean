/-
  The contract of the document's Put over a state.
-/
import Derived.Test.YtkcnkfhdbjiggaaSu7
namespace Go.Proofs.Ytkcnkfhdbjiggaa
open Go.RowKit
set_option maxRecDepth 20000

theorem wp_appendB {w : World} {o : Oper} {a : Act} {K : Act → World → Prop} {Q : Exit → Act → World → Prop} (s x : Operand)
    (ho : o.op = .call { callee := .builtin .append, args := #[s, x], argTypes := #[25, 25] })
    (base : Nat) (v : Value) (l : List UInt8) (hs : a.eval s = v) (hown : OwnB w base v l) (b : Value) (m : List UInt8) (hx : a.eval x = b) (hb : SrcB w b m) (hfit : l.length + m.length ≤ 140737488355328) (hbase : base ≤ w.heap.size)
    (h : ∀ v' w', OwnB w' base v' (l ++ m) → w.grownBy w' v.ownBlock → K (a.put o.dst v') w') : o.wp Try.prog a w K Q := by
  obtain ⟨i0, hi, hz0, hz1, hz2⟩ := info_parts info8
  rcases hb with ⟨rfl, rfl⟩ | ⟨y, c, rfl, hb⟩
  · have hrun := run_append_owned_none (P := Try.prog) (w := w) base 25 o.type 5 i0 1 Try.underlying25 hi v l.length (bvals l) hown
    unfold Oper.wp
    simp [execOp, ho, resolve, invoke, builtin, hs, hx, hrun, Result.andThen]
    exact h v w (by rw [List.append_nil]; exact hown) (World.grownBy.refl _ _)
  · refine wp_append_own w s x 25 ho base 5 i0 (.int .u8 0) 1 1 Try.underlying25 hi hz0 hz1 hz2 rfl (by decide) v l.length (bvals l) hs hown y m.length c (bvals m) hx (by rw [bvals_length]; omega) hb.cells (bvals_one m) (by unfold maxLen; omega) (by omega) hbase ?_
    intro v' w' h1 h2 _
    refine h v' w' ?_ h2
    unfold OwnB
    rw [bvals_append, List.length_append] at *
    exact h1
set_option maxRecDepth 20000 in
set_option maxHeartbeats 2000000 in
theorem refPut_any {w : World} {B1 B2 : Nat} {xa la : Option Addr} {xc lc : Nat} {I : List UInt8} {L : List Rk} (s : ByteArray) (ao : Option Addr) (c : Nat) (m : List UInt8) (hx : OwnB w B1 (.slice xa I.length xc) I) (hI : I.length ≤ 1048576) (hl : OwnR w B2 (.slice la L.length lc) L) (hL : L.length ≤ 16) (hs : s.size ≤ maxLen) (hb : BAt w ao m) (hn : ao = none → m = [] ∧ c = 0) {PL : List Rk → Prop} (hpl : ∀ ba bc, PL (putN (posN (rNm L) s) (hasN (rNm L) s) L ⟨s, ba, bc, m⟩)) :
    Calls Try.prog 23 #[.agg #[.slice xa I.length xc, .slice la L.length lc], .string s, .slice ao m.length c] w (RefPost w (.slice xa I.length xc) (.slice la L.length lc) I L (putR I L s m) (recK s m) PL) := by
  obtain ⟨W2, hW2⟩ : ∃ W2, W2 = (w.alloc (.cells #[.slice xa I.length xc, .slice la L.length lc] 28)).alloc (.cells #[.slice none 0 0, .slice none 0 0] 28) := ⟨_, rfl⟩
  have hbw : Below w.heap.size w W2 := by rw [hW2]; exact ((Below.refl _ _).alloc (Nat.le_refl _) _).alloc (by simp) _
  have HX3 : Hid (Bx W2 w.heap.size 28 #[.slice xa I.length xc, .slice la L.length lc]) := hide (by
    rw [hW2]
    exact Bx.below (heap_alloc_new w _) ((Below.refl _ _).alloc (Nat.le_refl _) _))
  have HX6 : Hid (Bx W2 (w.heap.size + 1) 28 #[.slice none 0 0, .slice none 0 0]) := hide (by
    rw [hW2]
    have := heap_alloc_new (w.alloc (.cells #[.slice xa I.length xc, .slice la L.length lc] 28)) (.cells #[.slice none 0 0, .slice none 0 0] 28)
    rw [World.size_alloc] at this
    exact this)
  have HSZ : Hid (W2.heap.size = w.heap.size + 2) := hide (by rw [hW2]; simp)
  have HW2 := hide hW2
  have HB2 := hide hbw
  have HXI := hide (hx.below hbw)
  have HLI := hide (hl.below hbw)
  have HPL := hide hpl
  have HBt := hide (hb.below' hbw)
  have HNN := hide hn
  clear hpl hb hn
  have HNm := hide (refName_any s W2 hs)
  have HPl := hide (place_any s (unhide HLI) (by omega))
  have mixed := mixedS
  clear hW2 hbw hx hl
  obtain ⟨code, hcode⟩ : ∃ code, code = putR I L s m := ⟨_, rfl⟩
  rw [← hcode]
  unfold putR at hcode
  cases h1 : nameB s
  · rw [h1] at HNm
    rw [h1, if_pos rfl] at hcode
    have HCO := hide hcode
    clear hcode h1
    go_enter Try.func23, Try.ntmps23
    go_upto_region 1 with fail
    rw [← unhide HW2]
    clear HW2
    go_wp2_with fail
    refine (unhide HNm).mono ?_
    rintro e W ⟨rfl, hw⟩
    rw [hw]
    clear hw W
    have y0 := (unhide HX3).c 0 rfl
    have y1 := (unhide HX3).c 1 rfl
    have HX7 := hide (unhide HX6)
    have X2 : Hid (Bx (W2.setRow (w.heap.size + 1) #[.slice xa I.length xc, .slice la L.length lc]) (w.heap.size + 1) 28 #[.slice xa I.length xc, .slice la L.length lc]) := hide (setRow_heap _ _ _ _ _ _ (unhide HX7))
    have XB : Hid (Below w.heap.size w (W2.setRow (w.heap.size + 1) #[.slice xa I.length xc, .slice la L.length lc])) := hide (below_rowS (unhide HB2) (by omega) _)
    go_wp2_with (refine wpList_store_row rfl 28 _ _ rfl (w.heap.size + 1) #[.slice xa I.length xc, .slice la L.length lc] rfl rfl 28 #[.slice none 0 0, .slice none 0 0] (unhide HX7) (by kernel_rfl) rfl (by simp [Value.oneCell']) ?_)
    exact bodyPost_ret (v := .tuple #[.agg #[.slice xa I.length xc, .slice la L.length lc], .slice none 0 0, .int .i64 6]) (results_st3 rfl _ _ (w.heap.size + 1) _ _ _ _ rfl rfl rfl (unhide X2)) rfl ⟨unhide XB, Or.inl ⟨6, unhide HCO, by decide, rfl⟩⟩
  · have HN1 := hide h1
    rw [h1] at HNm
    rw [h1, if_neg (by decide)] at hcode
    clear h1
    by_cases h4 : 4096 < m.length
    · rw [if_pos h4] at hcode
      have i4 : (4096 : Int) < ((m.length : Nat) : Int) := by omega
      have HCO := hide hcode
      clear hcode h4
      go_enter Try.func23, Try.ntmps23
      go_upto_region 1 with fail
      rw [← unhide HW2]
      clear HW2
      go_wp2_with fail
      refine (unhide HNm).mono ?_
      rintro e W ⟨rfl, hw⟩
      rw [hw]
      clear hw W
      have y0 := (unhide HX3).c 0 rfl
      have y1 := (unhide HX3).c 1 rfl
      have HX7 := hide (unhide HX6)
      have X2 : Hid (Bx (W2.setRow (w.heap.size + 1) #[.slice xa I.length xc, .slice la L.length lc]) (w.heap.size + 1) 28 #[.slice xa I.length xc, .slice la L.length lc]) := hide (setRow_heap _ _ _ _ _ _ (unhide HX7))
      have XB : Hid (Below w.heap.size w (W2.setRow (w.heap.size + 1) #[.slice xa I.length xc, .slice la L.length lc])) := hide (below_rowS (unhide HB2) (by omega) _)
      go_wp2_with (refine wpList_store_row rfl 28 _ _ rfl (w.heap.size + 1) #[.slice xa I.length xc, .slice la L.length lc] rfl rfl 28 #[.slice none 0 0, .slice none 0 0] (unhide HX7) (by kernel_rfl) rfl (by simp [Value.oneCell']) ?_)
      exact bodyPost_ret (v := .tuple #[.agg #[.slice xa I.length xc, .slice la L.length lc], .slice none 0 0, .int .i64 4]) (results_st3 rfl _ _ (w.heap.size + 1) _ _ _ _ rfl rfl rfl (unhide X2)) rfl ⟨unhide XB, Or.inl ⟨4, unhide HCO, by decide, rfl⟩⟩
    · rw [if_neg h4] at hcode
      have i4 : ¬ (4096 : Int) < ((m.length : Nat) : Int) := by omega
      have hm4 : m.length ≤ 4096 := by omega
      clear h4
      have y0 := (unhide HX3).c 0 rfl
      have y1 := (unhide HX3).c 1 rfl
      cases h2 : hasN (rNm L) s
      · have HN2 := hide h2
        rw [h2] at HPl hcode
        rw [Bool.false_or] at hcode
        by_cases h5 : L.length < 16
        · rw [decide_eq_true h5, if_neg (by decide)] at hcode
          have i5 : ¬ ((L.length : Nat) : Int) = 16 := by omega
          have HCO := hide hcode
          clear hcode h2 h5
          go_enter Try.func23, Try.ntmps23
          go_upto_region 1 with fail
          rw [← unhide HW2]
          clear HW2
          go_wp2_with fail
          refine (unhide HNm).mono ?_
          rintro e W ⟨rfl, hw⟩
          rw [hw]
          clear hw W
          go_wp2_with fail
          refine (unhide HPl).mono ?_
          rintro e W3 ⟨rfl, hb3⟩
          have HB3 := hide hb3
          clear hb3 HPl
          have y0 := ((unhide HX3).below (unhide HB3)).c 0 rfl
          have y1 := ((unhide HX3).below (unhide HB3)).c 1 rfl
          go_upto_region 8 with fail
          clear y0 y1
          have HSS : Hid (∀ W', Below W2.heap.size W2 W' → W'.cell? ⟨w.heap.size, 0, none⟩ = some (.slice xa I.length xc) ∧ W'.cell? ⟨w.heap.size, 1, none⟩ = some (.slice la L.length lc)) := hide (fun W' hb => ⟨((unhide HX3).below hb).c 0 rfl, ((unhide HX3).below hb).c 1 rfl⟩)
          have HD : Hid (Below W2.heap.size W2 W3.drew) := hide (unhide HB3).drew
          have HBd := hide ((unhide HB2).trans ((unhide HD).mono (unhide HB2).size))
          refine wp_region_held_drew (S := fun w' => w'.cell? ⟨w.heap.size, 0, none⟩ = some (.slice xa I.length xc) ∧ w'.cell? ⟨w.heap.size, 1, none⟩ = some (.slice la L.length lc)) mixed (unhide HSS _ (unhide HD)) (fun hS => ?_)
          generalize W3.drew = Wd at hS HD HBd ⊢
          refine wpAnyH_take (i := 0) (v := .agg #[.slice xa I.length xc, .slice la L.length lc]) rfl (by kernel_rfl) (by kernel_rfl) (by kernel_rfl) (fun _ _ _ h => h) (Or.inl ⟨by rfl, fun W h => by have h0 := h.1; have h1 := h.2; go_simp⟩) hS ?_
          go_simp
          refine wpAnyH_take (i := 1) (v := .pointer (some ⟨w.heap.size, 1, none⟩)) rfl (by kernel_rfl) (by kernel_rfl) (by kernel_rfl) (fun _ _ _ h => h) (Or.inl ⟨by rfl, fun w _ => by go_simp⟩) hS ?_
          go_simp
          refine wpAnyH_take (i := 2) (v := .slice la L.length lc) rfl (by kernel_rfl) (by kernel_rfl) (by kernel_rfl) (fun _ _ _ h => h) (Or.inl ⟨by rfl, fun W h => by have h1 := h.2; go_simp⟩) hS ?_
          go_simp
          refine wpAnyH_take (i := 3) (v := .string s) rfl (by kernel_rfl) (by kernel_rfl) (by kernel_rfl) (fun _ _ _ h => h) (Or.inl ⟨by rfl, fun w _ => by go_simp⟩) hS ?_
          go_simp
          refine wpAnyH_take (i := 5) (v := .slice ao m.length c) rfl (by kernel_rfl) (by kernel_rfl) (by kernel_rfl) (fun _ _ _ h => h) (Or.inl ⟨by rfl, fun w _ => by go_simp⟩) hS ?_
          go_simp
          refine wpAnyH_take (i := 8) (v := .string s) rfl (by kernel_rfl) (by kernel_rfl) (by kernel_rfl) (fun _ _ _ h => h) (Or.inl ⟨by rfl, fun w _ => by go_simp⟩) hS ?_
          go_simp
          refine wpAnyH_take (i := 9) (v := .slice ao m.length c) rfl (by kernel_rfl) (by kernel_rfl) (by kernel_rfl) (fun _ _ _ h => h) (Or.inl ⟨by rfl, fun w _ => by go_simp⟩) hS ?_
          go_simp
          have hal : Below Wd.heap.size Wd (Wd.alloc (.cells #[] 5)) := (Below.refl _ _).alloc (Nat.le_refl _) _
          have HM1 : Hid (OwnB (Wd.alloc (.cells #[] 5)) Wd.heap.size (.slice (some ⟨Wd.heap.size, 0, none⟩) 0 0) []) := hide (World.ownsRow_made Wd #[] 0 (Nat.le_refl _) (by decide) rfl)
          have HDa := hide ((unhide HD).trans (hal.mono (unhide HD).size))
          have HBa := hide ((unhide HBd).trans (hal.mono (unhide HBd).size))
          clear hal
          refine wpAnyH_ready (rs := [4]) (by kernel_rfl) (by simp) ?_
          refine AllReadyH.cons rfl (fun K hK => ?_) AllReadyH.nil
          go_simp
          refine hK.out _ _ (unhide HSS _ (unhide HDa)) (fun hSa => ?_)
          clear hK K hS
          have HSB : Hid (SrcB (Wd.alloc (.cells #[] 5)) (.slice ao m.length c) m) := hide (srcB_all ((unhide HBt).below' (unhide HDa)) (unhide HNN))
          refine wpAnyH_ready (rs := [6]) (by kernel_rfl) (by simp) ?_
          refine AllReadyH.cons rfl (fun K hK => ?_) AllReadyH.nil
          rw [if_pos (by rfl)]
          refine wp_appendB (.tmp 39) (.tmp 40) rfl Wd.heap.size (.slice (some ⟨Wd.heap.size, 0, none⟩) 0 0) [] rfl (unhide HM1) (.slice ao m.length c) m rfl (unhide HSB) (by simp; omega) (by simp) ?_
          intro v4 W4 hO4 hG4
          have hO4' : OwnB W4 Wd.heap.size v4 m := by simpa using hO4
          have HD4 : Hid (Below W2.heap.size W2 W4) := hide ((unhide HDa).grown hG4 (unhide HDa).size (fun q e => by have h1 := (World.ownsRow.lt (unhide HM1) q e).1; have h3 := (unhide HD).size; omega))
          have HB4 := hide ((unhide HB2).trans ((unhide HD4).mono (unhide HB2).size))
          obtain ⟨a4, c4, hv4, hBt4, hN4, -⟩ := hO4'.atN
          subst hv4
          have HBt4 := hide (hO4'.mono (unhide HBd).size)
          refine hK.out _ _ (unhide HSS _ (unhide HD4)) (fun hS4 => ?_)
          clear hK K hSa hO4 hO4' hG4 HM1 HSB hBt4 hN4 HDa HBa
          have HC1 := hide (with_any s a4 c4 m ((unhide HLI).below (unhide HD4)) (by omega))
          refine wpAnyH_ready (rs := [7]) (by kernel_rfl) (by simp) ?_
          refine AllReadyH.cons rfl (fun K hK => ?_) AllReadyH.nil
          go_simp
          go_wp2_with (go_at_call 49; with_reducible refine (unhide HC1).mono ?_; rintro e W5 ⟨v5, rfl, hO5, hb5⟩)
          have HD5 := hide ((unhide HD4).trans (hb5.mono (unhide HD4).size))
          have HO5 := hide (own_moreR hO5 (unhide HB4).size)
          have HB5 := hide ((unhide HB4).trans (hb5.mono (unhide HB4).size))
          have HP5 := hide (unhide HPL a4 c4)
          obtain ⟨L2, hL2⟩ : ∃ L2, L2 = putN (posN (rNm L) s) (hasN (rNm L) s) L ⟨s, a4, c4, m⟩ := ⟨_, rfl⟩
          rw [← hL2] at HO5 HP5
          have HK5 : Hid (NewR W5 w.heap.size L L2) := hide (fun x hx => by
            rw [hL2] at hx
            rcases putN_mem hx with rfl | hx
            · exact Or.inr ((unhide HBt4).below hb5)
            · exact Or.inl hx)
          obtain ⟨l2, c2, hv5, -⟩ := (unhide HO5).at
          subst hv5
          refine hK.out _ _ (unhide HSS _ (unhide HD5)) (fun hS5 => ?_)
          clear hK K hS4 hO5 hb5 HC1 hL2
          have HC2 := hide (record1_any s ao c m W5 (unhide HN1) ((unhide HBt).below' (unhide HD5)) (unhide HNN) hm4)
          refine wpAnyH_ready (rs := [10]) (by kernel_rfl) (by simp) ?_
          refine AllReadyH.cons rfl (fun K hK => ?_) AllReadyH.nil
          go_simp
          go_wp2_with (go_at_call 38; with_reducible refine (unhide HC2).mono ?_; rintro e W7 ⟨v7, rfl, hO7, hb7⟩)
          have HD7 := hide ((unhide HD5).trans (hb7.mono (unhide HD5).size))
          have HB7 := hide ((unhide HB5).trans (hb7.mono (unhide HB5).size))
          have HO7 := hide ((unhide HO5).below hb7)
          have HK7 := hide ((unhide HK5).below hb7)
          have hrl := recK_len s m
          have hnl := name_24 (unhide HN1)
          obtain ⟨rb, rc, hv7⟩ := hO7.someB (by omega)
          obtain ⟨R, hR⟩ : ∃ R, R = recK s m := ⟨_, rfl⟩
          rw [← hR] at hO7 hv7 hrl HCO
          subst hv7
          have HRR := hide hR
          have h2r : 2 ≤ R.length := by omega
          have hmr : R.length ≤ 5000 := by omega
          have HC3 := hide (laid_any (la := la) (ln := L.length) (lc := lc) (l2 := l2) (n2 := L2.length) (c2 := c2) ((unhide HXI).below (unhide HD7)) hI hO7 h2r hmr)
          refine hK.out _ _ (unhide HSS _ (unhide HD7)) (fun hS7 => ?_)
          clear hK K hS5 hO7 hb7 HC2 hrl hnl hR
          refine wpAnyH_ready (rs := [11]) (by kernel_rfl) (by simp) ?_
          refine AllReadyH.cons rfl (fun K hK => ?_) AllReadyH.nil
          go_simp
          go_wp2_with (go_at_call 48; with_reducible refine (unhide HC3).mono ?_; rintro e W8 h8; obtain ⟨a1, n1, c1, a3, n3, c3, a5, n5, c5, kk, rfl, h8'⟩ := h8.flat)
          have HL8 := hide h8'
          have HB78 := hide h8'.1
          have HD8 := hide ((unhide HD7).trans (h8'.1.mono (unhide HD7).size))
          have HX8 := hide ((unhide HX6).below (unhide HD8))
          have HFIN := hide (ref_end (R := R) (PL := PL) (b := w.heap.size + 1) (code := code) (unhide HL8) (unhide HB7) (Nat.le_succ _) (unhide HX8) (by have := (unhide HD7).size; have := unhide HSZ; omega) ((unhide HO7).below (unhide HB78)) ((unhide HK7).below (unhide HB78)) (unhide HP5) (fun h => by rw [unhide HCO, if_pos h]) (fun h => by rw [unhide HCO, if_neg h]))
          have X2 : Hid (Bx (W8.setRow (w.heap.size + 1) #[.slice a1 n1 c1, .slice a3 n3 c3]) (w.heap.size + 1) 28 #[.slice a1 n1 c1, .slice a3 n3 c3]) := hide (setRow_heap _ _ _ _ _ _ (unhide HX8))
          have HS9 : Hid ((W8.setRow (w.heap.size + 1) #[.slice a1 n1 c1, .slice a3 n3 c3]).cell? ⟨w.heap.size, 0, none⟩ = some (.slice xa I.length xc) ∧ (W8.setRow (w.heap.size + 1) #[.slice a1 n1 c1, .slice a3 n3 c3]).cell? ⟨w.heap.size, 1, none⟩ = some (.slice la L.length lc)) := hide (by
            have hb9 : Bx (W8.setRow (w.heap.size + 1) #[.slice a1 n1 c1, .slice a3 n3 c3]) w.heap.size 28 #[.slice xa I.length xc, .slice la L.length lc] := by
              have := (unhide HX3).below (unhide HD8)
              unfold Bx at this ⊢
              rw [(kept_row W8 (w.heap.size + 1) _).block w.heap.size (Bx.lt this) (fun (e : w.heap.size = w.heap.size + 1) => by omega)]
              exact this
            exact ⟨hb9.c 0 rfl, hb9.c 1 rfl⟩)
          refine hK.out _ _ (unhide HSS _ (unhide HD8)) (fun hS8 => ?_)
          clear hK K hS7 h8 h8' HC3
          refine wpAnyH_take (i := 12) (v := .agg #[.slice a1 n1 c1, .slice a3 n3 c3]) rfl (by kernel_rfl) (by kernel_rfl) (by kernel_rfl) (fun _ _ _ h => h) (Or.inl ⟨by rfl, fun w _ => by go_simp⟩) hS8 ?_
          go_simp
          refine wpAnyH_take (i := 13) (v := .slice a5 n5 c5) rfl (by kernel_rfl) (by kernel_rfl) (by kernel_rfl) (fun _ _ _ h => h) (Or.inl ⟨by rfl, fun w _ => by go_simp⟩) hS8 ?_
          go_simp
          refine wpAnyH_take (i := 14) (v := .int .i64 kk) rfl (by kernel_rfl) (by kernel_rfl) (by kernel_rfl) (fun _ _ _ h => h) (Or.inl ⟨by rfl, fun w _ => by go_simp⟩) hS8 ?_
          go_simp
          refine wpAnyH_ready (rs := [15]) (by kernel_rfl) (by simp) ?_
          refine AllReadyH.cons rfl (fun K hK => ?_) AllReadyH.nil
          rw [if_pos (by rfl)]
          refine wp_store_row 28 _ _ rfl (w.heap.size + 1) #[.slice a1 n1 c1, .slice a3 n3 c3] rfl rfl 28 #[.slice none 0 0, .slice none 0 0] (unhide HX8) (by kernel_rfl) rfl (by simp [Value.oneCell']) ?_
          refine hK.out _ _ (unhide HS9) (fun hS9 => ?_)
          clear hK K hS8
          refine wpAnyH_take (i := 16) (v := .slice a5 n5 c5) rfl (by kernel_rfl) (by kernel_rfl) (by kernel_rfl) (fun _ _ _ h => h) (Or.inl ⟨by rfl, fun w _ => by go_simp⟩) hS9 ?_
          go_simp
          refine wpAnyH_take (i := 17) (v := .int .i64 kk) rfl (by kernel_rfl) (by kernel_rfl) (by kernel_rfl) (fun _ _ _ h => h) (Or.inl ⟨by rfl, fun w _ => by go_simp⟩) hS9 ?_
          go_simp
          refine wpAnyH_done (by kernel_rfl) ?_ _
          go_wp2
          exact bodyPost_ret (v := .tuple #[.agg #[.slice a1 n1 c1, .slice a3 n3 c3], .slice a5 n5 c5, .int .i64 kk]) (results_st3 rfl _ _ (w.heap.size + 1) _ _ _ _ rfl rfl rfl (unhide X2)) rfl (by rw [← unhide HRR]; exact unhide HFIN)
        · rw [decide_eq_false h5, if_pos rfl] at hcode
          have i5 : ((L.length : Nat) : Int) = 16 := by omega
          have d5 : (((L.length : Nat) : Int) == 16) = true := by rw [i5]; rfl
          have HCO := hide hcode
          clear hcode h2 h5 i5
          go_enter Try.func23, Try.ntmps23
          go_upto_region 1 with fail
          rw [← unhide HW2]
          clear HW2
          go_wp2_with fail
          refine (unhide HNm).mono ?_
          rintro e W ⟨rfl, hw⟩
          rw [hw]
          clear hw W
          go_wp2_with fail
          refine (unhide HPl).mono ?_
          rintro e W3 ⟨rfl, hb3⟩
          have HB3 := hide hb3
          clear hb3 HPl
          clear y0 y1
          have y0 := ((unhide HX3).below (unhide HB3)).c 0 rfl
          have y1 := ((unhide HX3).below (unhide HB3)).c 1 rfl
          have HX7 := hide ((unhide HX6).below (unhide HB3))
          have X2 : Hid (Bx (W3.setRow (w.heap.size + 1) #[.slice xa I.length xc, .slice la L.length lc]) (w.heap.size + 1) 28 #[.slice xa I.length xc, .slice la L.length lc]) := hide (setRow_heap _ _ _ _ _ _ (unhide HX7))
          have XB : Hid (Below w.heap.size w (W3.setRow (w.heap.size + 1) #[.slice xa I.length xc, .slice la L.length lc])) := hide (below_rowS ((unhide HB2).trans ((unhide HB3).mono (unhide HB2).size)) (by omega) _)
          go_wp2_with (refine wpList_store_row rfl 28 _ _ rfl (w.heap.size + 1) #[.slice xa I.length xc, .slice la L.length lc] rfl rfl 28 #[.slice none 0 0, .slice none 0 0] (unhide HX7) (by kernel_rfl) rfl (by simp [Value.oneCell']) ?_)
          exact bodyPost_ret (v := .tuple #[.agg #[.slice xa I.length xc, .slice la L.length lc], .slice none 0 0, .int .i64 7]) (results_st3 rfl _ _ (w.heap.size + 1) _ _ _ _ rfl rfl rfl (unhide X2)) rfl ⟨unhide XB, Or.inl ⟨7, unhide HCO, by decide, rfl⟩⟩
      · have HN2 := hide h2
        rw [h2] at HPl hcode
        rw [Bool.true_or, if_neg (by decide)] at hcode
        have HCO := hide hcode
        clear hcode h2
        go_enter Try.func23, Try.ntmps23
        go_upto_region 1 with fail
        rw [← unhide HW2]
        clear HW2
        go_wp2_with fail
        refine (unhide HNm).mono ?_
        rintro e W ⟨rfl, hw⟩
        rw [hw]
        clear hw W
        go_wp2_with fail
        refine (unhide HPl).mono ?_
        rintro e W3 ⟨rfl, hb3⟩
        have HB3 := hide hb3
        clear hb3 HPl
        have y0 := ((unhide HX3).below (unhide HB3)).c 0 rfl
        have y1 := ((unhide HX3).below (unhide HB3)).c 1 rfl
        go_upto_region 8 with fail
        clear y0 y1
        have HSS : Hid (∀ W', Below W2.heap.size W2 W' → W'.cell? ⟨w.heap.size, 0, none⟩ = some (.slice xa I.length xc) ∧ W'.cell? ⟨w.heap.size, 1, none⟩ = some (.slice la L.length lc)) := hide (fun W' hb => ⟨((unhide HX3).below hb).c 0 rfl, ((unhide HX3).below hb).c 1 rfl⟩)
        have HD : Hid (Below W2.heap.size W2 W3.drew) := hide (unhide HB3).drew
        have HBd := hide ((unhide HB2).trans ((unhide HD).mono (unhide HB2).size))
        refine wp_region_held_drew (S := fun w' => w'.cell? ⟨w.heap.size, 0, none⟩ = some (.slice xa I.length xc) ∧ w'.cell? ⟨w.heap.size, 1, none⟩ = some (.slice la L.length lc)) mixed (unhide HSS _ (unhide HD)) (fun hS => ?_)
        generalize W3.drew = Wd at hS HD HBd ⊢
        refine wpAnyH_take (i := 0) (v := .agg #[.slice xa I.length xc, .slice la L.length lc]) rfl (by kernel_rfl) (by kernel_rfl) (by kernel_rfl) (fun _ _ _ h => h) (Or.inl ⟨by rfl, fun W h => by have h0 := h.1; have h1 := h.2; go_simp⟩) hS ?_
        go_simp
        refine wpAnyH_take (i := 1) (v := .pointer (some ⟨w.heap.size, 1, none⟩)) rfl (by kernel_rfl) (by kernel_rfl) (by kernel_rfl) (fun _ _ _ h => h) (Or.inl ⟨by rfl, fun w _ => by go_simp⟩) hS ?_
        go_simp
        refine wpAnyH_take (i := 2) (v := .slice la L.length lc) rfl (by kernel_rfl) (by kernel_rfl) (by kernel_rfl) (fun _ _ _ h => h) (Or.inl ⟨by rfl, fun W h => by have h1 := h.2; go_simp⟩) hS ?_
        go_simp
        refine wpAnyH_take (i := 3) (v := .string s) rfl (by kernel_rfl) (by kernel_rfl) (by kernel_rfl) (fun _ _ _ h => h) (Or.inl ⟨by rfl, fun w _ => by go_simp⟩) hS ?_
        go_simp
        refine wpAnyH_take (i := 5) (v := .slice ao m.length c) rfl (by kernel_rfl) (by kernel_rfl) (by kernel_rfl) (fun _ _ _ h => h) (Or.inl ⟨by rfl, fun w _ => by go_simp⟩) hS ?_
        go_simp
        refine wpAnyH_take (i := 8) (v := .string s) rfl (by kernel_rfl) (by kernel_rfl) (by kernel_rfl) (fun _ _ _ h => h) (Or.inl ⟨by rfl, fun w _ => by go_simp⟩) hS ?_
        go_simp
        refine wpAnyH_take (i := 9) (v := .slice ao m.length c) rfl (by kernel_rfl) (by kernel_rfl) (by kernel_rfl) (fun _ _ _ h => h) (Or.inl ⟨by rfl, fun w _ => by go_simp⟩) hS ?_
        go_simp
        have hal : Below Wd.heap.size Wd (Wd.alloc (.cells #[] 5)) := (Below.refl _ _).alloc (Nat.le_refl _) _
        have HM1 : Hid (OwnB (Wd.alloc (.cells #[] 5)) Wd.heap.size (.slice (some ⟨Wd.heap.size, 0, none⟩) 0 0) []) := hide (World.ownsRow_made Wd #[] 0 (Nat.le_refl _) (by decide) rfl)
        have HDa := hide ((unhide HD).trans (hal.mono (unhide HD).size))
        have HBa := hide ((unhide HBd).trans (hal.mono (unhide HBd).size))
        clear hal
        refine wpAnyH_ready (rs := [4]) (by kernel_rfl) (by simp) ?_
        refine AllReadyH.cons rfl (fun K hK => ?_) AllReadyH.nil
        go_simp
        refine hK.out _ _ (unhide HSS _ (unhide HDa)) (fun hSa => ?_)
        clear hK K hS
        have HSB : Hid (SrcB (Wd.alloc (.cells #[] 5)) (.slice ao m.length c) m) := hide (srcB_all ((unhide HBt).below' (unhide HDa)) (unhide HNN))
        refine wpAnyH_ready (rs := [6]) (by kernel_rfl) (by simp) ?_
        refine AllReadyH.cons rfl (fun K hK => ?_) AllReadyH.nil
        rw [if_pos (by rfl)]
        refine wp_appendB (.tmp 39) (.tmp 40) rfl Wd.heap.size (.slice (some ⟨Wd.heap.size, 0, none⟩) 0 0) [] rfl (unhide HM1) (.slice ao m.length c) m rfl (unhide HSB) (by simp; omega) (by simp) ?_
        intro v4 W4 hO4 hG4
        have hO4' : OwnB W4 Wd.heap.size v4 m := by simpa using hO4
        have HD4 : Hid (Below W2.heap.size W2 W4) := hide ((unhide HDa).grown hG4 (unhide HDa).size (fun q e => by have h1 := (World.ownsRow.lt (unhide HM1) q e).1; have h3 := (unhide HD).size; omega))
        have HB4 := hide ((unhide HB2).trans ((unhide HD4).mono (unhide HB2).size))
        obtain ⟨a4, c4, hv4, hBt4, hN4, -⟩ := hO4'.atN
        subst hv4
        have HBt4 := hide (hO4'.mono (unhide HBd).size)
        refine hK.out _ _ (unhide HSS _ (unhide HD4)) (fun hS4 => ?_)
        clear hK K hSa hO4 hO4' hG4 HM1 HSB hBt4 hN4 HDa HBa
        have HC1 := hide (with_any s a4 c4 m ((unhide HLI).below (unhide HD4)) (by omega))
        refine wpAnyH_ready (rs := [7]) (by kernel_rfl) (by simp) ?_
        refine AllReadyH.cons rfl (fun K hK => ?_) AllReadyH.nil
        go_simp
        go_wp2_with (go_at_call 49; with_reducible refine (unhide HC1).mono ?_; rintro e W5 ⟨v5, rfl, hO5, hb5⟩)
        have HD5 := hide ((unhide HD4).trans (hb5.mono (unhide HD4).size))
        have HO5 := hide (own_moreR hO5 (unhide HB4).size)
        have HB5 := hide ((unhide HB4).trans (hb5.mono (unhide HB4).size))
        have HP5 := hide (unhide HPL a4 c4)
        obtain ⟨L2, hL2⟩ : ∃ L2, L2 = putN (posN (rNm L) s) (hasN (rNm L) s) L ⟨s, a4, c4, m⟩ := ⟨_, rfl⟩
        rw [← hL2] at HO5 HP5
        have HK5 : Hid (NewR W5 w.heap.size L L2) := hide (fun x hx => by
          rw [hL2] at hx
          rcases putN_mem hx with rfl | hx
          · exact Or.inr ((unhide HBt4).below hb5)
          · exact Or.inl hx)
        obtain ⟨l2, c2, hv5, -⟩ := (unhide HO5).at
        subst hv5
        refine hK.out _ _ (unhide HSS _ (unhide HD5)) (fun hS5 => ?_)
        clear hK K hS4 hO5 hb5 HC1 hL2
        have HC2 := hide (record1_any s ao c m W5 (unhide HN1) ((unhide HBt).below' (unhide HD5)) (unhide HNN) hm4)
        refine wpAnyH_ready (rs := [10]) (by kernel_rfl) (by simp) ?_
        refine AllReadyH.cons rfl (fun K hK => ?_) AllReadyH.nil
        go_simp
        go_wp2_with (go_at_call 38; with_reducible refine (unhide HC2).mono ?_; rintro e W7 ⟨v7, rfl, hO7, hb7⟩)
        have HD7 := hide ((unhide HD5).trans (hb7.mono (unhide HD5).size))
        have HB7 := hide ((unhide HB5).trans (hb7.mono (unhide HB5).size))
        have HO7 := hide ((unhide HO5).below hb7)
        have HK7 := hide ((unhide HK5).below hb7)
        have hrl := recK_len s m
        have hnl := name_24 (unhide HN1)
        obtain ⟨rb, rc, hv7⟩ := hO7.someB (by omega)
        obtain ⟨R, hR⟩ : ∃ R, R = recK s m := ⟨_, rfl⟩
        rw [← hR] at hO7 hv7 hrl HCO
        subst hv7
        have HRR := hide hR
        have h2r : 2 ≤ R.length := by omega
        have hmr : R.length ≤ 5000 := by omega
        have HC3 := hide (laid_any (la := la) (ln := L.length) (lc := lc) (l2 := l2) (n2 := L2.length) (c2 := c2) ((unhide HXI).below (unhide HD7)) hI hO7 h2r hmr)
        refine hK.out _ _ (unhide HSS _ (unhide HD7)) (fun hS7 => ?_)
        clear hK K hS5 hO7 hb7 HC2 hrl hnl hR
        refine wpAnyH_ready (rs := [11]) (by kernel_rfl) (by simp) ?_
        refine AllReadyH.cons rfl (fun K hK => ?_) AllReadyH.nil
        go_simp
        go_wp2_with (go_at_call 48; with_reducible refine (unhide HC3).mono ?_; rintro e W8 h8; obtain ⟨a1, n1, c1, a3, n3, c3, a5, n5, c5, kk, rfl, h8'⟩ := h8.flat)
        have HL8 := hide h8'
        have HB78 := hide h8'.1
        have HD8 := hide ((unhide HD7).trans (h8'.1.mono (unhide HD7).size))
        have HX8 := hide ((unhide HX6).below (unhide HD8))
        have HFIN := hide (ref_end (R := R) (PL := PL) (b := w.heap.size + 1) (code := code) (unhide HL8) (unhide HB7) (Nat.le_succ _) (unhide HX8) (by have := (unhide HD7).size; have := unhide HSZ; omega) ((unhide HO7).below (unhide HB78)) ((unhide HK7).below (unhide HB78)) (unhide HP5) (fun h => by rw [unhide HCO, if_pos h]) (fun h => by rw [unhide HCO, if_neg h]))
        have X2 : Hid (Bx (W8.setRow (w.heap.size + 1) #[.slice a1 n1 c1, .slice a3 n3 c3]) (w.heap.size + 1) 28 #[.slice a1 n1 c1, .slice a3 n3 c3]) := hide (setRow_heap _ _ _ _ _ _ (unhide HX8))
        have HS9 : Hid ((W8.setRow (w.heap.size + 1) #[.slice a1 n1 c1, .slice a3 n3 c3]).cell? ⟨w.heap.size, 0, none⟩ = some (.slice xa I.length xc) ∧ (W8.setRow (w.heap.size + 1) #[.slice a1 n1 c1, .slice a3 n3 c3]).cell? ⟨w.heap.size, 1, none⟩ = some (.slice la L.length lc)) := hide (by
          have hb9 : Bx (W8.setRow (w.heap.size + 1) #[.slice a1 n1 c1, .slice a3 n3 c3]) w.heap.size 28 #[.slice xa I.length xc, .slice la L.length lc] := by
            have := (unhide HX3).below (unhide HD8)
            unfold Bx at this ⊢
            rw [(kept_row W8 (w.heap.size + 1) _).block w.heap.size (Bx.lt this) (fun (e : w.heap.size = w.heap.size + 1) => by omega)]
            exact this
          exact ⟨hb9.c 0 rfl, hb9.c 1 rfl⟩)
        refine hK.out _ _ (unhide HSS _ (unhide HD8)) (fun hS8 => ?_)
        clear hK K hS7 h8 h8' HC3
        refine wpAnyH_take (i := 12) (v := .agg #[.slice a1 n1 c1, .slice a3 n3 c3]) rfl (by kernel_rfl) (by kernel_rfl) (by kernel_rfl) (fun _ _ _ h => h) (Or.inl ⟨by rfl, fun w _ => by go_simp⟩) hS8 ?_
        go_simp
        refine wpAnyH_take (i := 13) (v := .slice a5 n5 c5) rfl (by kernel_rfl) (by kernel_rfl) (by kernel_rfl) (fun _ _ _ h => h) (Or.inl ⟨by rfl, fun w _ => by go_simp⟩) hS8 ?_
        go_simp
        refine wpAnyH_take (i := 14) (v := .int .i64 kk) rfl (by kernel_rfl) (by kernel_rfl) (by kernel_rfl) (fun _ _ _ h => h) (Or.inl ⟨by rfl, fun w _ => by go_simp⟩) hS8 ?_
        go_simp
        refine wpAnyH_ready (rs := [15]) (by kernel_rfl) (by simp) ?_
        refine AllReadyH.cons rfl (fun K hK => ?_) AllReadyH.nil
        rw [if_pos (by rfl)]
        refine wp_store_row 28 _ _ rfl (w.heap.size + 1) #[.slice a1 n1 c1, .slice a3 n3 c3] rfl rfl 28 #[.slice none 0 0, .slice none 0 0] (unhide HX8) (by kernel_rfl) rfl (by simp [Value.oneCell']) ?_
        refine hK.out _ _ (unhide HS9) (fun hS9 => ?_)
        clear hK K hS8
        refine wpAnyH_take (i := 16) (v := .slice a5 n5 c5) rfl (by kernel_rfl) (by kernel_rfl) (by kernel_rfl) (fun _ _ _ h => h) (Or.inl ⟨by rfl, fun w _ => by go_simp⟩) hS9 ?_
        go_simp
        refine wpAnyH_take (i := 17) (v := .int .i64 kk) rfl (by kernel_rfl) (by kernel_rfl) (by kernel_rfl) (fun _ _ _ h => h) (Or.inl ⟨by rfl, fun w _ => by go_simp⟩) hS9 ?_
        go_simp
        refine wpAnyH_done (by kernel_rfl) ?_ _
        go_wp2
        exact bodyPost_ret (v := .tuple #[.agg #[.slice a1 n1 c1, .slice a3 n3 c3], .slice a5 n5 c5, .int .i64 kk]) (results_st3 rfl _ _ (w.heap.size + 1) _ _ _ _ rfl rfl rfl (unhide X2)) rfl (by rw [← unhide HRR]; exact unhide HFIN)
end Go.Proofs.Ytkcnkfhdbjiggaa
