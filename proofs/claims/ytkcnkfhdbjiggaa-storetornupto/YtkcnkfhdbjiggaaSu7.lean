/-
  Contracts of the document's Drop and Put over a state: the error with the state as it was, or the state with a record behind, and the writes. What is answered is new memory.
-/
import Derived.Test.YtkcnkfhdbjiggaaSu6
import Derived.Deep.RegionHeld
namespace Go.Proofs.Ytkcnkfhdbjiggaa
open Go.RowKit
set_option maxRecDepth 20000

theorem OwnB.someB {w : World} {B : Nat} {v : Value} {l : List UInt8} (h : OwnB w B v l) (hl : 0 < l.length) : ∃ rb rc, v = .slice (some ⟨rb, 0, none⟩) l.length rc := by
  rcases h.2 with ⟨_, h2⟩ | ⟨g, cap, cur, hv, _⟩
  · omega
  · exact ⟨g, cap, hv⟩
theorem WrAt.keepG {W W' : World} {base : Nat} {v : Value} {at_ : Nat} {A C : List UInt8} {g : Nat} (h : WrAt W base v at_ A C) (hk : Kept (fun q => q = g) W W') (hg : g < base) : WrAt W' base v at_ A C := by
  obtain ⟨wb, ha, hc, fa, fc, h1, h2, h3, h4, h5⟩ := h
  have n2 : ∀ {u : Value} {l : List UInt8}, OwnB W base u l → ∀ q, u.ownBlock = some q → ¬ q = g := fun ho q e e2 => by
    have := (World.ownsRow.lt ho q e).1
    omega
  exact ⟨wb, ha, hc, fa, fc, h1, h2, by unfold Bx; rw [hk.block wb h3.lt (fun (e : wb = g) => by omega)]; exact h3, h4.keep hk (n2 h4), h5.keep hk (n2 h5)⟩
def NewR (w' : World) (base : Nat) (L L' : List Rk) : Prop := ∀ x ∈ L', x ∈ L ∨ OwnB w' base (.slice x.ba x.bs.length x.bc) x.bs
theorem NewR.below {w w' : World} {base : Nat} {L L' : List Rk} (h : NewR w base L L') (hb : Below w.heap.size w w') : NewR w' base L L' := fun x hx => (h x hx).imp id (fun h => h.below hb)
theorem NewR.mono {w : World} {base base' : Nat} {L L' : List Rk} (h : NewR w base L L') (hb : base' ≤ base) : NewR w base' L L' := fun x hx => (h x hx).imp id (fun h => h.mono hb)
def RefPost (w : World) (xi lv : Value) (I : List UInt8) (L : List Rk) (code : Int) (R : List UInt8) (PL : List Rk → Prop) (e : Ending) (w' : World) : Prop := Below w.heap.size w w' ∧
  ((∃ c, code = c ∧ c ≠ 0 ∧ e = .returned (.tuple #[.agg #[xi, lv], .slice none 0 0, .int .i64 c])) ∨
   (code = 0 ∧ ∃ xi' lv' v L', e = .returned (.tuple #[.agg #[xi', lv'], v, .int .i64 0]) ∧ OwnB w' w.heap.size xi' (I ++ R) ∧ OwnR w' w.heap.size lv' L' ∧ NewR w' w.heap.size L L' ∧ PL L' ∧ WrAt w' w.heap.size v I.length (hidB R) [R.getD 0 0]))
theorem LaidPost.flat {w w' : World} {xa la l2 : Option Addr} {xc ln lc n2 c2 : Nat} {I R : List UInt8} {e : Ending} (h : LaidPost w (.slice xa I.length xc) (.slice la ln lc) (.slice l2 n2 c2) I R e w') :
    ∃ a1 n1 c1 a3 n3 c3 a5 n5 c5 k, e = .returned (.tuple #[.agg #[.slice a1 n1 c1, .slice a3 n3 c3], .slice a5 n5 c5, .int .i64 k]) ∧ LaidPost w (.slice xa I.length xc) (.slice la ln lc) (.slice l2 n2 c2) I R (.returned (.tuple #[.agg #[.slice a1 n1 c1, .slice a3 n3 c3], .slice a5 n5 c5, .int .i64 k])) w' := by
  have h' := h
  rcases h with ⟨_, ⟨_, he⟩ | ⟨_, xi', v, he, ho, hw⟩⟩
  · exact ⟨_, _, _, _, _, _, _, _, _, _, he, by rw [← he]; exact h'⟩
  · obtain ⟨ax, cx, rfl, _⟩ := ho.at
    obtain ⟨wb, ha, hc, fa, fc, rfl, _⟩ := hw
    exact ⟨_, _, _, _, _, _, _, _, _, _, he, by rw [← he]; exact h'⟩
/-- The end: the record is laid in W8, the answer's box b in new memory is set. -/
theorem ref_end {w W7 W8 : World} {xa la l2 : Option Addr} {xc ln lc n2 c2 n1 c1 n3 c3 n5 c5 : Nat} {a1 a3 a5 : Option Addr} {k : Int} {I R : List UInt8} {L L2 : List Rk} {code : Int} {PL : List Rk → Prop} {b : Nat}
    (h : LaidPost W7 (.slice xa I.length xc) (.slice la ln lc) (.slice l2 n2 c2) I R (.returned (.tuple #[.agg #[.slice a1 n1 c1, .slice a3 n3 c3], .slice a5 n5 c5, .int .i64 k])) W8)
    (hb7 : Below w.heap.size w W7) (hb : w.heap.size ≤ b) (hx : Bx W8 b 28 #[.slice none 0 0, .slice none 0 0]) (hb2 : b < W7.heap.size)
    (ho : OwnR W8 w.heap.size (.slice l2 n2 c2) L2) (hok : NewR W8 w.heap.size L L2) (hpl : PL L2)
    (hc1 : 1048576 < I.length + R.length + 1 → code = 7) (hc2 : ¬ 1048576 < I.length + R.length + 1 → code = 0) :
    RefPost w (.slice xa I.length xc) (.slice la ln lc) I L code R PL (.returned (.tuple #[.agg #[.slice a1 n1 c1, .slice a3 n3 c3], .slice a5 n5 c5, .int .i64 k])) (W8.setRow b #[.slice a1 n1 c1, .slice a3 n3 c3]) := by
  have hks := kept_row W8 b #[.slice a1 n1 c1, .slice a3 n3 c3]
  rcases h with ⟨hB, ⟨hf, he⟩ | ⟨hf, xi', v, he, hoI, hw⟩⟩
  · have hbb : Below w.heap.size w W8 := hb7.trans (hB.mono hb7.size)
    injection he with he
    refine ⟨below_rowS hbb hb _, Or.inl ⟨7, hc1 hf, by decide, ?_⟩⟩
    rw [he]
  · have hbb : Below w.heap.size w W8 := hb7.trans (hB.mono hb7.size)
    have hs7 := hb7.size
    injection he with he
    injection he with he
    have he' := congrArg Array.toList he
    simp only [List.cons.injEq] at he'
    obtain ⟨he1, he2, he3, -⟩ := he'
    injection he1 with he1
    have he1' := congrArg Array.toList he1
    simp only [List.cons.injEq] at he1'
    obtain ⟨e1, e2, -⟩ := he1'
    injection he3 with _ he3
    refine ⟨below_rowS hbb hb _, Or.inr ⟨hc2 (by omega), .slice a1 n1 c1, .slice a3 n3 c3, .slice a5 n5 c5, L2, by rw [he3], ?_, ?_, ?_, hpl, ?_⟩⟩
    · subst e1
      exact (hoI.keep hks (fun q e (e2 : q = b) => by have := (World.ownsRow.lt hoI q e).1; omega)).mono hs7
    · rw [← e2] at ho
      clear e1 e2 he he1 he2 he3
      refine ho.keep hks (fun q e e2 => ?_)
      subst e2
      rcases ho.2 with ⟨h1, _⟩ | ⟨g', cap, cur, hv, hbg, hh, r⟩
      · rw [h1] at e; cases e
      · rw [hv] at e
        injection e with e
        subst e
        exact ty_ne hh hx (by decide) rfl
    · exact fun x hx2 => (hok x hx2).imp id (fun ho => ho.keep hks (fun q e e2 => by
        subst e2
        rcases ho.2 with ⟨h1, _⟩ | ⟨g', cap, cur, hv, hbg, hh, r⟩
        · rw [h1] at e; cases e
        · rw [hv] at e
          injection e with e
          subst e
          exact ty_ne hh hx (by decide) rfl))
    · subst he2
      exact (hw.keepG hks hb2).mono' hs7
def dropR (I : List UInt8) (L : List Rk) (s : ByteArray) : Int :=
  if nameB s = false then 6 else if hasN (rNm L) s = false then 211 else if 1048576 < I.length + (recD s).length + 1 then 7 else 0
def putR (I : List UInt8) (L : List Rk) (s : ByteArray) (m : List UInt8) : Int :=
  if nameB s = false then 6 else if 4096 < m.length then 4 else if (hasN (rNm L) s || decide (L.length < 16)) = false then 7 else if 1048576 < I.length + (recK s m).length + 1 then 7 else 0
set_option maxRecDepth 20000 in
set_option maxHeartbeats 1500000 in
theorem refDrop_any {w : World} {B1 B2 : Nat} {xa la : Option Addr} {xc lc : Nat} {I : List UInt8} {L : List Rk} (s : ByteArray) (hx : OwnB w B1 (.slice xa I.length xc) I) (hI : I.length ≤ 1048576) (hl : OwnR w B2 (.slice la L.length lc) L) (hL : L.length ≤ 16) (hs : s.size ≤ maxLen) {PL : List Rk → Prop} (hpl : PL (cutN (posN (rNm L) s) (hasN (rNm L) s) L)) :
    Calls Try.prog 30 #[.agg #[.slice xa I.length xc, .slice la L.length lc], .string s] w (RefPost w (.slice xa I.length xc) (.slice la L.length lc) I L (dropR I L s) (recD s) PL) := by
  obtain ⟨W2, hW2⟩ : ∃ W2, W2 = (w.alloc (.cells #[.slice xa I.length xc, .slice la L.length lc] 28)).alloc (.cells #[.slice none 0 0, .slice none 0 0] 28) := ⟨_, rfl⟩
  have hbw : Below w.heap.size w W2 := by rw [hW2]; exact ((Below.refl _ _).alloc (Nat.le_refl _) _).alloc (by simp) _
  have HX3 : Hid (Bx W2 w.heap.size 28 #[.slice xa I.length xc, .slice la L.length lc]) := hide (by
    rw [hW2]
    exact Bx.below (heap_alloc_new w _) ((Below.refl _ _).alloc (Nat.le_refl _) _))
  have HX6 : Hid (Bx W2 (w.heap.size + 1) 28 #[.slice none 0 0, .slice none 0 0]) := hide (by
    rw [hW2]
    have := heap_alloc_new (w.alloc (.cells #[.slice xa I.length xc, .slice la L.length lc] 28)) (.cells #[.slice none 0 0, .slice none 0 0] 28)
    rw [World.size_alloc] at this
    exact this)
  have HSZ : Hid (W2.heap.size = w.heap.size + 2) := hide (by rw [hW2]; simp)
  have HW2 := hide hW2
  have HB2 := hide hbw
  have HXI := hide (hx.below hbw)
  have HLI := hide (hl.below hbw)
  have HPL := hide hpl
  clear hpl
  have HNm := hide (refName_any s W2 hs)
  have HPl := hide (place_any s (unhide HLI) (by omega))
  have mixed := mixedS
  clear hW2 hbw hx hl
  obtain ⟨code, hcode⟩ : ∃ code, code = dropR I L s := ⟨_, rfl⟩
  rw [← hcode]
  unfold dropR at hcode
  cases h1 : nameB s
  · rw [h1] at HNm
    rw [h1, if_pos rfl] at hcode
    have HCO := hide hcode
    clear hcode h1
    go_enter Try.func30, Try.ntmps30
    go_upto_region 1 with fail
    rw [← unhide HW2]
    clear HW2
    go_wp2_with fail
    refine (unhide HNm).mono ?_
    rintro e W ⟨rfl, hw⟩
    rw [hw]
    clear hw W
    have y0 := (unhide HX3).c 0 rfl
    have y1 := (unhide HX3).c 1 rfl
    have HX7 := hide (unhide HX6)
    have X2 : Hid (Bx (W2.setRow (w.heap.size + 1) #[.slice xa I.length xc, .slice la L.length lc]) (w.heap.size + 1) 28 #[.slice xa I.length xc, .slice la L.length lc]) := hide (setRow_heap _ _ _ _ _ _ (unhide HX7))
    have XB : Hid (Below w.heap.size w (W2.setRow (w.heap.size + 1) #[.slice xa I.length xc, .slice la L.length lc])) := hide (below_rowS (unhide HB2) (by omega) _)
    go_wp2_with (refine wpList_store_row rfl 28 _ _ rfl (w.heap.size + 1) #[.slice xa I.length xc, .slice la L.length lc] rfl rfl 28 #[.slice none 0 0, .slice none 0 0] (unhide HX7) (by kernel_rfl) rfl (by simp [Value.oneCell']) ?_)
    exact bodyPost_ret (v := .tuple #[.agg #[.slice xa I.length xc, .slice la L.length lc], .slice none 0 0, .int .i64 6]) (results_st3 rfl _ _ (w.heap.size + 1) _ _ _ _ rfl rfl rfl (unhide X2)) rfl ⟨unhide XB, Or.inl ⟨6, unhide HCO, by decide, rfl⟩⟩
  · have HN1 := hide h1
    rw [h1] at HNm
    rw [h1, if_neg (by decide)] at hcode
    clear h1
    cases h2 : hasN (rNm L) s
    · rw [h2] at HPl
      rw [h2, if_pos rfl] at hcode
      have HCO := hide hcode
      clear hcode h2
      have y0 := (unhide HX3).c 0 rfl
      have y1 := (unhide HX3).c 1 rfl
      go_enter Try.func30, Try.ntmps30
      go_upto_region 1 with fail
      rw [← unhide HW2]
      clear HW2
      go_wp2_with fail
      refine (unhide HNm).mono ?_
      rintro e W ⟨rfl, hw⟩
      rw [hw]
      clear hw W
      go_wp2_with fail
      refine (unhide HPl).mono ?_
      rintro e W3 ⟨rfl, hb3⟩
      have HB3 := hide hb3
      clear hb3 HPl
      clear y0 y1
      have y0 := ((unhide HX3).below (unhide HB3)).c 0 rfl
      have y1 := ((unhide HX3).below (unhide HB3)).c 1 rfl
      have HX7 := hide ((unhide HX6).below (unhide HB3))
      have X2 : Hid (Bx (W3.setRow (w.heap.size + 1) #[.slice xa I.length xc, .slice la L.length lc]) (w.heap.size + 1) 28 #[.slice xa I.length xc, .slice la L.length lc]) := hide (setRow_heap _ _ _ _ _ _ (unhide HX7))
      have XB : Hid (Below w.heap.size w (W3.setRow (w.heap.size + 1) #[.slice xa I.length xc, .slice la L.length lc])) := hide (below_rowS ((unhide HB2).trans ((unhide HB3).mono (unhide HB2).size)) (by omega) _)
      go_wp2_with (refine wpList_store_row rfl 28 _ _ rfl (w.heap.size + 1) #[.slice xa I.length xc, .slice la L.length lc] rfl rfl 28 #[.slice none 0 0, .slice none 0 0] (unhide HX7) (by kernel_rfl) rfl (by simp [Value.oneCell']) ?_)
      exact bodyPost_ret (v := .tuple #[.agg #[.slice xa I.length xc, .slice la L.length lc], .slice none 0 0, .int .i64 211]) (results_st3 rfl _ _ (w.heap.size + 1) _ _ _ _ rfl rfl rfl (unhide X2)) rfl ⟨unhide XB, Or.inl ⟨211, unhide HCO, by decide, rfl⟩⟩
    · have HN2 := hide h2
      rw [h2, if_neg (by decide)] at hcode
      rw [h2] at HPl
      have HCO := hide hcode
      clear hcode h2
      have y0 := (unhide HX3).c 0 rfl
      have y1 := (unhide HX3).c 1 rfl
      go_enter Try.func30, Try.ntmps30
      go_upto_region 1 with fail
      rw [← unhide HW2]
      clear HW2
      go_wp2_with fail
      refine (unhide HNm).mono ?_
      rintro e W ⟨rfl, hw⟩
      rw [hw]
      clear hw W
      go_wp2_with fail
      refine (unhide HPl).mono ?_
      rintro e W3 ⟨rfl, hb3⟩
      have HB3 := hide hb3
      clear hb3 HPl
      go_upto_region 6 with fail
      clear y0 y1
      have HSS : Hid (∀ W', Below W2.heap.size W2 W' → W'.cell? ⟨w.heap.size, 0, none⟩ = some (.slice xa I.length xc) ∧ W'.cell? ⟨w.heap.size, 1, none⟩ = some (.slice la L.length lc)) := hide (fun W' hb => ⟨((unhide HX3).below hb).c 0 rfl, ((unhide HX3).below hb).c 1 rfl⟩)
      have HD : Hid (Below W2.heap.size W2 W3.drew) := hide (unhide HB3).drew
      have HBd := hide ((unhide HB2).trans ((unhide HD).mono (unhide HB2).size))
      refine wp_region_held_drew (S := fun w' => w'.cell? ⟨w.heap.size, 0, none⟩ = some (.slice xa I.length xc) ∧ w'.cell? ⟨w.heap.size, 1, none⟩ = some (.slice la L.length lc)) mixed (unhide HSS _ (unhide HD)) (fun hS => ?_)
      generalize W3.drew = Wd at hS HD HBd ⊢
      refine wpAnyH_take (i := 0) (v := .agg #[.slice xa I.length xc, .slice la L.length lc]) rfl (by kernel_rfl) (by kernel_rfl) (by kernel_rfl) (fun _ _ _ h => h) (Or.inl ⟨by rfl, fun W h => by have h0 := h.1; have h1 := h.2; go_simp⟩) hS ?_
      go_simp
      refine wpAnyH_take (i := 1) (v := .pointer (some ⟨w.heap.size, 1, none⟩)) rfl (by kernel_rfl) (by kernel_rfl) (by kernel_rfl) (fun _ _ _ h => h) (Or.inl ⟨by rfl, fun w _ => by go_simp⟩) hS ?_
      go_simp
      refine wpAnyH_take (i := 2) (v := .slice la L.length lc) rfl (by kernel_rfl) (by kernel_rfl) (by kernel_rfl) (fun _ _ _ h => h) (Or.inl ⟨by rfl, fun W h => by have h1 := h.2; go_simp⟩) hS ?_
      go_simp
      refine wpAnyH_take (i := 3) (v := .string s) rfl (by kernel_rfl) (by kernel_rfl) (by kernel_rfl) (fun _ _ _ h => h) (Or.inl ⟨by rfl, fun w _ => by go_simp⟩) hS ?_
      go_simp
      refine wpAnyH_take (i := 5) (v := .string s) rfl (by kernel_rfl) (by kernel_rfl) (by kernel_rfl) (fun _ _ _ h => h) (Or.inl ⟨by rfl, fun w _ => by go_simp⟩) hS ?_
      go_simp
      have HC1 := hide (without_any s ((unhide HLI).below (unhide HD)) (by omega))
      refine wpAnyH_ready (rs := [4]) (by kernel_rfl) (by simp) ?_
      refine AllReadyH.cons rfl (fun K hK => ?_) AllReadyH.nil
      go_simp
      go_wp2_with (go_at_call 55; with_reducible refine (unhide HC1).mono ?_; rintro e W5 ⟨v5, rfl, hO5, hb5⟩)
      have HD5 := hide ((unhide HD).trans (hb5.mono (unhide HD).size))
      have HO5 := hide (own_moreR hO5 (unhide HBd).size)
      have HB5 := hide ((unhide HBd).trans (hb5.mono (unhide HBd).size))
      obtain ⟨L2, hL2⟩ : ∃ L2, L2 = cutN (posN (rNm L) s) (hasN (rNm L) s) L := ⟨_, rfl⟩
      rw [← hL2] at HO5 HPL
      have HK5 : Hid (NewR W5 w.heap.size L L2) := hide (fun x hx => Or.inl (cutN_mem (by rw [← hL2]; exact hx)))
      have HL2 := hide hL2
      obtain ⟨l2, c2, hv5, -⟩ := (unhide HO5).at
      subst hv5
      refine hK.out _ _ (unhide HSS _ (unhide HD5)) (fun hS5 => ?_)
      clear hK K hS hO5 hb5 HC1 hL2
      have HC2 := hide (record2_any s W5 (unhide HN1))
      refine wpAnyH_ready (rs := [6]) (by kernel_rfl) (by simp) ?_
      refine AllReadyH.cons rfl (fun K hK => ?_) AllReadyH.nil
      go_simp
      go_wp2_with (go_at_call 38; with_reducible refine (unhide HC2).mono ?_; rintro e W7 ⟨v7, rfl, hO7, hb7⟩)
      have HD7 := hide ((unhide HD5).trans (hb7.mono (unhide HD5).size))
      have HB7 := hide ((unhide HB5).trans (hb7.mono (unhide HB5).size))
      have HO7 := hide ((unhide HO5).below hb7)
      have HK7 := hide ((unhide HK5).below hb7)
      have hrl := recD_len s
      have hnl := name_24 (unhide HN1)
      obtain ⟨rb, rc, hv7⟩ := hO7.someB (by omega)
      obtain ⟨R, hR⟩ : ∃ R, R = recD s := ⟨_, rfl⟩
      rw [← hR] at hO7 hv7 hrl HCO
      subst hv7
      have HRR := hide hR
      have h2r : 2 ≤ R.length := by omega
      have hmr : R.length ≤ 5000 := by omega
      have HC3 := hide (laid_any (la := la) (ln := L.length) (lc := lc) (l2 := l2) (n2 := L2.length) (c2 := c2) ((unhide HXI).below (unhide HD7)) hI hO7 h2r hmr)
      refine hK.out _ _ (unhide HSS _ (unhide HD7)) (fun hS7 => ?_)
      clear hK K hS5 hO7 hb7 HC2 hrl hnl hR
      refine wpAnyH_ready (rs := [7]) (by kernel_rfl) (by simp) ?_
      refine AllReadyH.cons rfl (fun K hK => ?_) AllReadyH.nil
      go_simp
      go_wp2_with (go_at_call 48; with_reducible refine (unhide HC3).mono ?_; rintro e W8 h8; obtain ⟨a1, n1, c1, a3, n3, c3, a5, n5, c5, kk, rfl, h8'⟩ := h8.flat)
      have HL8 := hide h8'
      have HB78 := hide h8'.1
      have HD8 := hide ((unhide HD7).trans (h8'.1.mono (unhide HD7).size))
      have HX8 := hide ((unhide HX6).below (unhide HD8))
      have HFIN := hide (ref_end (R := R) (PL := PL) (b := w.heap.size + 1) (code := code) (unhide HL8) (unhide HB7) (Nat.le_succ _) (unhide HX8) (by have := (unhide HD7).size; have := unhide HSZ; omega) ((unhide HO7).below (unhide HB78)) ((unhide HK7).below (unhide HB78)) (unhide HPL) (fun h => by rw [unhide HCO, if_pos h]) (fun h => by rw [unhide HCO, if_neg h]))
      have X2 : Hid (Bx (W8.setRow (w.heap.size + 1) #[.slice a1 n1 c1, .slice a3 n3 c3]) (w.heap.size + 1) 28 #[.slice a1 n1 c1, .slice a3 n3 c3]) := hide (setRow_heap _ _ _ _ _ _ (unhide HX8))
      have HS9 : Hid ((W8.setRow (w.heap.size + 1) #[.slice a1 n1 c1, .slice a3 n3 c3]).cell? ⟨w.heap.size, 0, none⟩ = some (.slice xa I.length xc) ∧ (W8.setRow (w.heap.size + 1) #[.slice a1 n1 c1, .slice a3 n3 c3]).cell? ⟨w.heap.size, 1, none⟩ = some (.slice la L.length lc)) := hide (by
        have hb9 : Bx (W8.setRow (w.heap.size + 1) #[.slice a1 n1 c1, .slice a3 n3 c3]) w.heap.size 28 #[.slice xa I.length xc, .slice la L.length lc] := by
          have := (unhide HX3).below (unhide HD8)
          unfold Bx at this ⊢
          rw [(kept_row W8 (w.heap.size + 1) _).block w.heap.size (Bx.lt this) (fun (e : w.heap.size = w.heap.size + 1) => by omega)]
          exact this
        exact ⟨hb9.c 0 rfl, hb9.c 1 rfl⟩)
      refine hK.out _ _ (unhide HSS _ (unhide HD8)) (fun hS8 => ?_)
      clear hK K hS7 h8 h8' HC3
      refine wpAnyH_take (i := 8) (v := .agg #[.slice a1 n1 c1, .slice a3 n3 c3]) rfl (by kernel_rfl) (by kernel_rfl) (by kernel_rfl) (fun _ _ _ h => h) (Or.inl ⟨by rfl, fun w _ => by go_simp⟩) hS8 ?_
      go_simp
      refine wpAnyH_take (i := 9) (v := .slice a5 n5 c5) rfl (by kernel_rfl) (by kernel_rfl) (by kernel_rfl) (fun _ _ _ h => h) (Or.inl ⟨by rfl, fun w _ => by go_simp⟩) hS8 ?_
      go_simp
      refine wpAnyH_take (i := 10) (v := .int .i64 kk) rfl (by kernel_rfl) (by kernel_rfl) (by kernel_rfl) (fun _ _ _ h => h) (Or.inl ⟨by rfl, fun w _ => by go_simp⟩) hS8 ?_
      go_simp
      refine wpAnyH_ready (rs := [11]) (by kernel_rfl) (by simp) ?_
      refine AllReadyH.cons rfl (fun K hK => ?_) AllReadyH.nil
      rw [if_pos (by rfl)]
      refine wp_store_row 28 _ _ rfl (w.heap.size + 1) #[.slice a1 n1 c1, .slice a3 n3 c3] rfl rfl 28 #[.slice none 0 0, .slice none 0 0] (unhide HX8) (by kernel_rfl) rfl (by simp [Value.oneCell']) ?_
      refine hK.out _ _ (unhide HS9) (fun hS9 => ?_)
      clear hK K hS8
      refine wpAnyH_take (i := 12) (v := .slice a5 n5 c5) rfl (by kernel_rfl) (by kernel_rfl) (by kernel_rfl) (fun _ _ _ h => h) (Or.inl ⟨by rfl, fun w _ => by go_simp⟩) hS9 ?_
      go_simp
      refine wpAnyH_take (i := 13) (v := .int .i64 kk) rfl (by kernel_rfl) (by kernel_rfl) (by kernel_rfl) (fun _ _ _ h => h) (Or.inl ⟨by rfl, fun w _ => by go_simp⟩) hS9 ?_
      go_simp
      refine wpAnyH_done (by kernel_rfl) ?_ _
      go_wp2
      exact bodyPost_ret (v := .tuple #[.agg #[.slice a1 n1 c1, .slice a3 n3 c3], .slice a5 n5 c5, .int .i64 kk]) (results_st3 rfl _ _ (w.heap.size + 1) _ _ _ _ rfl rfl rfl (unhide X2)) rfl (by rw [← unhide HRR]; exact unhide HFIN)
end Go.Proofs.Ytkcnkfhdbjiggaa
