/-
  provisolaw21.do at a Drop: both answer the same.
-/
import Derived.Test.YtkcnkfhdbjiggaaSu10
namespace Go.Proofs.Ytkcnkfhdbjiggaa
open Go.RowKit
set_option maxRecDepth 20000

theorem Bx.keepSA {w w1 : World} {B g b : Nat} {iv kv : Value} {I : List UInt8} {K : List Ke} {t : TypeId} {cs : Array Value} (hb : Bx w b t cs) (h : IsSt w B g iv kv I K) (hk : Kept (SA g iv kv) w w1) (h1 : t ≠ 71) (h2 : t ≠ 5) (h3 : t ≠ 83) : Bx w1 b t cs := by
  unfold Bx at hb ⊢
  rw [hk.block b (Bx.lt hb) (fun hS => ?_)]
  · exact hb
  · rcases hS with hS | hS | hS
    · exact ty_ne hb h.row h1 hS
    · obtain ⟨cur2, hc⟩ := h.ity _ hS
      exact ty_ne hb hc h2 rfl
    · obtain ⟨cur2, hc⟩ := h.kty _ hS
      exact ty_ne hb hc h3 rfl
theorem OwnB.keepBx {w w1 : World} {B b : Nat} {v : Value} {l : List UInt8} {t : TypeId} {cs : Array Value} (ho : OwnB w B v l) (hb : Bx w b t cs) (hk : Kept (fun q => q = b) w w1) (h2 : 5 ≠ t) : OwnB w1 B v l :=
  ho.keep hk (fun q e (e2 : q = b) => by
    obtain ⟨cur, hh⟩ := own_tyB ho e
    exact ty_ne hh hb h2 e2)
theorem Tw.keepS {w w1 : World} {B g b : Nat} {iv kv xi lv : Value} {I : List UInt8} {K : List Ke} {L : List Rk} {cs : Array Value} (h : Tw w B g iv kv xi lv I K L) (hb : Bx w b 28 cs) (hk : Kept (fun q => q = b) w w1) : Tw w1 B g iv kv xi lv I K L := by
  refine ⟨h.st.keep hk (fun (e : g = b) => ty_ne h.st.row hb (by decide) e) (fun q e (e2 : q = b) => ?_) (fun q e (e2 : q = b) => ?_), h.xo.keepBx hb hk (by decide), h.lo.keep hk (fun q e (e2 : q = b) => ?_), fun x hx => (h.rk x hx).keepBx hb hk (by decide), h.sm, h.ok, h.en, h.big, h.s1, h.s2⟩
  · obtain ⟨cur, hh⟩ := h.st.ity _ e
    exact ty_ne hh hb (by decide) e2
  · obtain ⟨cur, hh⟩ := h.st.kty _ e
    exact ty_ne hh hb (by decide) e2
  · obtain ⟨cur, hh⟩ := own_tyR h.lo e
    exact ty_ne hh hb (by decide) e2
theorem WrAt.keepS {w w1 : World} {base b : Nat} {v : Value} {at_ : Nat} {A C : List UInt8} {cs : Array Value} (h : WrAt w base v at_ A C) (hb : Bx w b 28 cs) (hk : Kept (fun q => q = b) w w1) : WrAt w1 base v at_ A C := by
  obtain ⟨wb, ha, hc, fa, fc, h1, h2, h3, h4, h5⟩ := h
  exact ⟨wb, ha, hc, fa, fc, h1, h2, by unfold Bx; rw [hk.block wb h3.lt (fun (e : wb = b) => ty_ne h3 hb (by decide) e)]; exact h3, h4.keepBx hb hk (by decide), h5.keepBx hb hk (by decide)⟩
theorem below_SA {w w1 : World} {B g : Nat} {iv kv : Value} {I : List UInt8} {K : List Ke} (h : IsSt w B g iv kv I K) (hk : Kept (SA g iv kv) w w1) : Below B w w1 := by
  refine ⟨hk.os, hk.tape, hk.output, hk.size, fun k hkB => ?_⟩
  have hg := h.gl
  have hl := h.low
  exact hk.block k (by omega) (fun hS => by
    rcases hS with hS | hS | hS
    · omega
    · have := (World.ownsRow.lt h.img k hS).1
      omega
    · have := (World.ownsRow.lt h.kep k hS).1
      omega)
def DoPost (w : World) (B g : Nat) (iv kv : Value) (I : List UInt8) (K : List Ke) (code : Int) (R : List UInt8) (K2 : List Ke) (e : Ending) (w' : World) : Prop := Kept (SA g iv kv) w w' ∧
  ∃ xi' lv' v iv' kv' I' K' L', e = .returned (.tuple #[.agg #[xi', lv'], v, .bool true]) ∧ Tw w' B g iv' kv' xi' lv' I' K' L' ∧
    ((code ≠ 0 ∧ I' = I ∧ K' = K ∧ v = .slice none 0 0) ∨ (code = 0 ∧ I' = I ++ R ∧ K' = K2 ∧ WrAt w' 0 v I.length (hidB R) [R.getD 0 0]))
set_option maxRecDepth 20000 in
set_option maxHeartbeats 2000000 in
theorem doDrop_any {w : World} {B g : Nat} {iv kv xi lv : Value} {I : List UInt8} {K : List Ke} {L : List Rk} (s : ByteArray) (ao : Option Addr) (n c : Nat) (H : Tw w B g iv kv xi lv I K L) (hs : s.size ≤ maxLen) :
    Calls Try.prog 9 #[.pointer (some ⟨g, 0, none⟩), .agg #[xi, lv], .agg #[.int .i64 1, .string s, .slice ao n c]] w (DoPost w B g iv kv I K (dropE I K s) (recD s) (dropK K s)) := by
  obtain ⟨xa, xc, rfl, -⟩ := H.xo.at
  obtain ⟨la, lc, rfl, -⟩ := H.lo.at
  obtain ⟨W3, hW3⟩ : ∃ W3, W3 = ((w.alloc (.cells #[.slice xa I.length xc, .slice la L.length lc] 28)).alloc (.cells #[.int .i64 1, .string s, .slice ao n c] 31)).alloc (.cells #[.slice none 0 0, .slice none 0 0] 28) := ⟨_, rfl⟩
  have hbw : Below w.heap.size w W3 := by rw [hW3]; exact (((Below.refl _ _).alloc (Nat.le_refl _) _).alloc (by simp) _).alloc (by simp; omega) _
  have HX4 : Hid (Bx W3 w.heap.size 28 #[.slice xa I.length xc, .slice la L.length lc]) := hide (by
    rw [hW3]
    exact Bx.below (Bx.below (heap_alloc_new w _) ((Below.refl _ _).alloc (Nat.le_refl _) _)) ((Below.refl _ _).alloc (Nat.le_refl _) _))
  have HX5 : Hid (Bx W3 (w.heap.size + 1) 31 #[.int .i64 1, .string s, .slice ao n c]) := hide (by
    rw [hW3]
    have := heap_alloc_new (w.alloc (.cells #[.slice xa I.length xc, .slice la L.length lc] 28)) (.cells #[.int .i64 1, .string s, .slice ao n c] 31)
    rw [World.size_alloc] at this
    exact Bx.below this ((Below.refl _ _).alloc (Nat.le_refl _) _))
  have HX6 : Hid (Bx W3 (w.heap.size + 2) 28 #[.slice none 0 0, .slice none 0 0]) := hide (by
    rw [hW3]
    have := heap_alloc_new ((w.alloc (.cells #[.slice xa I.length xc, .slice la L.length lc] 28)).alloc (.cells #[.int .i64 1, .string s, .slice ao n c] 31)) (.cells #[.slice none 0 0, .slice none 0 0] 28)
    rw [World.size_alloc, World.size_alloc] at this
    exact this)
  have HW3 := hide hW3
  have HB3 : Hid (Kept (SA g iv kv) w W3) := hide (Kept.of_below hbw _)
  have HT := hide (H.below hbw)
  have HDr := hide (DropS_any s (unhide HT).st (unhide HT).big (unhide HT).ok hs)
  have HCD := hide ((unhide HT).codeD s)
  have mixed := mixedS
  have y1 := (unhide HX5).c 1 rfl
  have y2 := (unhide HX5).c 0 rfl
  obtain ⟨code, hcode⟩ : ∃ code, code = dropE I K s := ⟨_, rfl⟩
  rw [← hcode] at HCD HDr ⊢
  have HCO := hide hcode
  clear hW3 hbw H hcode
  go_enter Try.func9, Try.ntmps9
  go_upto_region 1 with fail
  rw [← unhide HW3]
  clear HW3
  go_wp2_with fail
  refine (unhide HDr).mono ?_
  rintro e W4 (⟨cc, hcc, rfl, hc0, -, hb4⟩ | ⟨hc0, v4, iv4, kv4, rfl, hst, hwr, hk, hF⟩)
  · have HT4 := hide ((unhide HT).below hb4)
    have HX4' := hide ((unhide HX4).below hb4)
    have HX5' := hide ((unhide HX5).below hb4)
    have HX6q := hide ((unhide HX6).below hb4)
    have HB4 := hide ((unhide HB3).trans (Kept.of_below hb4 (SA g iv kv)) (fun _ _ h => h) (fun _ _ h => h))
    have HRf := hide (refDrop_any s (unhide HT4).xo (unhide HT4).big (unhide HT4).lo (unhide HT4).lenL hs (PL := fun L' => L' = cutN (posN (rNm L) s) (hasN (rNm L) s) L) rfl)
    rw [unhide HCD] at HRf
    subst hcc
    have HC0 := hide hc0
    clear hb4 hc0
    have y3 := (unhide HX4').c 0 rfl
    have y4 := (unhide HX4').c 1 rfl
    have y1 := (unhide HX5').c 1 rfl
    clear HDr
    go_wp2_with fail
    refine (unhide HRf).mono ?_
    rintro e W5 ⟨hb5, ⟨cr, hcr, -, rfl⟩ | ⟨hcr, -⟩⟩
    · subst hcr
      have HT5 := hide ((unhide HT4).below hb5)
      have HX6' := hide ((unhide HX6q).below hb5)
      have HB5 := hide ((unhide HB4).trans (Kept.of_below hb5 (SA g iv kv)) (fun _ _ h => h) (fun _ _ h => h))
      clear hb5 HRf
      go_upto_region 15 with fail
      clear y1 y3 y4
      have HSW := hide (fun (W : World) (_ : Below W5.heap.size W5 W) => SameWrites_nil W)
      have hal : Below W5.heap.size W5 (W5.alloc (.cells #[.slice xa I.length xc, .slice la L.length lc] 28)) := (Below.refl _ _).alloc (Nat.le_refl _) _
      have HD : Hid (Below W5.heap.size W5 (W5.alloc (.cells #[.slice xa I.length xc, .slice la L.length lc] 28)).drew) := hide hal.drew
      have HY : Hid (Bx (W5.alloc (.cells #[.slice xa I.length xc, .slice la L.length lc] 28)).drew W5.heap.size 28 #[.slice xa I.length xc, .slice la L.length lc]) := hide (heap_alloc_new W5 _)
      clear hal
      refine wp_region_held_drew (S := fun w' => Bx w' W5.heap.size 28 #[.slice xa I.length xc, .slice la L.length lc]) mixed (unhide HY) (fun hS => ?_)
      generalize (W5.alloc (.cells #[.slice xa I.length xc, .slice la L.length lc] 28)).drew = Wd at hS HD HY ⊢
      refine wpAnyH_take (i := 0) (v := .agg #[.slice xa I.length xc, .slice la L.length lc]) rfl (by kernel_rfl) (by kernel_rfl) (by kernel_rfl) (fun _ _ _ h => h) (Or.inl ⟨by rfl, fun W h => by have h0 := h.c 0 rfl; have h1 := h.c 1 rfl; go_simp⟩) hS ?_
      go_simp
      refine wpAnyH_take (i := 1) (v := .slice none 0 0) rfl (by kernel_rfl) (by kernel_rfl) (by kernel_rfl) (fun _ _ _ h => h) (Or.inl ⟨by rfl, fun w _ => by go_simp⟩) hS ?_
      go_simp
      refine wpAnyH_take (i := 2) (v := .int .i64 code) rfl (by kernel_rfl) (by kernel_rfl) (by kernel_rfl) (fun _ _ _ h => h) (Or.inl ⟨by rfl, fun w _ => by go_simp⟩) hS ?_
      go_simp
      refine wpAnyH_take (i := 3) (v := .int .i64 code) rfl (by kernel_rfl) (by kernel_rfl) (by kernel_rfl) (fun _ _ _ h => h) (Or.inl ⟨by rfl, fun w _ => by go_simp⟩) hS ?_
      go_simp
      refine wpAnyH_take (i := 4) (v := .bool true) rfl (by kernel_rfl) (by kernel_rfl) (by kernel_rfl) (fun _ _ _ h => h) (Or.inl ⟨by rfl, fun w _ => by go_simp⟩) hS ?_
      go_simp
      refine wpAnyH_take (i := 5) (v := .bool true) rfl (by kernel_rfl) (by kernel_rfl) (by kernel_rfl) (fun _ _ _ h => h) (Or.inl ⟨by rfl, fun w _ => by go_simp⟩) hS ?_
      go_simp
      refine wpAnyH_take (i := 6) (v := .slice none 0 0) rfl (by kernel_rfl) (by kernel_rfl) (by kernel_rfl) (fun _ _ _ h => h) (Or.inl ⟨by rfl, fun w _ => by go_simp⟩) hS ?_
      go_simp
      refine wpAnyH_take (i := 7) (v := .slice none 0 0) rfl (by kernel_rfl) (by kernel_rfl) (by kernel_rfl) (fun _ _ _ h => h) (Or.inl ⟨by rfl, fun w _ => by go_simp⟩) hS ?_
      go_simp
      have HC := hide (unhide HSW Wd (unhide HD))
      refine wpAnyH_ready (rs := [8]) (by kernel_rfl) (by simp) ?_
      refine AllReadyH.cons rfl (fun KK hK => ?_) AllReadyH.nil
      go_simp
      go_wp2_with (go_at_call 24; with_reducible refine (unhide HC).mono ?_; rintro e W8 ⟨rfl, hb8⟩)
      have HD8 := hide ((unhide HD).trans (hb8.mono (unhide HD).size))
      have HY8 := hide ((unhide HY).below hb8)
      have HX8 := hide ((unhide HX6').below (unhide HD8))
      have hks := kept_row W8 (w.heap.size + 2) #[.slice xa I.length xc, .slice la L.length lc]
      have HFIN := hide ((show DoPost w B g iv kv I K code (recD s) (dropK K s) (.returned (.tuple #[.agg #[.slice xa I.length xc, .slice la L.length lc], .slice none 0 0, .bool true])) (W8.setRow (w.heap.size + 2) #[.slice xa I.length xc, .slice la L.length lc]) from ⟨(((unhide HB5).trans (Kept.of_below (unhide HD8) (SA g iv kv)) (fun _ _ h => h) (fun _ _ h => h))).trans hks (fun _ _ h => h) (fun k hk (e : k = w.heap.size + 2) => by omega), _, _, _, _, _, I, K, L, rfl, ((unhide HT5).below (unhide HD8)).keepS (unhide HX8) hks, Or.inl ⟨unhide HC0, rfl, rfl, rfl⟩⟩))
      have X2 : Hid (Bx (W8.setRow (w.heap.size + 2) #[.slice xa I.length xc, .slice la L.length lc]) (w.heap.size + 2) 28 #[.slice xa I.length xc, .slice la L.length lc]) := hide (setRow_heap _ _ _ _ _ _ (unhide HX8))
      have HY9 : Hid (Bx (W8.setRow (w.heap.size + 2) #[.slice xa I.length xc, .slice la L.length lc]) W5.heap.size 28 #[.slice xa I.length xc, .slice la L.length lc]) := hide (by
        have h9 := unhide HY8
        have hl6 := (unhide HX6').lt
        unfold Bx at h9 ⊢
        rw [hks.block W5.heap.size (Bx.lt h9) (fun (e : W5.heap.size = w.heap.size + 2) => by omega)]
        exact h9)
      refine hK.out _ _ (unhide HY8) (fun hS8 => ?_)
      clear hK KK hS hb8 hks
      refine wpAnyH_take (i := 9) (v := .bool true) rfl (by kernel_rfl) (by kernel_rfl) (by kernel_rfl) (fun _ _ _ h => h) (Or.inl ⟨by rfl, fun w _ => by go_simp⟩) hS8 ?_
      go_simp
      refine wpAnyH_ready (rs := [10]) (by kernel_rfl) (by simp) ?_
      refine AllReadyH.cons rfl (fun KK hK => ?_) AllReadyH.nil
      rw [if_pos (by rfl)]
      refine wp_store_row 28 _ _ rfl (w.heap.size + 2) #[.slice xa I.length xc, .slice la L.length lc] rfl rfl 28 #[.slice none 0 0, .slice none 0 0] (unhide HX8) (by kernel_rfl) rfl (by simp [Value.oneCell']) ?_
      refine hK.out _ _ (unhide HY9) (fun hS9 => ?_)
      clear hK KK hS8
      refine wpAnyH_take (i := 11) (v := .slice none 0 0) rfl (by kernel_rfl) (by kernel_rfl) (by kernel_rfl) (fun _ _ _ h => h) (Or.inl ⟨by rfl, fun w _ => by go_simp⟩) hS9 ?_
      go_simp
      refine wpAnyH_take (i := 12) (v := .bool true) rfl (by kernel_rfl) (by kernel_rfl) (by kernel_rfl) (fun _ _ _ h => h) (Or.inl ⟨by rfl, fun w _ => by go_simp⟩) hS9 ?_
      go_simp
      refine wpAnyH_done (by kernel_rfl) ?_ _
      go_wp2
      exact bodyPost_ret (v := .tuple #[.agg #[.slice xa I.length xc, .slice la L.length lc], .slice none 0 0, .bool true]) (results_st3 rfl _ _ (w.heap.size + 2) _ _ _ _ rfl rfl rfl (unhide X2)) rfl (unhide HFIN)
    · exact absurd hcr (unhide HC0)
  · have HX4' := hide ((unhide HX4).keepSA (unhide HT).st hk (by decide) (by decide) (by decide))
    have HX5' := hide ((unhide HX5).keepSA (unhide HT).st hk (by decide) (by decide) (by decide))
    have HX6q := hide ((unhide HX6).keepSA (unhide HT).st hk (by decide) (by decide) (by decide))
    have HB4 := hide ((unhide HB3).trans hk (fun _ _ h => h) (fun _ _ h => h))
    obtain ⟨hxo, hlo, hrk⟩ := (unhide HT).stands hk
    have HRf := hide (refDrop_any s hxo (unhide HT).big hlo (unhide HT).lenL hs (PL := fun L' => L' = cutN (posN (rNm L) s) (hasN (rNm L) s) L) rfl)
    rw [unhide HCD] at HRf
    have HC0 := hide hc0
    have HNX := hide (fun (W : World) (xi' lv' : Value) (L' : List Rk) (hb : Below W4.heap.size W4 W) hx hl hn hL => (unhide HT).drop (w2 := W) (xi' := xi') (lv' := lv') (L' := L') (base := W4.heap.size) hst hk hF hb (Nat.le_refl _) hx hl hn hL (by rw [← unhide HCO]; exact hc0))
    have HWR := hide (hwr.mono' (Nat.zero_le _))
    obtain ⟨wb4, -, -, -, -, rfl, -⟩ := hwr
    subst hc0
    clear hst hk hF hxo hlo hrk
    have y3 := (unhide HX4').c 0 rfl
    have y4 := (unhide HX4').c 1 rfl
    have y1 := (unhide HX5').c 1 rfl
    clear HDr
    go_wp2_with fail
    refine (unhide HRf).mono ?_
    rintro e W5 ⟨hb5, ⟨cr, hcr, hcr0, rfl⟩ | ⟨hcr, xi2, lv2, v5, L2, rfl, hx2, hl2, hn2, hL2, hw2⟩⟩
    · exact absurd hcr.symm hcr0
    · have HT5 := hide (unhide HNX W5 xi2 lv2 L2 hb5 hx2 hl2 hn2 hL2)
      have HX6' := hide ((unhide HX6q).below hb5)
      have HB5 := hide ((unhide HB4).trans (Kept.of_below hb5 (SA g iv kv)) (fun _ _ h => h) (fun _ _ h => h))
      have HW5 := hide ((unhide HWR).below hb5)
      have HW6 := hide (hw2.mono' (Nat.zero_le _))
      obtain ⟨wb5, -, -, -, -, rfl, -⟩ := hw2
      obtain ⟨I2, hI2⟩ : ∃ I2, I2 = I ++ recD s := ⟨_, rfl⟩
      rw [← hI2] at hx2 HT5
      have HI2 := hide hI2
      obtain ⟨xa2, xc2, rfl, -⟩ := hx2.at
      obtain ⟨la2, lc2, rfl, -⟩ := hl2.at
      clear hb5 HRf hx2 hl2 hn2 hL2 HNX hI2
      have hrl := recD_len s
      have hnl : s.size ≤ 24 := by
        have hz := unhide HCO
        unfold dropE at hz
        split at hz
        · cases hz
        · rename_i hz2
          exact (name_24 (by revert hz2; cases nameB s <;> simp)).2
      have HLN : Hid ((hidB (recD s)).length ≤ 10000 ∧ ([(recD s).getD 0 0] : List UInt8).length ≤ 10000) := hide ⟨by unfold hidB; simp; omega, by simp⟩
      clear hrl hnl
      go_upto_region 15 with fail
      clear y1 y3 y4
      have HSW := hide (fun (W : World) (hb : Below W5.heap.size W5 W) => SameWrites_two ((unhide HW5).below hb) ((unhide HW6).below hb) (unhide HLN).1 (unhide HLN).2)
      have hal : Below W5.heap.size W5 (W5.alloc (.cells #[.slice xa2 I2.length xc2, .slice la2 L2.length lc2] 28)) := (Below.refl _ _).alloc (Nat.le_refl _) _
      have HD : Hid (Below W5.heap.size W5 (W5.alloc (.cells #[.slice xa2 I2.length xc2, .slice la2 L2.length lc2] 28)).drew) := hide hal.drew
      have HY : Hid (Bx (W5.alloc (.cells #[.slice xa2 I2.length xc2, .slice la2 L2.length lc2] 28)).drew W5.heap.size 28 #[.slice xa2 I2.length xc2, .slice la2 L2.length lc2]) := hide (heap_alloc_new W5 _)
      clear hal
      refine wp_region_held_drew (S := fun w' => Bx w' W5.heap.size 28 #[.slice xa2 I2.length xc2, .slice la2 L2.length lc2]) mixed (unhide HY) (fun hS => ?_)
      generalize (W5.alloc (.cells #[.slice xa2 I2.length xc2, .slice la2 L2.length lc2] 28)).drew = Wd at hS HD HY ⊢
      refine wpAnyH_take (i := 0) (v := .agg #[.slice xa2 I2.length xc2, .slice la2 L2.length lc2]) rfl (by kernel_rfl) (by kernel_rfl) (by kernel_rfl) (fun _ _ _ h => h) (Or.inl ⟨by rfl, fun W h => by have h0 := h.c 0 rfl; have h1 := h.c 1 rfl; go_simp⟩) hS ?_
      go_simp
      refine wpAnyH_take (i := 1) (v := .slice (some ⟨wb5, 0, none⟩) 2 2) rfl (by kernel_rfl) (by kernel_rfl) (by kernel_rfl) (fun _ _ _ h => h) (Or.inl ⟨by rfl, fun w _ => by go_simp⟩) hS ?_
      go_simp
      refine wpAnyH_take (i := 2) (v := .int .i64 0) rfl (by kernel_rfl) (by kernel_rfl) (by kernel_rfl) (fun _ _ _ h => h) (Or.inl ⟨by rfl, fun w _ => by go_simp⟩) hS ?_
      go_simp
      refine wpAnyH_take (i := 3) (v := .int .i64 0) rfl (by kernel_rfl) (by kernel_rfl) (by kernel_rfl) (fun _ _ _ h => h) (Or.inl ⟨by rfl, fun w _ => by go_simp⟩) hS ?_
      go_simp
      refine wpAnyH_take (i := 4) (v := .bool true) rfl (by kernel_rfl) (by kernel_rfl) (by kernel_rfl) (fun _ _ _ h => h) (Or.inl ⟨by rfl, fun w _ => by go_simp⟩) hS ?_
      go_simp
      refine wpAnyH_take (i := 5) (v := .bool true) rfl (by kernel_rfl) (by kernel_rfl) (by kernel_rfl) (fun _ _ _ h => h) (Or.inl ⟨by rfl, fun w _ => by go_simp⟩) hS ?_
      go_simp
      refine wpAnyH_take (i := 6) (v := .slice (some ⟨wb4, 0, none⟩) 2 2) rfl (by kernel_rfl) (by kernel_rfl) (by kernel_rfl) (fun _ _ _ h => h) (Or.inl ⟨by rfl, fun w _ => by go_simp⟩) hS ?_
      go_simp
      refine wpAnyH_take (i := 7) (v := .slice (some ⟨wb5, 0, none⟩) 2 2) rfl (by kernel_rfl) (by kernel_rfl) (by kernel_rfl) (fun _ _ _ h => h) (Or.inl ⟨by rfl, fun w _ => by go_simp⟩) hS ?_
      go_simp
      have HC := hide (unhide HSW Wd (unhide HD))
      refine wpAnyH_ready (rs := [8]) (by kernel_rfl) (by simp) ?_
      refine AllReadyH.cons rfl (fun KK hK => ?_) AllReadyH.nil
      go_simp
      go_wp2_with (go_at_call 24; with_reducible refine (unhide HC).mono ?_; rintro e W8 ⟨rfl, hb8⟩)
      have HD8 := hide ((unhide HD).trans (hb8.mono (unhide HD).size))
      have HY8 := hide ((unhide HY).below hb8)
      have HX8 := hide ((unhide HX6').below (unhide HD8))
      have hks := kept_row W8 (w.heap.size + 2) #[.slice xa2 I2.length xc2, .slice la2 L2.length lc2]
      have HFIN := hide ((show DoPost w B g iv kv I K 0 (recD s) (dropK K s) (.returned (.tuple #[.agg #[.slice xa2 I2.length xc2, .slice la2 L2.length lc2], .slice (some ⟨wb5, 0, none⟩) 2 2, .bool true])) (W8.setRow (w.heap.size + 2) #[.slice xa2 I2.length xc2, .slice la2 L2.length lc2]) from ⟨(((unhide HB5).trans (Kept.of_below (unhide HD8) (SA g iv kv)) (fun _ _ h => h) (fun _ _ h => h))).trans hks (fun _ _ h => h) (fun k hk (e : k = w.heap.size + 2) => by omega), _, _, _, _, _, _, _, _, rfl, ((unhide HT5).below (unhide HD8)).keepS (unhide HX8) hks, Or.inr ⟨rfl, unhide HI2, rfl, ((unhide HW6).below (unhide HD8)).keepS (unhide HX8) hks⟩⟩))
      have X2 : Hid (Bx (W8.setRow (w.heap.size + 2) #[.slice xa2 I2.length xc2, .slice la2 L2.length lc2]) (w.heap.size + 2) 28 #[.slice xa2 I2.length xc2, .slice la2 L2.length lc2]) := hide (setRow_heap _ _ _ _ _ _ (unhide HX8))
      have HY9 : Hid (Bx (W8.setRow (w.heap.size + 2) #[.slice xa2 I2.length xc2, .slice la2 L2.length lc2]) W5.heap.size 28 #[.slice xa2 I2.length xc2, .slice la2 L2.length lc2]) := hide (by
        have h9 := unhide HY8
        have hl6 := (unhide HX6').lt
        unfold Bx at h9 ⊢
        rw [hks.block W5.heap.size (Bx.lt h9) (fun (e : W5.heap.size = w.heap.size + 2) => by omega)]
        exact h9)
      refine hK.out _ _ (unhide HY8) (fun hS8 => ?_)
      clear hK KK hS hb8 hks
      refine wpAnyH_take (i := 9) (v := .bool true) rfl (by kernel_rfl) (by kernel_rfl) (by kernel_rfl) (fun _ _ _ h => h) (Or.inl ⟨by rfl, fun w _ => by go_simp⟩) hS8 ?_
      go_simp
      refine wpAnyH_ready (rs := [10]) (by kernel_rfl) (by simp) ?_
      refine AllReadyH.cons rfl (fun KK hK => ?_) AllReadyH.nil
      rw [if_pos (by rfl)]
      refine wp_store_row 28 _ _ rfl (w.heap.size + 2) #[.slice xa2 I2.length xc2, .slice la2 L2.length lc2] rfl rfl 28 #[.slice none 0 0, .slice none 0 0] (unhide HX8) (by kernel_rfl) rfl (by simp [Value.oneCell']) ?_
      refine hK.out _ _ (unhide HY9) (fun hS9 => ?_)
      clear hK KK hS8
      refine wpAnyH_take (i := 11) (v := .slice (some ⟨wb5, 0, none⟩) 2 2) rfl (by kernel_rfl) (by kernel_rfl) (by kernel_rfl) (fun _ _ _ h => h) (Or.inl ⟨by rfl, fun w _ => by go_simp⟩) hS9 ?_
      go_simp
      refine wpAnyH_take (i := 12) (v := .bool true) rfl (by kernel_rfl) (by kernel_rfl) (by kernel_rfl) (fun _ _ _ h => h) (Or.inl ⟨by rfl, fun w _ => by go_simp⟩) hS9 ?_
      go_simp
      refine wpAnyH_done (by kernel_rfl) ?_ _
      go_wp2
      exact bodyPost_ret (v := .tuple #[.agg #[.slice xa2 I2.length xc2, .slice la2 L2.length lc2], .slice (some ⟨wb5, 0, none⟩) 2 2, .bool true]) (results_st3 rfl _ _ (w.heap.size + 2) _ _ _ _ rfl rfl rfl (unhide X2)) rfl (unhide HFIN)
end Go.Proofs.Ytkcnkfhdbjiggaa
