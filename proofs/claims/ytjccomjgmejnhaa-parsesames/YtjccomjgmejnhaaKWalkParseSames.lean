/-
  The walk of the law ParseSames: it returns true for every two programs, and writes nothing that was there.
-/
import Derived.Test.YtjccomjgmejnhaaKTr5
import Derived.Test.YtjccomjgmejnhaaKTr7
import Derived.Test.YtjccomjgmejnhaaKTr12
import Derived.Test.YtjccomjgmejnhaaKTr14
import Derived.Test.YtjccomjgmejnhaaKRdPg
import Derived.Deep.MidRow
namespace Go.Proofs.Ytjccomjgmejnhaa
open Go.RowKit

theorem box_rangeM {W : World} {g : Nat} {cs : Array Value} {t : TypeId} (h : W.heap[g]? = some (.cells cs t (0, 0))) : W.rangeAt g 0 cs.toList := fun j v hv => by
  have e := cell_of_row W g (0 + j) _ _ _ h
  rw [e, Nat.zero_add]
  simpa using hv
/-- The boxes of what is handed in. -/
structure LB (w W : World) (a b : Pg) : Prop where
  a : Bx W w.heap.size 25 #[.slice a.ra a.R.length a.rc, .slice a.ua a.U.length a.uc]
  b : Bx W (w.heap.size + 1) 25 #[.slice b.ra b.R.length b.rc, .slice b.ua b.U.length b.uc]
  bel : Below w.heap.size w W
theorem LB.below {w W W' : World} {a b : Pg} (h : LB w W a b) (hb : Below W.heap.size W W') : LB w W' a b := ⟨h.a.below hb, h.b.below hb, h.bel.trans (hb.mono h.bel.size)⟩
theorem LB.row {w W : World} {a b : Pg} {g : Nat} (h : LB w W a b) (hg : w.heap.size + 1 < g) (cs : Array Value) : LB w (W.setRow g cs) a b :=
  ⟨(setRow_other W g _ cs (by omega)).trans h.a, (setRow_other W g _ cs (by omega)).trans h.b, below_setRow' h.bel (by omega) cs⟩
/-- The copies, too. -/
structure LQ (n : Nat) (w W : World) (a b : Pg) (g1 : Nat) (X : Pg) (g2 : Nat) (Y : Pg) : Prop where
  lb : LB w W a b
  x : Bx W g1 25 #[.slice X.ra X.R.length X.rc, .slice X.ua X.U.length X.uc]
  y : Bx W g2 25 #[.slice Y.ra Y.R.length Y.rc, .slice Y.ua Y.U.length Y.uc]
  mx : PgOk n W X
  my : PgOk n W Y
  sx : sameG n a X
  sy : sameG n b Y
theorem LQ.below {n : Nat} {w W W' : World} {a b : Pg} {g1 g2 : Nat} {X Y : Pg} (h : LQ n w W a b g1 X g2 Y) (hb : Below W.heap.size W W') : LQ n w W' a b g1 X g2 Y := ⟨h.lb.below hb, h.x.below hb, h.y.below hb, h.mx.below hb, h.my.below hb, h.sx, h.sy⟩
theorem same_fin {n : Nat} {w W : World} {a b X Y : Pg} {g1 g2 : Nat} (h : LB w W a b) (z1 : Bx W g1 25 #[.slice none 0 0, .slice none 0 0]) (z2 : Bx W g2 25 #[.slice none 0 0, .slice none 0 0]) (mx : PgOk n W X) (my : PgOk n W Y) (sx : sameG n a X) (sy : sameG n b Y) (hne : g1 ≠ g2) (h1 : w.heap.size + 1 < g1) (h2 : w.heap.size + 1 < g2) (c1 : PgAll n (fun b => b ≠ g1) X) (c2 : PgAll n (fun b => b ≠ g1) Y) (c3 : PgAll n (fun b => b ≠ g2) X) (c4 : PgAll n (fun b => b ≠ g2) Y) : LQ n w ((W.setRow g1 #[.slice X.ra X.R.length X.rc, .slice X.ua X.U.length X.uc]).setRow g2 #[.slice Y.ra Y.R.length Y.rc, .slice Y.ua Y.U.length Y.uc]) a b g1 X g2 Y := by
  have b2 : Bx (W.setRow g1 #[.slice X.ra X.R.length X.rc, .slice X.ua X.U.length X.uc]) g2 25 #[.slice none 0 0, .slice none 0 0] := (setRow_other W g1 g2 _ (fun e => hne e.symm)).trans z2
  have b1 : Bx (W.setRow g1 #[.slice X.ra X.R.length X.rc, .slice X.ua X.U.length X.uc]) g1 25 #[.slice X.ra X.R.length X.rc, .slice X.ua X.U.length X.uc] := setRow_heap _ _ _ _ _ _ z1
  have w1 := grown_row (W := W) g1 #[.slice X.ra X.R.length X.rc, .slice X.ua X.U.length X.uc]
  have w2 := grown_row (W := W.setRow g1 #[.slice X.ra X.R.length X.rc, .slice X.ua X.U.length X.uc]) g2 #[.slice Y.ra Y.R.length Y.rc, .slice Y.ua Y.U.length Y.uc]
  exact ⟨(h.row h1 _).row h2 _, (setRow_other _ g2 g1 _ (fun e => hne e)).trans b1, setRow_heap _ _ _ _ _ _ b2, (mx.far w1 c1).far w2 c3, (my.far w1 c2).far w2 c4, sx, sy⟩

set_option maxRecDepth 20000 in
set_option maxHeartbeats 8000000 in
theorem walkParseSamesN {w : World} (n : Nat) (a : Pg) (ha : PgOk n w a) (b : Pg) (hb : PgOk n w b) :
    Calls Try.prog 3 #[.agg #[.slice a.ra a.R.length a.rc, .slice a.ua a.U.length a.uc], .agg #[.slice b.ra b.R.length b.rc, .slice b.ua b.U.length b.uc]] w fun e w' => e = .returned (.bool true) ∧ Below w.heap.size w w' := by
  have al1 := (Below.refl w.heap.size w).alloc (Nat.le_refl _) (.cells #[.slice a.ra a.R.length a.rc, .slice a.ua a.U.length a.uc] 25)
  have al := al1.alloc (by simp) (.cells #[.slice b.ra b.R.length b.rc, .slice b.ua b.U.length b.uc] 25)
  have n1 := heap_alloc_new w (.cells #[.slice a.ra a.R.length a.rc, .slice a.ua a.U.length a.uc] 25)
  have n2 := heap_alloc_new (w.alloc (.cells #[.slice a.ra a.R.length a.rc, .slice a.ua a.U.length a.uc] 25)) (.cells #[.slice b.ra b.R.length b.rc, .slice b.ua b.U.length b.uc] 25)
  rw [World.size_alloc] at n2
  have HX : Hid (LB w ((w.alloc (.cells #[.slice a.ra a.R.length a.rc, .slice a.ua a.U.length a.uc] 25)).alloc (.cells #[.slice b.ra b.R.length b.rc, .slice b.ua b.U.length b.uc] 25)) a b) := hide ⟨(((Below.refl _ _).alloc (Nat.le_refl _) _).block w.heap.size (by simp)).trans n1, n2, al⟩
  have HA := hide ha
  have HBB := hide hb
  clear al1 al n1 n2 ha hb
  go_enter Try.func3, Try.ntmps3
  go_upto_region 1 with fail
  generalize ((w.alloc (.cells #[.slice a.ra a.R.length a.rc, .slice a.ua a.U.length a.uc] 25)).alloc (.cells #[.slice b.ra b.R.length b.rc, .slice b.ua b.U.length b.uc] 25)) = W1 at HX ⊢
  go_cut [5, 6] (fun s11 s12 wx => ∃ g1 g2 X Y, s11 = .pointer (some ⟨g1, 0, none⟩) ∧ s12 = .pointer (some ⟨g2, 0, none⟩) ∧ Hid (LQ n w wx a b g1 X g2 Y))
  case first =>
    have HX301 := hide ((unhide HX).below (below_drew W1 1))
    refine wp_region_held_drew (S := fun w' => LB w w' a b) (by kernel_rfl) (unhide HX301) (fun hS303 => ?_)
    clear HX
    generalize hWd : W1.drewN 1 = W302 at HX301
    change W1.drew = W302 at hWd
    rw [hWd] at hS303 ⊢
    clear hWd
    refine wpAnyH_take (i := 0) (v := .agg #[.slice a.ra a.R.length a.rc, .slice a.ua a.U.length a.uc]) rfl (by kernel_rfl) (by kernel_rfl) (by kernel_rfl) (fun _ _ _ h => h) (yieldsIf_load_mid (by rfl) 25 _ rfl (w.heap.size) 0 rfl _ _ (fun _ h => box_rangeM (h.a)) Try.underlying25 rfl (by kernel_rfl)) hS303 ?_
    refine wpAnyH_take (i := 2) (v := .agg #[.slice b.ra b.R.length b.rc, .slice b.ua b.U.length b.uc]) rfl (by kernel_rfl) (by kernel_rfl) (by kernel_rfl) (fun _ _ _ h => h) (yieldsIf_load_mid (by rfl) 25 _ rfl (w.heap.size + 1) 0 rfl _ _ (fun _ h => box_rangeM (h.b)) Try.underlying25 rfl (by kernel_rfl)) hS303 ?_
    refine wpAnyH_ready (rs := [1, 4, 5]) (by kernel_rfl) (by simp) ?_
    refine (AllReadyH.cons rfl (fun K hK => ?_) (AllReadyH.cons rfl (fun K hK => ?_) (AllReadyH.cons rfl (fun K hK => ?_) AllReadyH.nil)))
    · go_simp
      go_wp2_with (go_at_call 4; refine (Program_any n a W302 ((unhide HA).below (unhide HX301).bel)).mono ?_; rintro e W304 ⟨X, rfl, hmk, hsm, hco, hB305⟩)
      have HX306 := hide ((unhide HX301).below hB305)
      have HM_X := hide hmk
      have HS_X := hide hsm
      clear hmk hsm hco
      refine hK.out _ _ (unhide HX306) (fun hS307 => ?_)
      clear hK K hS303 HX301 hB305
      refine wpAnyH_ready (rs := [3, 4, 5]) (by kernel_rfl) (by simp) ?_
      refine (AllReadyH.cons rfl (fun K hK => ?_) (AllReadyH.cons rfl (fun K hK => ?_) (AllReadyH.cons rfl (fun K hK => ?_) AllReadyH.nil)))
      · go_simp
        go_wp2_with (go_at_call 4; refine (Program_any n b W304 ((unhide HBB).below (unhide HX306).bel)).mono ?_; rintro e W308 ⟨Y, rfl, hmk, hsm, hco, hB309⟩)
        have HX310 := hide ((unhide HX306).below hB309)
        have HM311 := hide ((unhide HM_X).below hB309)
        have HM_Y := hide hmk
        have HS_Y := hide hsm
        clear hmk hsm hco
        refine hK.out _ _ (unhide HX310) (fun hS312 => ?_)
        clear hK K hS307 HX306 HM_X hB309
        refine wpAnyH_ready (rs := [4, 5]) (by kernel_rfl) (by simp) ?_
        refine (AllReadyH.cons rfl (fun K hK => ?_) (AllReadyH.cons rfl (fun K hK => ?_) AllReadyH.nil))
        · go_simp
          have hal : Below W308.heap.size W308 (W308.alloc (.cells #[.slice none 0 0, .slice none 0 0] 25)) := (Below.refl _ _).alloc (Nat.le_refl _) _
          have gt_g_1 : w.heap.size + 1 < W308.heap.size := (unhide HX310).b.lt
          have CN_g_1_X : Hid (PgAll n (fun b => b ≠ W308.heap.size) X) := hide ((unhide HM311).lt.mono (fun b hb => Nat.ne_of_lt hb))
          have CN_g_1_Y : Hid (PgAll n (fun b => b ≠ W308.heap.size) Y) := hide ((unhide HM_Y).lt.mono (fun b hb => Nat.ne_of_lt hb))
          have HX313 := hide ((unhide HX310).below hal)
          have HM314 := hide ((unhide HM311).below hal)
          have HM315 := hide ((unhide HM_Y).below hal)
          have HZ316 : Hid (Bx (W308.alloc (.cells #[.slice none 0 0, .slice none 0 0] 25)) W308.heap.size 25 #[.slice none 0 0, .slice none 0 0]) := hide (heap_alloc_new W308 _)
          refine hK.out _ _ (unhide HX313) (fun hS317 => ?_)
          clear hK K hS312 HX310 HM311 HM_Y hal
          generalize (W308.alloc (.cells #[.slice none 0 0, .slice none 0 0] 25)) = W318 at HX313 HM314 HM315 HZ316 hS317 ⊢
          generalize W308.heap.size = g_1 at HZ316 gt_g_1 CN_g_1_X CN_g_1_Y ⊢
          refine wpAnyH_ready (rs := [5]) (by kernel_rfl) (by simp) ?_
          refine AllReadyH.cons rfl (fun K hK => ?_) AllReadyH.nil
          go_simp
          have hal : Below W318.heap.size W318 (W318.alloc (.cells #[.slice none 0 0, .slice none 0 0] 25)) := (Below.refl _ _).alloc (Nat.le_refl _) _
          have gt_g_2 : w.heap.size + 1 < W318.heap.size := (unhide HX313).b.lt
          have CN_g_2_X : Hid (PgAll n (fun b => b ≠ W318.heap.size) X) := hide ((unhide HM314).lt.mono (fun b hb => Nat.ne_of_lt hb))
          have CN_g_2_Y : Hid (PgAll n (fun b => b ≠ W318.heap.size) Y) := hide ((unhide HM315).lt.mono (fun b hb => Nat.ne_of_lt hb))
          have ne_g_1_g_2 : g_1 < W318.heap.size := (unhide HZ316).lt
          have HX319 := hide ((unhide HX313).below hal)
          have HM320 := hide ((unhide HM314).below hal)
          have HM321 := hide ((unhide HM315).below hal)
          have HZ322 := hide ((unhide HZ316).below hal)
          have HZ323 : Hid (Bx (W318.alloc (.cells #[.slice none 0 0, .slice none 0 0] 25)) W318.heap.size 25 #[.slice none 0 0, .slice none 0 0]) := hide (heap_alloc_new W318 _)
          refine hK.out _ _ (unhide HX319) (fun hS324 => ?_)
          clear hK K hS317 HX313 HM314 HM315 HZ316 hal
          generalize (W318.alloc (.cells #[.slice none 0 0, .slice none 0 0] 25)) = W325 at HX319 HM320 HM321 HZ322 HZ323 hS324 ⊢
          generalize W318.heap.size = g_2 at HZ323 gt_g_2 CN_g_2_X CN_g_2_Y ne_g_1_g_2 ⊢
          have hne : g_1 ≠ g_2 := by omega
          have HFIN := hide (same_fin (unhide HX319) (unhide HZ322) (unhide HZ323) (unhide HM320) (unhide HM321) (unhide HS_X) (unhide HS_Y) hne gt_g_1 gt_g_2 (unhide CN_g_1_X) (unhide CN_g_1_Y) (unhide CN_g_2_X) (unhide CN_g_2_Y))
          refine wpAnyH_ready (rs := [6]) (by kernel_rfl) (by simp) ?_
          refine AllReadyH.cons rfl (fun K hK => ?_) AllReadyH.nil
          rw [if_pos (by rfl)]
          refine wp_store_row 25 _ _ rfl g_1 #[.slice X.ra X.R.length X.rc, .slice X.ua X.U.length X.uc] rfl rfl 25 #[.slice none 0 0, .slice none 0 0] (unhide HZ322) (by kernel_rfl) rfl (by simp [Value.oneCell']) ?_
          have HX7 := hide ((unhide HX319).row gt_g_1 #[.slice X.ra X.R.length X.rc, .slice X.ua X.U.length X.uc])
          have HZ7 : Hid (Bx (W325.setRow g_1 #[.slice X.ra X.R.length X.rc, .slice X.ua X.U.length X.uc]) g_2 25 #[.slice none 0 0, .slice none 0 0]) := hide ((setRow_other W325 g_1 g_2 _ (fun e => hne e.symm)).trans (unhide HZ323))
          refine hK.out _ _ (unhide HX7) (fun hS326 => ?_)
          clear hK K hS324  
          generalize W325.setRow g_1 #[.slice X.ra X.R.length X.rc, .slice X.ua X.U.length X.uc] = W8 at HX7 HZ7 HFIN hS326 ⊢
          refine wpAnyH_ready (rs := [7]) (by kernel_rfl) (by simp) ?_
          refine AllReadyH.cons rfl (fun K hK => ?_) AllReadyH.nil
          rw [if_pos (by rfl)]
          refine wp_store_row 25 _ _ rfl g_2 #[.slice Y.ra Y.R.length Y.rc, .slice Y.ua Y.U.length Y.uc] rfl rfl 25 #[.slice none 0 0, .slice none 0 0] (unhide HZ7) (by kernel_rfl) rfl (by simp [Value.oneCell']) ?_
          refine hK.out _ _ ((unhide HX7).row gt_g_2 #[.slice Y.ra Y.R.length Y.rc, .slice Y.ua Y.U.length Y.uc]) (fun hS9 => ?_)
          clear hK K
          refine wpAnyH_done (by kernel_rfl) ?_ _
          go_wp2_with fail
          go_meet
          exact ⟨g_1, g_2, X, Y, rfl, rfl, HFIN⟩
        · go_simp
          have hal : Below W308.heap.size W308 (W308.alloc (.cells #[.slice none 0 0, .slice none 0 0] 25)) := (Below.refl _ _).alloc (Nat.le_refl _) _
          have gt_g_2 : w.heap.size + 1 < W308.heap.size := (unhide HX310).b.lt
          have CN_g_2_X : Hid (PgAll n (fun b => b ≠ W308.heap.size) X) := hide ((unhide HM311).lt.mono (fun b hb => Nat.ne_of_lt hb))
          have CN_g_2_Y : Hid (PgAll n (fun b => b ≠ W308.heap.size) Y) := hide ((unhide HM_Y).lt.mono (fun b hb => Nat.ne_of_lt hb))
          have HX327 := hide ((unhide HX310).below hal)
          have HM328 := hide ((unhide HM311).below hal)
          have HM329 := hide ((unhide HM_Y).below hal)
          have HZ330 : Hid (Bx (W308.alloc (.cells #[.slice none 0 0, .slice none 0 0] 25)) W308.heap.size 25 #[.slice none 0 0, .slice none 0 0]) := hide (heap_alloc_new W308 _)
          refine hK.out _ _ (unhide HX327) (fun hS331 => ?_)
          clear hK K hS312 HX310 HM311 HM_Y hal
          generalize (W308.alloc (.cells #[.slice none 0 0, .slice none 0 0] 25)) = W332 at HX327 HM328 HM329 HZ330 hS331 ⊢
          generalize W308.heap.size = g_2 at HZ330 gt_g_2 CN_g_2_X CN_g_2_Y ⊢
          refine wpAnyH_ready (rs := [4]) (by kernel_rfl) (by simp) ?_
          refine AllReadyH.cons rfl (fun K hK => ?_) AllReadyH.nil
          go_simp
          have hal : Below W332.heap.size W332 (W332.alloc (.cells #[.slice none 0 0, .slice none 0 0] 25)) := (Below.refl _ _).alloc (Nat.le_refl _) _
          have gt_g_1 : w.heap.size + 1 < W332.heap.size := (unhide HX327).b.lt
          have CN_g_1_X : Hid (PgAll n (fun b => b ≠ W332.heap.size) X) := hide ((unhide HM328).lt.mono (fun b hb => Nat.ne_of_lt hb))
          have CN_g_1_Y : Hid (PgAll n (fun b => b ≠ W332.heap.size) Y) := hide ((unhide HM329).lt.mono (fun b hb => Nat.ne_of_lt hb))
          have ne_g_2_g_1 : g_2 < W332.heap.size := (unhide HZ330).lt
          have HX333 := hide ((unhide HX327).below hal)
          have HM334 := hide ((unhide HM328).below hal)
          have HM335 := hide ((unhide HM329).below hal)
          have HZ336 := hide ((unhide HZ330).below hal)
          have HZ337 : Hid (Bx (W332.alloc (.cells #[.slice none 0 0, .slice none 0 0] 25)) W332.heap.size 25 #[.slice none 0 0, .slice none 0 0]) := hide (heap_alloc_new W332 _)
          refine hK.out _ _ (unhide HX333) (fun hS338 => ?_)
          clear hK K hS331 HX327 HM328 HM329 HZ330 hal
          generalize (W332.alloc (.cells #[.slice none 0 0, .slice none 0 0] 25)) = W339 at HX333 HM334 HM335 HZ336 HZ337 hS338 ⊢
          generalize W332.heap.size = g_1 at HZ337 gt_g_1 CN_g_1_X CN_g_1_Y ne_g_2_g_1 ⊢
          have hne : g_1 ≠ g_2 := by omega
          have HFIN := hide (same_fin (unhide HX333) (unhide HZ337) (unhide HZ336) (unhide HM334) (unhide HM335) (unhide HS_X) (unhide HS_Y) hne gt_g_1 gt_g_2 (unhide CN_g_1_X) (unhide CN_g_1_Y) (unhide CN_g_2_X) (unhide CN_g_2_Y))
          refine wpAnyH_ready (rs := [6]) (by kernel_rfl) (by simp) ?_
          refine AllReadyH.cons rfl (fun K hK => ?_) AllReadyH.nil
          rw [if_pos (by rfl)]
          refine wp_store_row 25 _ _ rfl g_1 #[.slice X.ra X.R.length X.rc, .slice X.ua X.U.length X.uc] rfl rfl 25 #[.slice none 0 0, .slice none 0 0] (unhide HZ337) (by kernel_rfl) rfl (by simp [Value.oneCell']) ?_
          have HX7 := hide ((unhide HX333).row gt_g_1 #[.slice X.ra X.R.length X.rc, .slice X.ua X.U.length X.uc])
          have HZ7 : Hid (Bx (W339.setRow g_1 #[.slice X.ra X.R.length X.rc, .slice X.ua X.U.length X.uc]) g_2 25 #[.slice none 0 0, .slice none 0 0]) := hide ((setRow_other W339 g_1 g_2 _ (fun e => hne e.symm)).trans (unhide HZ336))
          refine hK.out _ _ (unhide HX7) (fun hS340 => ?_)
          clear hK K hS338  
          generalize W339.setRow g_1 #[.slice X.ra X.R.length X.rc, .slice X.ua X.U.length X.uc] = W8 at HX7 HZ7 HFIN hS340 ⊢
          refine wpAnyH_ready (rs := [7]) (by kernel_rfl) (by simp) ?_
          refine AllReadyH.cons rfl (fun K hK => ?_) AllReadyH.nil
          rw [if_pos (by rfl)]
          refine wp_store_row 25 _ _ rfl g_2 #[.slice Y.ra Y.R.length Y.rc, .slice Y.ua Y.U.length Y.uc] rfl rfl 25 #[.slice none 0 0, .slice none 0 0] (unhide HZ7) (by kernel_rfl) rfl (by simp [Value.oneCell']) ?_
          refine hK.out _ _ ((unhide HX7).row gt_g_2 #[.slice Y.ra Y.R.length Y.rc, .slice Y.ua Y.U.length Y.uc]) (fun hS9 => ?_)
          clear hK K
          refine wpAnyH_done (by kernel_rfl) ?_ _
          go_wp2_with fail
          go_meet
          exact ⟨g_1, g_2, X, Y, rfl, rfl, HFIN⟩
      · go_simp
        have hal : Below W304.heap.size W304 (W304.alloc (.cells #[.slice none 0 0, .slice none 0 0] 25)) := (Below.refl _ _).alloc (Nat.le_refl _) _
        have gt_g_1 : w.heap.size + 1 < W304.heap.size := (unhide HX306).b.lt
        have CN_g_1_X : Hid (PgAll n (fun b => b ≠ W304.heap.size) X) := hide ((unhide HM_X).lt.mono (fun b hb => Nat.ne_of_lt hb))
        have HX341 := hide ((unhide HX306).below hal)
        have HM342 := hide ((unhide HM_X).below hal)
        have HZ343 : Hid (Bx (W304.alloc (.cells #[.slice none 0 0, .slice none 0 0] 25)) W304.heap.size 25 #[.slice none 0 0, .slice none 0 0]) := hide (heap_alloc_new W304 _)
        refine hK.out _ _ (unhide HX341) (fun hS344 => ?_)
        clear hK K hS307 HX306 HM_X hal
        generalize (W304.alloc (.cells #[.slice none 0 0, .slice none 0 0] 25)) = W345 at HX341 HM342 HZ343 hS344 ⊢
        generalize W304.heap.size = g_1 at HZ343 gt_g_1 CN_g_1_X ⊢
        refine wpAnyH_ready (rs := [3, 5]) (by kernel_rfl) (by simp) ?_
        refine (AllReadyH.cons rfl (fun K hK => ?_) (AllReadyH.cons rfl (fun K hK => ?_) AllReadyH.nil))
        · go_simp
          go_wp2_with (go_at_call 4; refine (Program_any n b W345 ((unhide HBB).below (unhide HX341).bel)).mono ?_; rintro e W346 ⟨Y, rfl, hmk, hsm, hco, hB347⟩)
          have CN_g_1_Y : Hid (PgAll n (fun b => b ≠ g_1) Y) := hide (hco.mono (fun b hb => by have := (unhide HZ343).lt; omega))
          have HX348 := hide ((unhide HX341).below hB347)
          have HM349 := hide ((unhide HM342).below hB347)
          have HZ350 := hide ((unhide HZ343).below hB347)
          have HM_Y := hide hmk
          have HS_Y := hide hsm
          clear hmk hsm hco
          refine hK.out _ _ (unhide HX348) (fun hS351 => ?_)
          clear hK K hS344 HX341 HM342 HZ343 hB347
          refine wpAnyH_ready (rs := [5]) (by kernel_rfl) (by simp) ?_
          refine AllReadyH.cons rfl (fun K hK => ?_) AllReadyH.nil
          go_simp
          have hal : Below W346.heap.size W346 (W346.alloc (.cells #[.slice none 0 0, .slice none 0 0] 25)) := (Below.refl _ _).alloc (Nat.le_refl _) _
          have gt_g_2 : w.heap.size + 1 < W346.heap.size := (unhide HX348).b.lt
          have CN_g_2_X : Hid (PgAll n (fun b => b ≠ W346.heap.size) X) := hide ((unhide HM349).lt.mono (fun b hb => Nat.ne_of_lt hb))
          have CN_g_2_Y : Hid (PgAll n (fun b => b ≠ W346.heap.size) Y) := hide ((unhide HM_Y).lt.mono (fun b hb => Nat.ne_of_lt hb))
          have ne_g_1_g_2 : g_1 < W346.heap.size := (unhide HZ350).lt
          have HX352 := hide ((unhide HX348).below hal)
          have HM353 := hide ((unhide HM349).below hal)
          have HM354 := hide ((unhide HM_Y).below hal)
          have HZ355 := hide ((unhide HZ350).below hal)
          have HZ356 : Hid (Bx (W346.alloc (.cells #[.slice none 0 0, .slice none 0 0] 25)) W346.heap.size 25 #[.slice none 0 0, .slice none 0 0]) := hide (heap_alloc_new W346 _)
          refine hK.out _ _ (unhide HX352) (fun hS357 => ?_)
          clear hK K hS351 HX348 HM349 HM_Y HZ350 hal
          generalize (W346.alloc (.cells #[.slice none 0 0, .slice none 0 0] 25)) = W358 at HX352 HM353 HM354 HZ355 HZ356 hS357 ⊢
          generalize W346.heap.size = g_2 at HZ356 gt_g_2 CN_g_2_X CN_g_2_Y ne_g_1_g_2 ⊢
          have hne : g_1 ≠ g_2 := by omega
          have HFIN := hide (same_fin (unhide HX352) (unhide HZ355) (unhide HZ356) (unhide HM353) (unhide HM354) (unhide HS_X) (unhide HS_Y) hne gt_g_1 gt_g_2 (unhide CN_g_1_X) (unhide CN_g_1_Y) (unhide CN_g_2_X) (unhide CN_g_2_Y))
          refine wpAnyH_ready (rs := [6]) (by kernel_rfl) (by simp) ?_
          refine AllReadyH.cons rfl (fun K hK => ?_) AllReadyH.nil
          rw [if_pos (by rfl)]
          refine wp_store_row 25 _ _ rfl g_1 #[.slice X.ra X.R.length X.rc, .slice X.ua X.U.length X.uc] rfl rfl 25 #[.slice none 0 0, .slice none 0 0] (unhide HZ355) (by kernel_rfl) rfl (by simp [Value.oneCell']) ?_
          have HX7 := hide ((unhide HX352).row gt_g_1 #[.slice X.ra X.R.length X.rc, .slice X.ua X.U.length X.uc])
          have HZ7 : Hid (Bx (W358.setRow g_1 #[.slice X.ra X.R.length X.rc, .slice X.ua X.U.length X.uc]) g_2 25 #[.slice none 0 0, .slice none 0 0]) := hide ((setRow_other W358 g_1 g_2 _ (fun e => hne e.symm)).trans (unhide HZ356))
          refine hK.out _ _ (unhide HX7) (fun hS359 => ?_)
          clear hK K hS357  
          generalize W358.setRow g_1 #[.slice X.ra X.R.length X.rc, .slice X.ua X.U.length X.uc] = W8 at HX7 HZ7 HFIN hS359 ⊢
          refine wpAnyH_ready (rs := [7]) (by kernel_rfl) (by simp) ?_
          refine AllReadyH.cons rfl (fun K hK => ?_) AllReadyH.nil
          rw [if_pos (by rfl)]
          refine wp_store_row 25 _ _ rfl g_2 #[.slice Y.ra Y.R.length Y.rc, .slice Y.ua Y.U.length Y.uc] rfl rfl 25 #[.slice none 0 0, .slice none 0 0] (unhide HZ7) (by kernel_rfl) rfl (by simp [Value.oneCell']) ?_
          refine hK.out _ _ ((unhide HX7).row gt_g_2 #[.slice Y.ra Y.R.length Y.rc, .slice Y.ua Y.U.length Y.uc]) (fun hS9 => ?_)
          clear hK K
          refine wpAnyH_done (by kernel_rfl) ?_ _
          go_wp2_with fail
          go_meet
          exact ⟨g_1, g_2, X, Y, rfl, rfl, HFIN⟩
        · go_simp
          have hal : Below W345.heap.size W345 (W345.alloc (.cells #[.slice none 0 0, .slice none 0 0] 25)) := (Below.refl _ _).alloc (Nat.le_refl _) _
          have gt_g_2 : w.heap.size + 1 < W345.heap.size := (unhide HX341).b.lt
          have CN_g_2_X : Hid (PgAll n (fun b => b ≠ W345.heap.size) X) := hide ((unhide HM342).lt.mono (fun b hb => Nat.ne_of_lt hb))
          have ne_g_1_g_2 : g_1 < W345.heap.size := (unhide HZ343).lt
          have HX360 := hide ((unhide HX341).below hal)
          have HM361 := hide ((unhide HM342).below hal)
          have HZ362 := hide ((unhide HZ343).below hal)
          have HZ363 : Hid (Bx (W345.alloc (.cells #[.slice none 0 0, .slice none 0 0] 25)) W345.heap.size 25 #[.slice none 0 0, .slice none 0 0]) := hide (heap_alloc_new W345 _)
          refine hK.out _ _ (unhide HX360) (fun hS364 => ?_)
          clear hK K hS344 HX341 HM342 HZ343 hal
          generalize (W345.alloc (.cells #[.slice none 0 0, .slice none 0 0] 25)) = W365 at HX360 HM361 HZ362 HZ363 hS364 ⊢
          generalize W345.heap.size = g_2 at HZ363 gt_g_2 CN_g_2_X ne_g_1_g_2 ⊢
          refine wpAnyH_ready (rs := [3]) (by kernel_rfl) (by simp) ?_
          refine AllReadyH.cons rfl (fun K hK => ?_) AllReadyH.nil
          go_simp
          go_wp2_with (go_at_call 4; refine (Program_any n b W365 ((unhide HBB).below (unhide HX360).bel)).mono ?_; rintro e W366 ⟨Y, rfl, hmk, hsm, hco, hB367⟩)
          have CN_g_1_Y : Hid (PgAll n (fun b => b ≠ g_1) Y) := hide (hco.mono (fun b hb => by have := (unhide HZ362).lt; omega))
          have CN_g_2_Y : Hid (PgAll n (fun b => b ≠ g_2) Y) := hide (hco.mono (fun b hb => by have := (unhide HZ363).lt; omega))
          have HX368 := hide ((unhide HX360).below hB367)
          have HM369 := hide ((unhide HM361).below hB367)
          have HZ370 := hide ((unhide HZ362).below hB367)
          have HZ371 := hide ((unhide HZ363).below hB367)
          have HM_Y := hide hmk
          have HS_Y := hide hsm
          clear hmk hsm hco
          refine hK.out _ _ (unhide HX368) (fun hS372 => ?_)
          clear hK K hS364 HX360 HM361 HZ362 HZ363 hB367
          have hne : g_1 ≠ g_2 := by omega
          have HFIN := hide (same_fin (unhide HX368) (unhide HZ370) (unhide HZ371) (unhide HM369) (unhide HM_Y) (unhide HS_X) (unhide HS_Y) hne gt_g_1 gt_g_2 (unhide CN_g_1_X) (unhide CN_g_1_Y) (unhide CN_g_2_X) (unhide CN_g_2_Y))
          refine wpAnyH_ready (rs := [6]) (by kernel_rfl) (by simp) ?_
          refine AllReadyH.cons rfl (fun K hK => ?_) AllReadyH.nil
          rw [if_pos (by rfl)]
          refine wp_store_row 25 _ _ rfl g_1 #[.slice X.ra X.R.length X.rc, .slice X.ua X.U.length X.uc] rfl rfl 25 #[.slice none 0 0, .slice none 0 0] (unhide HZ370) (by kernel_rfl) rfl (by simp [Value.oneCell']) ?_
          have HX7 := hide ((unhide HX368).row gt_g_1 #[.slice X.ra X.R.length X.rc, .slice X.ua X.U.length X.uc])
          have HZ7 : Hid (Bx (W366.setRow g_1 #[.slice X.ra X.R.length X.rc, .slice X.ua X.U.length X.uc]) g_2 25 #[.slice none 0 0, .slice none 0 0]) := hide ((setRow_other W366 g_1 g_2 _ (fun e => hne e.symm)).trans (unhide HZ371))
          refine hK.out _ _ (unhide HX7) (fun hS373 => ?_)
          clear hK K hS372  
          generalize W366.setRow g_1 #[.slice X.ra X.R.length X.rc, .slice X.ua X.U.length X.uc] = W8 at HX7 HZ7 HFIN hS373 ⊢
          refine wpAnyH_ready (rs := [7]) (by kernel_rfl) (by simp) ?_
          refine AllReadyH.cons rfl (fun K hK => ?_) AllReadyH.nil
          rw [if_pos (by rfl)]
          refine wp_store_row 25 _ _ rfl g_2 #[.slice Y.ra Y.R.length Y.rc, .slice Y.ua Y.U.length Y.uc] rfl rfl 25 #[.slice none 0 0, .slice none 0 0] (unhide HZ7) (by kernel_rfl) rfl (by simp [Value.oneCell']) ?_
          refine hK.out _ _ ((unhide HX7).row gt_g_2 #[.slice Y.ra Y.R.length Y.rc, .slice Y.ua Y.U.length Y.uc]) (fun hS9 => ?_)
          clear hK K
          refine wpAnyH_done (by kernel_rfl) ?_ _
          go_wp2_with fail
          go_meet
          exact ⟨g_1, g_2, X, Y, rfl, rfl, HFIN⟩
      · go_simp
        have hal : Below W304.heap.size W304 (W304.alloc (.cells #[.slice none 0 0, .slice none 0 0] 25)) := (Below.refl _ _).alloc (Nat.le_refl _) _
        have gt_g_2 : w.heap.size + 1 < W304.heap.size := (unhide HX306).b.lt
        have CN_g_2_X : Hid (PgAll n (fun b => b ≠ W304.heap.size) X) := hide ((unhide HM_X).lt.mono (fun b hb => Nat.ne_of_lt hb))
        have HX374 := hide ((unhide HX306).below hal)
        have HM375 := hide ((unhide HM_X).below hal)
        have HZ376 : Hid (Bx (W304.alloc (.cells #[.slice none 0 0, .slice none 0 0] 25)) W304.heap.size 25 #[.slice none 0 0, .slice none 0 0]) := hide (heap_alloc_new W304 _)
        refine hK.out _ _ (unhide HX374) (fun hS377 => ?_)
        clear hK K hS307 HX306 HM_X hal
        generalize (W304.alloc (.cells #[.slice none 0 0, .slice none 0 0] 25)) = W378 at HX374 HM375 HZ376 hS377 ⊢
        generalize W304.heap.size = g_2 at HZ376 gt_g_2 CN_g_2_X ⊢
        refine wpAnyH_ready (rs := [3, 4]) (by kernel_rfl) (by simp) ?_
        refine (AllReadyH.cons rfl (fun K hK => ?_) (AllReadyH.cons rfl (fun K hK => ?_) AllReadyH.nil))
        · go_simp
          go_wp2_with (go_at_call 4; refine (Program_any n b W378 ((unhide HBB).below (unhide HX374).bel)).mono ?_; rintro e W379 ⟨Y, rfl, hmk, hsm, hco, hB380⟩)
          have CN_g_2_Y : Hid (PgAll n (fun b => b ≠ g_2) Y) := hide (hco.mono (fun b hb => by have := (unhide HZ376).lt; omega))
          have HX381 := hide ((unhide HX374).below hB380)
          have HM382 := hide ((unhide HM375).below hB380)
          have HZ383 := hide ((unhide HZ376).below hB380)
          have HM_Y := hide hmk
          have HS_Y := hide hsm
          clear hmk hsm hco
          refine hK.out _ _ (unhide HX381) (fun hS384 => ?_)
          clear hK K hS377 HX374 HM375 HZ376 hB380
          refine wpAnyH_ready (rs := [4]) (by kernel_rfl) (by simp) ?_
          refine AllReadyH.cons rfl (fun K hK => ?_) AllReadyH.nil
          go_simp
          have hal : Below W379.heap.size W379 (W379.alloc (.cells #[.slice none 0 0, .slice none 0 0] 25)) := (Below.refl _ _).alloc (Nat.le_refl _) _
          have gt_g_1 : w.heap.size + 1 < W379.heap.size := (unhide HX381).b.lt
          have CN_g_1_X : Hid (PgAll n (fun b => b ≠ W379.heap.size) X) := hide ((unhide HM382).lt.mono (fun b hb => Nat.ne_of_lt hb))
          have CN_g_1_Y : Hid (PgAll n (fun b => b ≠ W379.heap.size) Y) := hide ((unhide HM_Y).lt.mono (fun b hb => Nat.ne_of_lt hb))
          have ne_g_2_g_1 : g_2 < W379.heap.size := (unhide HZ383).lt
          have HX385 := hide ((unhide HX381).below hal)
          have HM386 := hide ((unhide HM382).below hal)
          have HM387 := hide ((unhide HM_Y).below hal)
          have HZ388 := hide ((unhide HZ383).below hal)
          have HZ389 : Hid (Bx (W379.alloc (.cells #[.slice none 0 0, .slice none 0 0] 25)) W379.heap.size 25 #[.slice none 0 0, .slice none 0 0]) := hide (heap_alloc_new W379 _)
          refine hK.out _ _ (unhide HX385) (fun hS390 => ?_)
          clear hK K hS384 HX381 HM382 HM_Y HZ383 hal
          generalize (W379.alloc (.cells #[.slice none 0 0, .slice none 0 0] 25)) = W391 at HX385 HM386 HM387 HZ388 HZ389 hS390 ⊢
          generalize W379.heap.size = g_1 at HZ389 gt_g_1 CN_g_1_X CN_g_1_Y ne_g_2_g_1 ⊢
          have hne : g_1 ≠ g_2 := by omega
          have HFIN := hide (same_fin (unhide HX385) (unhide HZ389) (unhide HZ388) (unhide HM386) (unhide HM387) (unhide HS_X) (unhide HS_Y) hne gt_g_1 gt_g_2 (unhide CN_g_1_X) (unhide CN_g_1_Y) (unhide CN_g_2_X) (unhide CN_g_2_Y))
          refine wpAnyH_ready (rs := [6]) (by kernel_rfl) (by simp) ?_
          refine AllReadyH.cons rfl (fun K hK => ?_) AllReadyH.nil
          rw [if_pos (by rfl)]
          refine wp_store_row 25 _ _ rfl g_1 #[.slice X.ra X.R.length X.rc, .slice X.ua X.U.length X.uc] rfl rfl 25 #[.slice none 0 0, .slice none 0 0] (unhide HZ389) (by kernel_rfl) rfl (by simp [Value.oneCell']) ?_
          have HX7 := hide ((unhide HX385).row gt_g_1 #[.slice X.ra X.R.length X.rc, .slice X.ua X.U.length X.uc])
          have HZ7 : Hid (Bx (W391.setRow g_1 #[.slice X.ra X.R.length X.rc, .slice X.ua X.U.length X.uc]) g_2 25 #[.slice none 0 0, .slice none 0 0]) := hide ((setRow_other W391 g_1 g_2 _ (fun e => hne e.symm)).trans (unhide HZ388))
          refine hK.out _ _ (unhide HX7) (fun hS392 => ?_)
          clear hK K hS390  
          generalize W391.setRow g_1 #[.slice X.ra X.R.length X.rc, .slice X.ua X.U.length X.uc] = W8 at HX7 HZ7 HFIN hS392 ⊢
          refine wpAnyH_ready (rs := [7]) (by kernel_rfl) (by simp) ?_
          refine AllReadyH.cons rfl (fun K hK => ?_) AllReadyH.nil
          rw [if_pos (by rfl)]
          refine wp_store_row 25 _ _ rfl g_2 #[.slice Y.ra Y.R.length Y.rc, .slice Y.ua Y.U.length Y.uc] rfl rfl 25 #[.slice none 0 0, .slice none 0 0] (unhide HZ7) (by kernel_rfl) rfl (by simp [Value.oneCell']) ?_
          refine hK.out _ _ ((unhide HX7).row gt_g_2 #[.slice Y.ra Y.R.length Y.rc, .slice Y.ua Y.U.length Y.uc]) (fun hS9 => ?_)
          clear hK K
          refine wpAnyH_done (by kernel_rfl) ?_ _
          go_wp2_with fail
          go_meet
          exact ⟨g_1, g_2, X, Y, rfl, rfl, HFIN⟩
        · go_simp
          have hal : Below W378.heap.size W378 (W378.alloc (.cells #[.slice none 0 0, .slice none 0 0] 25)) := (Below.refl _ _).alloc (Nat.le_refl _) _
          have gt_g_1 : w.heap.size + 1 < W378.heap.size := (unhide HX374).b.lt
          have CN_g_1_X : Hid (PgAll n (fun b => b ≠ W378.heap.size) X) := hide ((unhide HM375).lt.mono (fun b hb => Nat.ne_of_lt hb))
          have ne_g_2_g_1 : g_2 < W378.heap.size := (unhide HZ376).lt
          have HX393 := hide ((unhide HX374).below hal)
          have HM394 := hide ((unhide HM375).below hal)
          have HZ395 := hide ((unhide HZ376).below hal)
          have HZ396 : Hid (Bx (W378.alloc (.cells #[.slice none 0 0, .slice none 0 0] 25)) W378.heap.size 25 #[.slice none 0 0, .slice none 0 0]) := hide (heap_alloc_new W378 _)
          refine hK.out _ _ (unhide HX393) (fun hS397 => ?_)
          clear hK K hS377 HX374 HM375 HZ376 hal
          generalize (W378.alloc (.cells #[.slice none 0 0, .slice none 0 0] 25)) = W398 at HX393 HM394 HZ395 HZ396 hS397 ⊢
          generalize W378.heap.size = g_1 at HZ396 gt_g_1 CN_g_1_X ne_g_2_g_1 ⊢
          refine wpAnyH_ready (rs := [3]) (by kernel_rfl) (by simp) ?_
          refine AllReadyH.cons rfl (fun K hK => ?_) AllReadyH.nil
          go_simp
          go_wp2_with (go_at_call 4; refine (Program_any n b W398 ((unhide HBB).below (unhide HX393).bel)).mono ?_; rintro e W399 ⟨Y, rfl, hmk, hsm, hco, hB400⟩)
          have CN_g_2_Y : Hid (PgAll n (fun b => b ≠ g_2) Y) := hide (hco.mono (fun b hb => by have := (unhide HZ395).lt; omega))
          have CN_g_1_Y : Hid (PgAll n (fun b => b ≠ g_1) Y) := hide (hco.mono (fun b hb => by have := (unhide HZ396).lt; omega))
          have HX401 := hide ((unhide HX393).below hB400)
          have HM402 := hide ((unhide HM394).below hB400)
          have HZ403 := hide ((unhide HZ395).below hB400)
          have HZ404 := hide ((unhide HZ396).below hB400)
          have HM_Y := hide hmk
          have HS_Y := hide hsm
          clear hmk hsm hco
          refine hK.out _ _ (unhide HX401) (fun hS405 => ?_)
          clear hK K hS397 HX393 HM394 HZ395 HZ396 hB400
          have hne : g_1 ≠ g_2 := by omega
          have HFIN := hide (same_fin (unhide HX401) (unhide HZ404) (unhide HZ403) (unhide HM402) (unhide HM_Y) (unhide HS_X) (unhide HS_Y) hne gt_g_1 gt_g_2 (unhide CN_g_1_X) (unhide CN_g_1_Y) (unhide CN_g_2_X) (unhide CN_g_2_Y))
          refine wpAnyH_ready (rs := [6]) (by kernel_rfl) (by simp) ?_
          refine AllReadyH.cons rfl (fun K hK => ?_) AllReadyH.nil
          rw [if_pos (by rfl)]
          refine wp_store_row 25 _ _ rfl g_1 #[.slice X.ra X.R.length X.rc, .slice X.ua X.U.length X.uc] rfl rfl 25 #[.slice none 0 0, .slice none 0 0] (unhide HZ404) (by kernel_rfl) rfl (by simp [Value.oneCell']) ?_
          have HX7 := hide ((unhide HX401).row gt_g_1 #[.slice X.ra X.R.length X.rc, .slice X.ua X.U.length X.uc])
          have HZ7 : Hid (Bx (W399.setRow g_1 #[.slice X.ra X.R.length X.rc, .slice X.ua X.U.length X.uc]) g_2 25 #[.slice none 0 0, .slice none 0 0]) := hide ((setRow_other W399 g_1 g_2 _ (fun e => hne e.symm)).trans (unhide HZ403))
          refine hK.out _ _ (unhide HX7) (fun hS406 => ?_)
          clear hK K hS405  
          generalize W399.setRow g_1 #[.slice X.ra X.R.length X.rc, .slice X.ua X.U.length X.uc] = W8 at HX7 HZ7 HFIN hS406 ⊢
          refine wpAnyH_ready (rs := [7]) (by kernel_rfl) (by simp) ?_
          refine AllReadyH.cons rfl (fun K hK => ?_) AllReadyH.nil
          rw [if_pos (by rfl)]
          refine wp_store_row 25 _ _ rfl g_2 #[.slice Y.ra Y.R.length Y.rc, .slice Y.ua Y.U.length Y.uc] rfl rfl 25 #[.slice none 0 0, .slice none 0 0] (unhide HZ7) (by kernel_rfl) rfl (by simp [Value.oneCell']) ?_
          refine hK.out _ _ ((unhide HX7).row gt_g_2 #[.slice Y.ra Y.R.length Y.rc, .slice Y.ua Y.U.length Y.uc]) (fun hS9 => ?_)
          clear hK K
          refine wpAnyH_done (by kernel_rfl) ?_ _
          go_wp2_with fail
          go_meet
          exact ⟨g_1, g_2, X, Y, rfl, rfl, HFIN⟩
    · go_simp
      have hal : Below W302.heap.size W302 (W302.alloc (.cells #[.slice none 0 0, .slice none 0 0] 25)) := (Below.refl _ _).alloc (Nat.le_refl _) _
      have gt_g_1 : w.heap.size + 1 < W302.heap.size := (unhide HX301).b.lt
      have HX407 := hide ((unhide HX301).below hal)
      have HZ408 : Hid (Bx (W302.alloc (.cells #[.slice none 0 0, .slice none 0 0] 25)) W302.heap.size 25 #[.slice none 0 0, .slice none 0 0]) := hide (heap_alloc_new W302 _)
      refine hK.out _ _ (unhide HX407) (fun hS409 => ?_)
      clear hK K hS303 HX301 hal
      generalize (W302.alloc (.cells #[.slice none 0 0, .slice none 0 0] 25)) = W410 at HX407 HZ408 hS409 ⊢
      generalize W302.heap.size = g_1 at HZ408 gt_g_1 ⊢
      refine wpAnyH_ready (rs := [1, 5]) (by kernel_rfl) (by simp) ?_
      refine (AllReadyH.cons rfl (fun K hK => ?_) (AllReadyH.cons rfl (fun K hK => ?_) AllReadyH.nil))
      · go_simp
        go_wp2_with (go_at_call 4; refine (Program_any n a W410 ((unhide HA).below (unhide HX407).bel)).mono ?_; rintro e W411 ⟨X, rfl, hmk, hsm, hco, hB412⟩)
        have CN_g_1_X : Hid (PgAll n (fun b => b ≠ g_1) X) := hide (hco.mono (fun b hb => by have := (unhide HZ408).lt; omega))
        have HX413 := hide ((unhide HX407).below hB412)
        have HZ414 := hide ((unhide HZ408).below hB412)
        have HM_X := hide hmk
        have HS_X := hide hsm
        clear hmk hsm hco
        refine hK.out _ _ (unhide HX413) (fun hS415 => ?_)
        clear hK K hS409 HX407 HZ408 hB412
        refine wpAnyH_ready (rs := [3, 5]) (by kernel_rfl) (by simp) ?_
        refine (AllReadyH.cons rfl (fun K hK => ?_) (AllReadyH.cons rfl (fun K hK => ?_) AllReadyH.nil))
        · go_simp
          go_wp2_with (go_at_call 4; refine (Program_any n b W411 ((unhide HBB).below (unhide HX413).bel)).mono ?_; rintro e W416 ⟨Y, rfl, hmk, hsm, hco, hB417⟩)
          have CN_g_1_Y : Hid (PgAll n (fun b => b ≠ g_1) Y) := hide (hco.mono (fun b hb => by have := (unhide HZ414).lt; omega))
          have HX418 := hide ((unhide HX413).below hB417)
          have HM419 := hide ((unhide HM_X).below hB417)
          have HZ420 := hide ((unhide HZ414).below hB417)
          have HM_Y := hide hmk
          have HS_Y := hide hsm
          clear hmk hsm hco
          refine hK.out _ _ (unhide HX418) (fun hS421 => ?_)
          clear hK K hS415 HX413 HM_X HZ414 hB417
          refine wpAnyH_ready (rs := [5]) (by kernel_rfl) (by simp) ?_
          refine AllReadyH.cons rfl (fun K hK => ?_) AllReadyH.nil
          go_simp
          have hal : Below W416.heap.size W416 (W416.alloc (.cells #[.slice none 0 0, .slice none 0 0] 25)) := (Below.refl _ _).alloc (Nat.le_refl _) _
          have gt_g_2 : w.heap.size + 1 < W416.heap.size := (unhide HX418).b.lt
          have CN_g_2_X : Hid (PgAll n (fun b => b ≠ W416.heap.size) X) := hide ((unhide HM419).lt.mono (fun b hb => Nat.ne_of_lt hb))
          have CN_g_2_Y : Hid (PgAll n (fun b => b ≠ W416.heap.size) Y) := hide ((unhide HM_Y).lt.mono (fun b hb => Nat.ne_of_lt hb))
          have ne_g_1_g_2 : g_1 < W416.heap.size := (unhide HZ420).lt
          have HX422 := hide ((unhide HX418).below hal)
          have HM423 := hide ((unhide HM419).below hal)
          have HM424 := hide ((unhide HM_Y).below hal)
          have HZ425 := hide ((unhide HZ420).below hal)
          have HZ426 : Hid (Bx (W416.alloc (.cells #[.slice none 0 0, .slice none 0 0] 25)) W416.heap.size 25 #[.slice none 0 0, .slice none 0 0]) := hide (heap_alloc_new W416 _)
          refine hK.out _ _ (unhide HX422) (fun hS427 => ?_)
          clear hK K hS421 HX418 HM419 HM_Y HZ420 hal
          generalize (W416.alloc (.cells #[.slice none 0 0, .slice none 0 0] 25)) = W428 at HX422 HM423 HM424 HZ425 HZ426 hS427 ⊢
          generalize W416.heap.size = g_2 at HZ426 gt_g_2 CN_g_2_X CN_g_2_Y ne_g_1_g_2 ⊢
          have hne : g_1 ≠ g_2 := by omega
          have HFIN := hide (same_fin (unhide HX422) (unhide HZ425) (unhide HZ426) (unhide HM423) (unhide HM424) (unhide HS_X) (unhide HS_Y) hne gt_g_1 gt_g_2 (unhide CN_g_1_X) (unhide CN_g_1_Y) (unhide CN_g_2_X) (unhide CN_g_2_Y))
          refine wpAnyH_ready (rs := [6]) (by kernel_rfl) (by simp) ?_
          refine AllReadyH.cons rfl (fun K hK => ?_) AllReadyH.nil
          rw [if_pos (by rfl)]
          refine wp_store_row 25 _ _ rfl g_1 #[.slice X.ra X.R.length X.rc, .slice X.ua X.U.length X.uc] rfl rfl 25 #[.slice none 0 0, .slice none 0 0] (unhide HZ425) (by kernel_rfl) rfl (by simp [Value.oneCell']) ?_
          have HX7 := hide ((unhide HX422).row gt_g_1 #[.slice X.ra X.R.length X.rc, .slice X.ua X.U.length X.uc])
          have HZ7 : Hid (Bx (W428.setRow g_1 #[.slice X.ra X.R.length X.rc, .slice X.ua X.U.length X.uc]) g_2 25 #[.slice none 0 0, .slice none 0 0]) := hide ((setRow_other W428 g_1 g_2 _ (fun e => hne e.symm)).trans (unhide HZ426))
          refine hK.out _ _ (unhide HX7) (fun hS429 => ?_)
          clear hK K hS427  
          generalize W428.setRow g_1 #[.slice X.ra X.R.length X.rc, .slice X.ua X.U.length X.uc] = W8 at HX7 HZ7 HFIN hS429 ⊢
          refine wpAnyH_ready (rs := [7]) (by kernel_rfl) (by simp) ?_
          refine AllReadyH.cons rfl (fun K hK => ?_) AllReadyH.nil
          rw [if_pos (by rfl)]
          refine wp_store_row 25 _ _ rfl g_2 #[.slice Y.ra Y.R.length Y.rc, .slice Y.ua Y.U.length Y.uc] rfl rfl 25 #[.slice none 0 0, .slice none 0 0] (unhide HZ7) (by kernel_rfl) rfl (by simp [Value.oneCell']) ?_
          refine hK.out _ _ ((unhide HX7).row gt_g_2 #[.slice Y.ra Y.R.length Y.rc, .slice Y.ua Y.U.length Y.uc]) (fun hS9 => ?_)
          clear hK K
          refine wpAnyH_done (by kernel_rfl) ?_ _
          go_wp2_with fail
          go_meet
          exact ⟨g_1, g_2, X, Y, rfl, rfl, HFIN⟩
        · go_simp
          have hal : Below W411.heap.size W411 (W411.alloc (.cells #[.slice none 0 0, .slice none 0 0] 25)) := (Below.refl _ _).alloc (Nat.le_refl _) _
          have gt_g_2 : w.heap.size + 1 < W411.heap.size := (unhide HX413).b.lt
          have CN_g_2_X : Hid (PgAll n (fun b => b ≠ W411.heap.size) X) := hide ((unhide HM_X).lt.mono (fun b hb => Nat.ne_of_lt hb))
          have ne_g_1_g_2 : g_1 < W411.heap.size := (unhide HZ414).lt
          have HX430 := hide ((unhide HX413).below hal)
          have HM431 := hide ((unhide HM_X).below hal)
          have HZ432 := hide ((unhide HZ414).below hal)
          have HZ433 : Hid (Bx (W411.alloc (.cells #[.slice none 0 0, .slice none 0 0] 25)) W411.heap.size 25 #[.slice none 0 0, .slice none 0 0]) := hide (heap_alloc_new W411 _)
          refine hK.out _ _ (unhide HX430) (fun hS434 => ?_)
          clear hK K hS415 HX413 HM_X HZ414 hal
          generalize (W411.alloc (.cells #[.slice none 0 0, .slice none 0 0] 25)) = W435 at HX430 HM431 HZ432 HZ433 hS434 ⊢
          generalize W411.heap.size = g_2 at HZ433 gt_g_2 CN_g_2_X ne_g_1_g_2 ⊢
          refine wpAnyH_ready (rs := [3]) (by kernel_rfl) (by simp) ?_
          refine AllReadyH.cons rfl (fun K hK => ?_) AllReadyH.nil
          go_simp
          go_wp2_with (go_at_call 4; refine (Program_any n b W435 ((unhide HBB).below (unhide HX430).bel)).mono ?_; rintro e W436 ⟨Y, rfl, hmk, hsm, hco, hB437⟩)
          have CN_g_1_Y : Hid (PgAll n (fun b => b ≠ g_1) Y) := hide (hco.mono (fun b hb => by have := (unhide HZ432).lt; omega))
          have CN_g_2_Y : Hid (PgAll n (fun b => b ≠ g_2) Y) := hide (hco.mono (fun b hb => by have := (unhide HZ433).lt; omega))
          have HX438 := hide ((unhide HX430).below hB437)
          have HM439 := hide ((unhide HM431).below hB437)
          have HZ440 := hide ((unhide HZ432).below hB437)
          have HZ441 := hide ((unhide HZ433).below hB437)
          have HM_Y := hide hmk
          have HS_Y := hide hsm
          clear hmk hsm hco
          refine hK.out _ _ (unhide HX438) (fun hS442 => ?_)
          clear hK K hS434 HX430 HM431 HZ432 HZ433 hB437
          have hne : g_1 ≠ g_2 := by omega
          have HFIN := hide (same_fin (unhide HX438) (unhide HZ440) (unhide HZ441) (unhide HM439) (unhide HM_Y) (unhide HS_X) (unhide HS_Y) hne gt_g_1 gt_g_2 (unhide CN_g_1_X) (unhide CN_g_1_Y) (unhide CN_g_2_X) (unhide CN_g_2_Y))
          refine wpAnyH_ready (rs := [6]) (by kernel_rfl) (by simp) ?_
          refine AllReadyH.cons rfl (fun K hK => ?_) AllReadyH.nil
          rw [if_pos (by rfl)]
          refine wp_store_row 25 _ _ rfl g_1 #[.slice X.ra X.R.length X.rc, .slice X.ua X.U.length X.uc] rfl rfl 25 #[.slice none 0 0, .slice none 0 0] (unhide HZ440) (by kernel_rfl) rfl (by simp [Value.oneCell']) ?_
          have HX7 := hide ((unhide HX438).row gt_g_1 #[.slice X.ra X.R.length X.rc, .slice X.ua X.U.length X.uc])
          have HZ7 : Hid (Bx (W436.setRow g_1 #[.slice X.ra X.R.length X.rc, .slice X.ua X.U.length X.uc]) g_2 25 #[.slice none 0 0, .slice none 0 0]) := hide ((setRow_other W436 g_1 g_2 _ (fun e => hne e.symm)).trans (unhide HZ441))
          refine hK.out _ _ (unhide HX7) (fun hS443 => ?_)
          clear hK K hS442  
          generalize W436.setRow g_1 #[.slice X.ra X.R.length X.rc, .slice X.ua X.U.length X.uc] = W8 at HX7 HZ7 HFIN hS443 ⊢
          refine wpAnyH_ready (rs := [7]) (by kernel_rfl) (by simp) ?_
          refine AllReadyH.cons rfl (fun K hK => ?_) AllReadyH.nil
          rw [if_pos (by rfl)]
          refine wp_store_row 25 _ _ rfl g_2 #[.slice Y.ra Y.R.length Y.rc, .slice Y.ua Y.U.length Y.uc] rfl rfl 25 #[.slice none 0 0, .slice none 0 0] (unhide HZ7) (by kernel_rfl) rfl (by simp [Value.oneCell']) ?_
          refine hK.out _ _ ((unhide HX7).row gt_g_2 #[.slice Y.ra Y.R.length Y.rc, .slice Y.ua Y.U.length Y.uc]) (fun hS9 => ?_)
          clear hK K
          refine wpAnyH_done (by kernel_rfl) ?_ _
          go_wp2_with fail
          go_meet
          exact ⟨g_1, g_2, X, Y, rfl, rfl, HFIN⟩
      · go_simp
        have hal : Below W410.heap.size W410 (W410.alloc (.cells #[.slice none 0 0, .slice none 0 0] 25)) := (Below.refl _ _).alloc (Nat.le_refl _) _
        have gt_g_2 : w.heap.size + 1 < W410.heap.size := (unhide HX407).b.lt
        have ne_g_1_g_2 : g_1 < W410.heap.size := (unhide HZ408).lt
        have HX444 := hide ((unhide HX407).below hal)
        have HZ445 := hide ((unhide HZ408).below hal)
        have HZ446 : Hid (Bx (W410.alloc (.cells #[.slice none 0 0, .slice none 0 0] 25)) W410.heap.size 25 #[.slice none 0 0, .slice none 0 0]) := hide (heap_alloc_new W410 _)
        refine hK.out _ _ (unhide HX444) (fun hS447 => ?_)
        clear hK K hS409 HX407 HZ408 hal
        generalize (W410.alloc (.cells #[.slice none 0 0, .slice none 0 0] 25)) = W448 at HX444 HZ445 HZ446 hS447 ⊢
        generalize W410.heap.size = g_2 at HZ446 gt_g_2 ne_g_1_g_2 ⊢
        refine wpAnyH_ready (rs := [1]) (by kernel_rfl) (by simp) ?_
        refine AllReadyH.cons rfl (fun K hK => ?_) AllReadyH.nil
        go_simp
        go_wp2_with (go_at_call 4; refine (Program_any n a W448 ((unhide HA).below (unhide HX444).bel)).mono ?_; rintro e W449 ⟨X, rfl, hmk, hsm, hco, hB450⟩)
        have CN_g_1_X : Hid (PgAll n (fun b => b ≠ g_1) X) := hide (hco.mono (fun b hb => by have := (unhide HZ445).lt; omega))
        have CN_g_2_X : Hid (PgAll n (fun b => b ≠ g_2) X) := hide (hco.mono (fun b hb => by have := (unhide HZ446).lt; omega))
        have HX451 := hide ((unhide HX444).below hB450)
        have HZ452 := hide ((unhide HZ445).below hB450)
        have HZ453 := hide ((unhide HZ446).below hB450)
        have HM_X := hide hmk
        have HS_X := hide hsm
        clear hmk hsm hco
        refine hK.out _ _ (unhide HX451) (fun hS454 => ?_)
        clear hK K hS447 HX444 HZ445 HZ446 hB450
        refine wpAnyH_ready (rs := [3]) (by kernel_rfl) (by simp) ?_
        refine AllReadyH.cons rfl (fun K hK => ?_) AllReadyH.nil
        go_simp
        go_wp2_with (go_at_call 4; refine (Program_any n b W449 ((unhide HBB).below (unhide HX451).bel)).mono ?_; rintro e W455 ⟨Y, rfl, hmk, hsm, hco, hB456⟩)
        have CN_g_1_Y : Hid (PgAll n (fun b => b ≠ g_1) Y) := hide (hco.mono (fun b hb => by have := (unhide HZ452).lt; omega))
        have CN_g_2_Y : Hid (PgAll n (fun b => b ≠ g_2) Y) := hide (hco.mono (fun b hb => by have := (unhide HZ453).lt; omega))
        have HX457 := hide ((unhide HX451).below hB456)
        have HM458 := hide ((unhide HM_X).below hB456)
        have HZ459 := hide ((unhide HZ452).below hB456)
        have HZ460 := hide ((unhide HZ453).below hB456)
        have HM_Y := hide hmk
        have HS_Y := hide hsm
        clear hmk hsm hco
        refine hK.out _ _ (unhide HX457) (fun hS461 => ?_)
        clear hK K hS454 HX451 HM_X HZ452 HZ453 hB456
        have hne : g_1 ≠ g_2 := by omega
        have HFIN := hide (same_fin (unhide HX457) (unhide HZ459) (unhide HZ460) (unhide HM458) (unhide HM_Y) (unhide HS_X) (unhide HS_Y) hne gt_g_1 gt_g_2 (unhide CN_g_1_X) (unhide CN_g_1_Y) (unhide CN_g_2_X) (unhide CN_g_2_Y))
        refine wpAnyH_ready (rs := [6]) (by kernel_rfl) (by simp) ?_
        refine AllReadyH.cons rfl (fun K hK => ?_) AllReadyH.nil
        rw [if_pos (by rfl)]
        refine wp_store_row 25 _ _ rfl g_1 #[.slice X.ra X.R.length X.rc, .slice X.ua X.U.length X.uc] rfl rfl 25 #[.slice none 0 0, .slice none 0 0] (unhide HZ459) (by kernel_rfl) rfl (by simp [Value.oneCell']) ?_
        have HX7 := hide ((unhide HX457).row gt_g_1 #[.slice X.ra X.R.length X.rc, .slice X.ua X.U.length X.uc])
        have HZ7 : Hid (Bx (W455.setRow g_1 #[.slice X.ra X.R.length X.rc, .slice X.ua X.U.length X.uc]) g_2 25 #[.slice none 0 0, .slice none 0 0]) := hide ((setRow_other W455 g_1 g_2 _ (fun e => hne e.symm)).trans (unhide HZ460))
        refine hK.out _ _ (unhide HX7) (fun hS462 => ?_)
        clear hK K hS461  
        generalize W455.setRow g_1 #[.slice X.ra X.R.length X.rc, .slice X.ua X.U.length X.uc] = W8 at HX7 HZ7 HFIN hS462 ⊢
        refine wpAnyH_ready (rs := [7]) (by kernel_rfl) (by simp) ?_
        refine AllReadyH.cons rfl (fun K hK => ?_) AllReadyH.nil
        rw [if_pos (by rfl)]
        refine wp_store_row 25 _ _ rfl g_2 #[.slice Y.ra Y.R.length Y.rc, .slice Y.ua Y.U.length Y.uc] rfl rfl 25 #[.slice none 0 0, .slice none 0 0] (unhide HZ7) (by kernel_rfl) rfl (by simp [Value.oneCell']) ?_
        refine hK.out _ _ ((unhide HX7).row gt_g_2 #[.slice Y.ra Y.R.length Y.rc, .slice Y.ua Y.U.length Y.uc]) (fun hS9 => ?_)
        clear hK K
        refine wpAnyH_done (by kernel_rfl) ?_ _
        go_wp2_with fail
        go_meet
        exact ⟨g_1, g_2, X, Y, rfl, rfl, HFIN⟩
    · go_simp
      have hal : Below W302.heap.size W302 (W302.alloc (.cells #[.slice none 0 0, .slice none 0 0] 25)) := (Below.refl _ _).alloc (Nat.le_refl _) _
      have gt_g_2 : w.heap.size + 1 < W302.heap.size := (unhide HX301).b.lt
      have HX463 := hide ((unhide HX301).below hal)
      have HZ464 : Hid (Bx (W302.alloc (.cells #[.slice none 0 0, .slice none 0 0] 25)) W302.heap.size 25 #[.slice none 0 0, .slice none 0 0]) := hide (heap_alloc_new W302 _)
      refine hK.out _ _ (unhide HX463) (fun hS465 => ?_)
      clear hK K hS303 HX301 hal
      generalize (W302.alloc (.cells #[.slice none 0 0, .slice none 0 0] 25)) = W466 at HX463 HZ464 hS465 ⊢
      generalize W302.heap.size = g_2 at HZ464 gt_g_2 ⊢
      refine wpAnyH_ready (rs := [1, 4]) (by kernel_rfl) (by simp) ?_
      refine (AllReadyH.cons rfl (fun K hK => ?_) (AllReadyH.cons rfl (fun K hK => ?_) AllReadyH.nil))
      · go_simp
        go_wp2_with (go_at_call 4; refine (Program_any n a W466 ((unhide HA).below (unhide HX463).bel)).mono ?_; rintro e W467 ⟨X, rfl, hmk, hsm, hco, hB468⟩)
        have CN_g_2_X : Hid (PgAll n (fun b => b ≠ g_2) X) := hide (hco.mono (fun b hb => by have := (unhide HZ464).lt; omega))
        have HX469 := hide ((unhide HX463).below hB468)
        have HZ470 := hide ((unhide HZ464).below hB468)
        have HM_X := hide hmk
        have HS_X := hide hsm
        clear hmk hsm hco
        refine hK.out _ _ (unhide HX469) (fun hS471 => ?_)
        clear hK K hS465 HX463 HZ464 hB468
        refine wpAnyH_ready (rs := [3, 4]) (by kernel_rfl) (by simp) ?_
        refine (AllReadyH.cons rfl (fun K hK => ?_) (AllReadyH.cons rfl (fun K hK => ?_) AllReadyH.nil))
        · go_simp
          go_wp2_with (go_at_call 4; refine (Program_any n b W467 ((unhide HBB).below (unhide HX469).bel)).mono ?_; rintro e W472 ⟨Y, rfl, hmk, hsm, hco, hB473⟩)
          have CN_g_2_Y : Hid (PgAll n (fun b => b ≠ g_2) Y) := hide (hco.mono (fun b hb => by have := (unhide HZ470).lt; omega))
          have HX474 := hide ((unhide HX469).below hB473)
          have HM475 := hide ((unhide HM_X).below hB473)
          have HZ476 := hide ((unhide HZ470).below hB473)
          have HM_Y := hide hmk
          have HS_Y := hide hsm
          clear hmk hsm hco
          refine hK.out _ _ (unhide HX474) (fun hS477 => ?_)
          clear hK K hS471 HX469 HM_X HZ470 hB473
          refine wpAnyH_ready (rs := [4]) (by kernel_rfl) (by simp) ?_
          refine AllReadyH.cons rfl (fun K hK => ?_) AllReadyH.nil
          go_simp
          have hal : Below W472.heap.size W472 (W472.alloc (.cells #[.slice none 0 0, .slice none 0 0] 25)) := (Below.refl _ _).alloc (Nat.le_refl _) _
          have gt_g_1 : w.heap.size + 1 < W472.heap.size := (unhide HX474).b.lt
          have CN_g_1_X : Hid (PgAll n (fun b => b ≠ W472.heap.size) X) := hide ((unhide HM475).lt.mono (fun b hb => Nat.ne_of_lt hb))
          have CN_g_1_Y : Hid (PgAll n (fun b => b ≠ W472.heap.size) Y) := hide ((unhide HM_Y).lt.mono (fun b hb => Nat.ne_of_lt hb))
          have ne_g_2_g_1 : g_2 < W472.heap.size := (unhide HZ476).lt
          have HX478 := hide ((unhide HX474).below hal)
          have HM479 := hide ((unhide HM475).below hal)
          have HM480 := hide ((unhide HM_Y).below hal)
          have HZ481 := hide ((unhide HZ476).below hal)
          have HZ482 : Hid (Bx (W472.alloc (.cells #[.slice none 0 0, .slice none 0 0] 25)) W472.heap.size 25 #[.slice none 0 0, .slice none 0 0]) := hide (heap_alloc_new W472 _)
          refine hK.out _ _ (unhide HX478) (fun hS483 => ?_)
          clear hK K hS477 HX474 HM475 HM_Y HZ476 hal
          generalize (W472.alloc (.cells #[.slice none 0 0, .slice none 0 0] 25)) = W484 at HX478 HM479 HM480 HZ481 HZ482 hS483 ⊢
          generalize W472.heap.size = g_1 at HZ482 gt_g_1 CN_g_1_X CN_g_1_Y ne_g_2_g_1 ⊢
          have hne : g_1 ≠ g_2 := by omega
          have HFIN := hide (same_fin (unhide HX478) (unhide HZ482) (unhide HZ481) (unhide HM479) (unhide HM480) (unhide HS_X) (unhide HS_Y) hne gt_g_1 gt_g_2 (unhide CN_g_1_X) (unhide CN_g_1_Y) (unhide CN_g_2_X) (unhide CN_g_2_Y))
          refine wpAnyH_ready (rs := [6]) (by kernel_rfl) (by simp) ?_
          refine AllReadyH.cons rfl (fun K hK => ?_) AllReadyH.nil
          rw [if_pos (by rfl)]
          refine wp_store_row 25 _ _ rfl g_1 #[.slice X.ra X.R.length X.rc, .slice X.ua X.U.length X.uc] rfl rfl 25 #[.slice none 0 0, .slice none 0 0] (unhide HZ482) (by kernel_rfl) rfl (by simp [Value.oneCell']) ?_
          have HX7 := hide ((unhide HX478).row gt_g_1 #[.slice X.ra X.R.length X.rc, .slice X.ua X.U.length X.uc])
          have HZ7 : Hid (Bx (W484.setRow g_1 #[.slice X.ra X.R.length X.rc, .slice X.ua X.U.length X.uc]) g_2 25 #[.slice none 0 0, .slice none 0 0]) := hide ((setRow_other W484 g_1 g_2 _ (fun e => hne e.symm)).trans (unhide HZ481))
          refine hK.out _ _ (unhide HX7) (fun hS485 => ?_)
          clear hK K hS483  
          generalize W484.setRow g_1 #[.slice X.ra X.R.length X.rc, .slice X.ua X.U.length X.uc] = W8 at HX7 HZ7 HFIN hS485 ⊢
          refine wpAnyH_ready (rs := [7]) (by kernel_rfl) (by simp) ?_
          refine AllReadyH.cons rfl (fun K hK => ?_) AllReadyH.nil
          rw [if_pos (by rfl)]
          refine wp_store_row 25 _ _ rfl g_2 #[.slice Y.ra Y.R.length Y.rc, .slice Y.ua Y.U.length Y.uc] rfl rfl 25 #[.slice none 0 0, .slice none 0 0] (unhide HZ7) (by kernel_rfl) rfl (by simp [Value.oneCell']) ?_
          refine hK.out _ _ ((unhide HX7).row gt_g_2 #[.slice Y.ra Y.R.length Y.rc, .slice Y.ua Y.U.length Y.uc]) (fun hS9 => ?_)
          clear hK K
          refine wpAnyH_done (by kernel_rfl) ?_ _
          go_wp2_with fail
          go_meet
          exact ⟨g_1, g_2, X, Y, rfl, rfl, HFIN⟩
        · go_simp
          have hal : Below W467.heap.size W467 (W467.alloc (.cells #[.slice none 0 0, .slice none 0 0] 25)) := (Below.refl _ _).alloc (Nat.le_refl _) _
          have gt_g_1 : w.heap.size + 1 < W467.heap.size := (unhide HX469).b.lt
          have CN_g_1_X : Hid (PgAll n (fun b => b ≠ W467.heap.size) X) := hide ((unhide HM_X).lt.mono (fun b hb => Nat.ne_of_lt hb))
          have ne_g_2_g_1 : g_2 < W467.heap.size := (unhide HZ470).lt
          have HX486 := hide ((unhide HX469).below hal)
          have HM487 := hide ((unhide HM_X).below hal)
          have HZ488 := hide ((unhide HZ470).below hal)
          have HZ489 : Hid (Bx (W467.alloc (.cells #[.slice none 0 0, .slice none 0 0] 25)) W467.heap.size 25 #[.slice none 0 0, .slice none 0 0]) := hide (heap_alloc_new W467 _)
          refine hK.out _ _ (unhide HX486) (fun hS490 => ?_)
          clear hK K hS471 HX469 HM_X HZ470 hal
          generalize (W467.alloc (.cells #[.slice none 0 0, .slice none 0 0] 25)) = W491 at HX486 HM487 HZ488 HZ489 hS490 ⊢
          generalize W467.heap.size = g_1 at HZ489 gt_g_1 CN_g_1_X ne_g_2_g_1 ⊢
          refine wpAnyH_ready (rs := [3]) (by kernel_rfl) (by simp) ?_
          refine AllReadyH.cons rfl (fun K hK => ?_) AllReadyH.nil
          go_simp
          go_wp2_with (go_at_call 4; refine (Program_any n b W491 ((unhide HBB).below (unhide HX486).bel)).mono ?_; rintro e W492 ⟨Y, rfl, hmk, hsm, hco, hB493⟩)
          have CN_g_2_Y : Hid (PgAll n (fun b => b ≠ g_2) Y) := hide (hco.mono (fun b hb => by have := (unhide HZ488).lt; omega))
          have CN_g_1_Y : Hid (PgAll n (fun b => b ≠ g_1) Y) := hide (hco.mono (fun b hb => by have := (unhide HZ489).lt; omega))
          have HX494 := hide ((unhide HX486).below hB493)
          have HM495 := hide ((unhide HM487).below hB493)
          have HZ496 := hide ((unhide HZ488).below hB493)
          have HZ497 := hide ((unhide HZ489).below hB493)
          have HM_Y := hide hmk
          have HS_Y := hide hsm
          clear hmk hsm hco
          refine hK.out _ _ (unhide HX494) (fun hS498 => ?_)
          clear hK K hS490 HX486 HM487 HZ488 HZ489 hB493
          have hne : g_1 ≠ g_2 := by omega
          have HFIN := hide (same_fin (unhide HX494) (unhide HZ497) (unhide HZ496) (unhide HM495) (unhide HM_Y) (unhide HS_X) (unhide HS_Y) hne gt_g_1 gt_g_2 (unhide CN_g_1_X) (unhide CN_g_1_Y) (unhide CN_g_2_X) (unhide CN_g_2_Y))
          refine wpAnyH_ready (rs := [6]) (by kernel_rfl) (by simp) ?_
          refine AllReadyH.cons rfl (fun K hK => ?_) AllReadyH.nil
          rw [if_pos (by rfl)]
          refine wp_store_row 25 _ _ rfl g_1 #[.slice X.ra X.R.length X.rc, .slice X.ua X.U.length X.uc] rfl rfl 25 #[.slice none 0 0, .slice none 0 0] (unhide HZ497) (by kernel_rfl) rfl (by simp [Value.oneCell']) ?_
          have HX7 := hide ((unhide HX494).row gt_g_1 #[.slice X.ra X.R.length X.rc, .slice X.ua X.U.length X.uc])
          have HZ7 : Hid (Bx (W492.setRow g_1 #[.slice X.ra X.R.length X.rc, .slice X.ua X.U.length X.uc]) g_2 25 #[.slice none 0 0, .slice none 0 0]) := hide ((setRow_other W492 g_1 g_2 _ (fun e => hne e.symm)).trans (unhide HZ496))
          refine hK.out _ _ (unhide HX7) (fun hS499 => ?_)
          clear hK K hS498  
          generalize W492.setRow g_1 #[.slice X.ra X.R.length X.rc, .slice X.ua X.U.length X.uc] = W8 at HX7 HZ7 HFIN hS499 ⊢
          refine wpAnyH_ready (rs := [7]) (by kernel_rfl) (by simp) ?_
          refine AllReadyH.cons rfl (fun K hK => ?_) AllReadyH.nil
          rw [if_pos (by rfl)]
          refine wp_store_row 25 _ _ rfl g_2 #[.slice Y.ra Y.R.length Y.rc, .slice Y.ua Y.U.length Y.uc] rfl rfl 25 #[.slice none 0 0, .slice none 0 0] (unhide HZ7) (by kernel_rfl) rfl (by simp [Value.oneCell']) ?_
          refine hK.out _ _ ((unhide HX7).row gt_g_2 #[.slice Y.ra Y.R.length Y.rc, .slice Y.ua Y.U.length Y.uc]) (fun hS9 => ?_)
          clear hK K
          refine wpAnyH_done (by kernel_rfl) ?_ _
          go_wp2_with fail
          go_meet
          exact ⟨g_1, g_2, X, Y, rfl, rfl, HFIN⟩
      · go_simp
        have hal : Below W466.heap.size W466 (W466.alloc (.cells #[.slice none 0 0, .slice none 0 0] 25)) := (Below.refl _ _).alloc (Nat.le_refl _) _
        have gt_g_1 : w.heap.size + 1 < W466.heap.size := (unhide HX463).b.lt
        have ne_g_2_g_1 : g_2 < W466.heap.size := (unhide HZ464).lt
        have HX500 := hide ((unhide HX463).below hal)
        have HZ501 := hide ((unhide HZ464).below hal)
        have HZ502 : Hid (Bx (W466.alloc (.cells #[.slice none 0 0, .slice none 0 0] 25)) W466.heap.size 25 #[.slice none 0 0, .slice none 0 0]) := hide (heap_alloc_new W466 _)
        refine hK.out _ _ (unhide HX500) (fun hS503 => ?_)
        clear hK K hS465 HX463 HZ464 hal
        generalize (W466.alloc (.cells #[.slice none 0 0, .slice none 0 0] 25)) = W504 at HX500 HZ501 HZ502 hS503 ⊢
        generalize W466.heap.size = g_1 at HZ502 gt_g_1 ne_g_2_g_1 ⊢
        refine wpAnyH_ready (rs := [1]) (by kernel_rfl) (by simp) ?_
        refine AllReadyH.cons rfl (fun K hK => ?_) AllReadyH.nil
        go_simp
        go_wp2_with (go_at_call 4; refine (Program_any n a W504 ((unhide HA).below (unhide HX500).bel)).mono ?_; rintro e W505 ⟨X, rfl, hmk, hsm, hco, hB506⟩)
        have CN_g_2_X : Hid (PgAll n (fun b => b ≠ g_2) X) := hide (hco.mono (fun b hb => by have := (unhide HZ501).lt; omega))
        have CN_g_1_X : Hid (PgAll n (fun b => b ≠ g_1) X) := hide (hco.mono (fun b hb => by have := (unhide HZ502).lt; omega))
        have HX507 := hide ((unhide HX500).below hB506)
        have HZ508 := hide ((unhide HZ501).below hB506)
        have HZ509 := hide ((unhide HZ502).below hB506)
        have HM_X := hide hmk
        have HS_X := hide hsm
        clear hmk hsm hco
        refine hK.out _ _ (unhide HX507) (fun hS510 => ?_)
        clear hK K hS503 HX500 HZ501 HZ502 hB506
        refine wpAnyH_ready (rs := [3]) (by kernel_rfl) (by simp) ?_
        refine AllReadyH.cons rfl (fun K hK => ?_) AllReadyH.nil
        go_simp
        go_wp2_with (go_at_call 4; refine (Program_any n b W505 ((unhide HBB).below (unhide HX507).bel)).mono ?_; rintro e W511 ⟨Y, rfl, hmk, hsm, hco, hB512⟩)
        have CN_g_2_Y : Hid (PgAll n (fun b => b ≠ g_2) Y) := hide (hco.mono (fun b hb => by have := (unhide HZ508).lt; omega))
        have CN_g_1_Y : Hid (PgAll n (fun b => b ≠ g_1) Y) := hide (hco.mono (fun b hb => by have := (unhide HZ509).lt; omega))
        have HX513 := hide ((unhide HX507).below hB512)
        have HM514 := hide ((unhide HM_X).below hB512)
        have HZ515 := hide ((unhide HZ508).below hB512)
        have HZ516 := hide ((unhide HZ509).below hB512)
        have HM_Y := hide hmk
        have HS_Y := hide hsm
        clear hmk hsm hco
        refine hK.out _ _ (unhide HX513) (fun hS517 => ?_)
        clear hK K hS510 HX507 HM_X HZ508 HZ509 hB512
        have hne : g_1 ≠ g_2 := by omega
        have HFIN := hide (same_fin (unhide HX513) (unhide HZ516) (unhide HZ515) (unhide HM514) (unhide HM_Y) (unhide HS_X) (unhide HS_Y) hne gt_g_1 gt_g_2 (unhide CN_g_1_X) (unhide CN_g_1_Y) (unhide CN_g_2_X) (unhide CN_g_2_Y))
        refine wpAnyH_ready (rs := [6]) (by kernel_rfl) (by simp) ?_
        refine AllReadyH.cons rfl (fun K hK => ?_) AllReadyH.nil
        rw [if_pos (by rfl)]
        refine wp_store_row 25 _ _ rfl g_1 #[.slice X.ra X.R.length X.rc, .slice X.ua X.U.length X.uc] rfl rfl 25 #[.slice none 0 0, .slice none 0 0] (unhide HZ516) (by kernel_rfl) rfl (by simp [Value.oneCell']) ?_
        have HX7 := hide ((unhide HX513).row gt_g_1 #[.slice X.ra X.R.length X.rc, .slice X.ua X.U.length X.uc])
        have HZ7 : Hid (Bx (W511.setRow g_1 #[.slice X.ra X.R.length X.rc, .slice X.ua X.U.length X.uc]) g_2 25 #[.slice none 0 0, .slice none 0 0]) := hide ((setRow_other W511 g_1 g_2 _ (fun e => hne e.symm)).trans (unhide HZ515))
        refine hK.out _ _ (unhide HX7) (fun hS518 => ?_)
        clear hK K hS517  
        generalize W511.setRow g_1 #[.slice X.ra X.R.length X.rc, .slice X.ua X.U.length X.uc] = W8 at HX7 HZ7 HFIN hS518 ⊢
        refine wpAnyH_ready (rs := [7]) (by kernel_rfl) (by simp) ?_
        refine AllReadyH.cons rfl (fun K hK => ?_) AllReadyH.nil
        rw [if_pos (by rfl)]
        refine wp_store_row 25 _ _ rfl g_2 #[.slice Y.ra Y.R.length Y.rc, .slice Y.ua Y.U.length Y.uc] rfl rfl 25 #[.slice none 0 0, .slice none 0 0] (unhide HZ7) (by kernel_rfl) rfl (by simp [Value.oneCell']) ?_
        refine hK.out _ _ ((unhide HX7).row gt_g_2 #[.slice Y.ra Y.R.length Y.rc, .slice Y.ua Y.U.length Y.uc]) (fun hS9 => ?_)
        clear hK K
        refine wpAnyH_done (by kernel_rfl) ?_ _
        go_wp2_with fail
        go_meet
        exact ⟨g_1, g_2, X, Y, rfl, rfl, HFIN⟩
  case rest =>
    obtain ⟨g1, g2, X, Y, rfl, rfl, HQ⟩ := hcut
    clear HX
    have HEQ := hide (eqG_same (unhide HQ).sx (unhide HQ).sy)
    generalize eqG n a b = q at HEQ
    go_upto_region 2 with fail
    have HX301 := hide ((unhide HQ).below (below_drew wc 1))
    refine wp_region_held_drew (S := fun w' => LQ n w w' a b g1 X g2 Y) (by kernel_rfl) (unhide HX301) (fun hS303 => ?_)
    clear HQ
    generalize hWd : wc.drewN 1 = W302 at HX301
    change wc.drew = W302 at hWd
    rw [hWd] at hS303 ⊢
    clear hWd
    refine wpAnyH_take (i := 0) (v := .agg #[.slice X.ra X.R.length X.rc, .slice X.ua X.U.length X.uc]) rfl (by kernel_rfl) (by kernel_rfl) (by kernel_rfl) (fun _ _ _ h => h) (yieldsIf_load_mid (by rfl) 25 _ rfl (g1) 0 rfl _ _ (fun _ h => box_rangeM (h.x)) Try.underlying25 rfl (by kernel_rfl)) hS303 ?_
    refine wpAnyH_take (i := 1) (v := .agg #[.slice Y.ra Y.R.length Y.rc, .slice Y.ua Y.U.length Y.uc]) rfl (by kernel_rfl) (by kernel_rfl) (by kernel_rfl) (fun _ _ _ h => h) (yieldsIf_load_mid (by rfl) 25 _ rfl (g2) 0 rfl _ _ (fun _ h => box_rangeM (h.y)) Try.underlying25 rfl (by kernel_rfl)) hS303 ?_
    go_simp
    refine wpAnyH_take (i := 3) (v := .agg #[.slice a.ra a.R.length a.rc, .slice a.ua a.U.length a.uc]) rfl (by kernel_rfl) (by kernel_rfl) (by kernel_rfl) (fun _ _ _ h => h) (yieldsIf_load_mid (by rfl) 25 _ rfl (w.heap.size) 0 rfl _ _ (fun _ h => box_rangeM (h.lb.a)) Try.underlying25 rfl (by kernel_rfl)) hS303 ?_
    refine wpAnyH_take (i := 4) (v := .agg #[.slice b.ra b.R.length b.rc, .slice b.ua b.U.length b.uc]) rfl (by kernel_rfl) (by kernel_rfl) (by kernel_rfl) (fun _ _ _ h => h) (yieldsIf_load_mid (by rfl) 25 _ rfl (w.heap.size + 1) 0 rfl _ _ (fun _ h => box_rangeM (h.lb.b)) Try.underlying25 rfl (by kernel_rfl)) hS303 ?_
    go_simp
    have HC := hide (parseSame_any n X Y W302 (unhide HX301).mx (unhide HX301).my)
    rw [unhide HEQ] at HC
    refine wpAnyH_ready (rs := [2]) (by kernel_rfl) (by simp) ?_
    refine AllReadyH.cons rfl (fun K hK => ?_) AllReadyH.nil
    go_simp
    go_wp2_with (go_at_call 5; refine (unhide HC).mono ?_; rintro e W304 ⟨rfl, hB305⟩)
    have HX306 := hide ((unhide HX301).below hB305)
    refine hK.out _ _ (unhide HX306) (fun hS307 => ?_)
    clear hK K hS303 HX301 hB305
    have HC2 := hide (refSame_any n a b W304 ((unhide HA).below (unhide HX306).lb.bel) ((unhide HBB).below (unhide HX306).lb.bel))
    rw [← eqG_same (unhide HX306).sx (unhide HX306).sy, unhide HEQ] at HC2
    refine wpAnyH_ready (rs := [5]) (by kernel_rfl) (by simp) ?_
    refine AllReadyH.cons rfl (fun K hK => ?_) AllReadyH.nil
    go_simp
    go_wp2_with (go_at_call 6; refine (unhide HC2).mono ?_; rintro e W308 ⟨rfl, hB309⟩)
    have HX310 := hide ((unhide HX306).below hB309)
    refine hK.out _ _ (unhide HX310) (fun hS311 => ?_)
    clear hK K hS307 HX306 hB309
    have hqq : (q == q) = true := by simp
    refine wpAnyH_take (i := 6) (v := .bool true) rfl (by kernel_rfl) (by kernel_rfl) (by kernel_rfl) (fun _ _ _ h => h) (Or.inl ⟨by rfl, fun w _ => by go_simp⟩) hS311 ?_
    refine wpAnyH_take (i := 7) (v := .bool true) rfl (by kernel_rfl) (by kernel_rfl) (by kernel_rfl) (fun _ _ _ h => h) (Or.inl ⟨by rfl, fun w _ => by go_simp⟩) hS311 ?_
    go_simp
    refine wpAnyH_take (i := 8) (v := .agg #[.slice X.ra X.R.length X.rc, .slice X.ua X.U.length X.uc]) rfl (by kernel_rfl) (by kernel_rfl) (by kernel_rfl) (fun _ _ _ h => h) (yieldsIf_load_mid (by rfl) 25 _ rfl (g1) 0 rfl _ _ (fun _ h => box_rangeM (h.x)) Try.underlying25 rfl (by kernel_rfl)) hS311 ?_
    refine wpAnyH_take (i := 9) (v := .agg #[.slice X.ra X.R.length X.rc, .slice X.ua X.U.length X.uc]) rfl (by kernel_rfl) (by kernel_rfl) (by kernel_rfl) (fun _ _ _ h => h) (yieldsIf_load_mid (by rfl) 25 _ rfl (g1) 0 rfl _ _ (fun _ h => box_rangeM (h.x)) Try.underlying25 rfl (by kernel_rfl)) hS311 ?_
    go_simp
    have HC3 := hide (parseSame_any n X X W308 (unhide HX310).mx (unhide HX310).mx)
    rw [eqG_refl] at HC3
    refine wpAnyH_ready (rs := [10]) (by kernel_rfl) (by simp) ?_
    refine AllReadyH.cons rfl (fun K hK => ?_) AllReadyH.nil
    go_simp
    go_wp2_with (go_at_call 5; refine (unhide HC3).mono ?_; rintro e W312 ⟨rfl, hB313⟩)
    have HX314 := hide ((unhide HX310).below hB313)
    refine hK.out _ _ (unhide HX314) (fun hS315 => ?_)
    clear hK K hS311 HX310 hB313
    refine wpAnyH_take (i := 11) (v := .bool true) rfl (by kernel_rfl) (by kernel_rfl) (by kernel_rfl) (fun _ _ _ h => h) (Or.inl ⟨by rfl, fun w _ => by go_simp⟩) hS315 ?_
    refine wpAnyH_take (i := 12) (v := .bool true) rfl (by kernel_rfl) (by kernel_rfl) (by kernel_rfl) (fun _ _ _ h => h) (Or.inl ⟨by rfl, fun w _ => by go_simp⟩) hS315 ?_
    go_simp
    refine wpAnyH_take (i := 13) (v := .agg #[.slice X.ra X.R.length X.rc, .slice X.ua X.U.length X.uc]) rfl (by kernel_rfl) (by kernel_rfl) (by kernel_rfl) (fun _ _ _ h => h) (yieldsIf_load_mid (by rfl) 25 _ rfl (g1) 0 rfl _ _ (fun _ h => box_rangeM (h.x)) Try.underlying25 rfl (by kernel_rfl)) hS315 ?_
    refine wpAnyH_take (i := 14) (v := .agg #[.slice a.ra a.R.length a.rc, .slice a.ua a.U.length a.uc]) rfl (by kernel_rfl) (by kernel_rfl) (by kernel_rfl) (fun _ _ _ h => h) (yieldsIf_load_mid (by rfl) 25 _ rfl (w.heap.size) 0 rfl _ _ (fun _ h => box_rangeM (h.lb.a)) Try.underlying25 rfl (by kernel_rfl)) hS315 ?_
    go_simp
    have HC4 := hide (SameProgram_yes n X a W312 (unhide HX314).mx ((unhide HA).below (unhide HX314).lb.bel) (unhide HX314).sx)
    refine wpAnyH_ready (rs := [15]) (by kernel_rfl) (by simp) ?_
    refine AllReadyH.cons rfl (fun K hK => ?_) AllReadyH.nil
    go_simp
    go_wp2_with (go_at_call 7; refine (unhide HC4).mono ?_; rintro e W316 ⟨rfl, hB317⟩)
    have HX318 := hide ((unhide HX314).below hB317)
    refine hK.out _ _ (unhide HX318) (fun hS319 => ?_)
    clear hK K hS315 HX314 hB317
    refine wpAnyH_take (i := 16) (v := .bool true) rfl (by kernel_rfl) (by kernel_rfl) (by kernel_rfl) (fun _ _ _ h => h) (Or.inl ⟨by rfl, fun w _ => by go_simp⟩) hS319 ?_
    refine wpAnyH_take (i := 17) (v := .bool true) rfl (by kernel_rfl) (by kernel_rfl) (by kernel_rfl) (fun _ _ _ h => h) (Or.inl ⟨by rfl, fun w _ => by go_simp⟩) hS319 ?_
    go_simp
    refine wpAnyH_take (i := 18) (v := .agg #[.slice Y.ra Y.R.length Y.rc, .slice Y.ua Y.U.length Y.uc]) rfl (by kernel_rfl) (by kernel_rfl) (by kernel_rfl) (fun _ _ _ h => h) (yieldsIf_load_mid (by rfl) 25 _ rfl (g2) 0 rfl _ _ (fun _ h => box_rangeM (h.y)) Try.underlying25 rfl (by kernel_rfl)) hS319 ?_
    refine wpAnyH_take (i := 19) (v := .agg #[.slice b.ra b.R.length b.rc, .slice b.ua b.U.length b.uc]) rfl (by kernel_rfl) (by kernel_rfl) (by kernel_rfl) (fun _ _ _ h => h) (yieldsIf_load_mid (by rfl) 25 _ rfl (w.heap.size + 1) 0 rfl _ _ (fun _ h => box_rangeM (h.lb.b)) Try.underlying25 rfl (by kernel_rfl)) hS319 ?_
    go_simp
    have HC5 := hide (SameProgram_yes n Y b W316 (unhide HX318).my ((unhide HBB).below (unhide HX318).lb.bel) (unhide HX318).sy)
    refine wpAnyH_ready (rs := [20]) (by kernel_rfl) (by simp) ?_
    refine AllReadyH.cons rfl (fun K hK => ?_) AllReadyH.nil
    go_simp
    go_wp2_with (go_at_call 7; refine (unhide HC5).mono ?_; rintro e W320 ⟨rfl, hB321⟩)
    have HX322 := hide ((unhide HX318).below hB321)
    refine hK.out _ _ (unhide HX322) (fun hS323 => ?_)
    clear hK K hS319 HX318 hB321
    refine wpAnyH_take (i := 21) (v := .bool true) rfl (by kernel_rfl) (by kernel_rfl) (by kernel_rfl) (fun _ _ _ h => h) (Or.inl ⟨by rfl, fun w _ => by go_simp⟩) hS323 ?_
    refine wpAnyH_ready (rs := [22]) (by kernel_rfl) (by simp) ?_
    refine AllReadyH.cons rfl (fun K hK => ?_) AllReadyH.nil
    go_simp
    refine hK.out _ _ (unhide HX322) (fun hS324 => ?_)
    clear hK K hS323
    refine wpAnyH_done (by kernel_rfl) ?_ _
    go_wp2
    go_ret
    exact ⟨rfl, (unhide HX322).lb.bel⟩
theorem walkParseSames {w : World} (a : Pg) (ha : ∃ n, PgOk n w a) (b : Pg) (hb : ∃ n, PgOk n w b) :
    Calls Try.prog 3 #[.agg #[.slice a.ra a.R.length a.rc, .slice a.ua a.U.length a.uc], .agg #[.slice b.ra b.R.length b.rc, .slice b.ua b.U.length b.uc]] w fun e w' => e = .returned (.bool true) ∧ Below w.heap.size w w' := by
  obtain ⟨n, ha⟩ := ha
  obtain ⟨m, hb⟩ := hb
  exact walkParseSamesN (max n m) a (ha.mono (Nat.le_max_left _ _)) b (hb.mono (Nat.le_max_right _ _))
end Go.Proofs.Ytjccomjgmejnhaa
