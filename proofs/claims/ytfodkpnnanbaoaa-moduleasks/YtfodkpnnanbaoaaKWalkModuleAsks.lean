/-
  The walk of the law ModuleAsks: it returns true for every two modules and name, and writes nothing that was there.
-/
import Derived.Test.YtfodkpnnanbaoaaKMd3
import Derived.Test.YtfodkpnnanbaoaaKMd6
import Derived.Test.YtfodkpnnanbaoaaShell
import Derived.Deep.MidRow
namespace Go.Proofs.Ytfodkpnnanbaoaa
open Go.RowKit

theorem box_rangeM {W : World} {g : Nat} {cs : Array Value} {t : TypeId} (h : W.heap[g]? = some (.cells cs t (0, 0))) : W.rangeAt g 0 cs.toList := fun j v hv => by
  have e := cell_of_row W g (0 + j) _ _ _ h
  rw [e, Nat.zero_add]
  simpa using hv
theorem con_map {α β : Type} [DecidableEq β] {c : α → β} {L M : List α} (hl : M.length = L.length) (h : ∀ (i : Nat) x y, L[i]? = some x → M[i]? = some y → c y = c x) : M.map c = L.map c := by
  have := eqL_yes (c := c) (L := M) (M := L) hl (fun i x y h1 h2 => h i y x h2 h1)
  unfold eqL at this
  exact eqOfDec this
theorem SameMd.T {x y : Md} (h : SameMd x y) : y.T.map clC = x.T.map clC := con_map h.tab.1 (fun i a b h1 h2 => by have := h.tab.2 i a b h1 h2; unfold clC; rw [this.nm, this.par, this.fs])
theorem SameMd.F {x y : Md} (h : SameMd x y) : y.F.map fnC = x.F.map fnC := con_map h.fns.1 (fun i a b h1 h2 => by have := h.fns.2 i a b h1 h2; unfold fnC sgC; rw [this.nm, this.sg.ps, this.sg.rt, this.lo, this.cd])
theorem SameMd.C {x y : Md} (h : SameMd x y) : y.C.map bsC = x.C.map bsC := con_map h.cts.1 (fun i a b h1 h2 => by have := h.cts.2 i a b h1 h2; unfold bsC; rw [this])
theorem mdEq_same {a b X Y : Md} (hx : SameMd a X) (hy : SameMd b Y) : mdEq X Y = mdEq a b := by
  unfold mdEq eqL
  rw [hx.nm, hy.nm, hx.T, hy.T, hx.F, hy.F, hx.C, hy.C]
theorem mdEq_self {a X : Md} (hx : SameMd a X) : mdEq a X = true := by
  unfold mdEq eqL
  rw [hx.nm, hx.T, hx.F, hx.C]
  simp
/-- Where a module's row of certificates does not lie. -/
def CoNe (k : Nat) (m : Md) : Prop := ∀ b off, m.co = some ⟨b, off, none⟩ → 0 < m.C.length → b ≠ k
theorem CoNe.lo {k B : Nat} {m : Md} (h : ∀ b off, m.co = some ⟨b, off, none⟩ → B ≤ b) (hk : k < B) : CoNe k m := fun b off e _ => by have := h b off e; omega
theorem CoNe.hi {W : World} {m : Md} (h : MdOk W m) : CoNe W.heap.size m := fun b off e hl => by
  obtain ⟨b', off', e', hc⟩ := h.cts 0 _ (List.getElem?_eq_getElem hl)
  rw [e] at e'
  injection e' with e'
  injection e' with e1 e2
  subst e1
  exact Nat.ne_of_lt (World.block_lt_of_cell? W _ hc.c0)
theorem MdOk.free {W W' : World} {m : Md} {k : Nat} (h : MdOk W m) (hg : W.grownBy W' (some k)) (hn : NoNum W k) (hc : CoNe k m) : MdOk W' m := by
  refine ⟨h.tab.noNum hg hn, h.tz, h.fns.noNum hg hn, h.fz, ?_, h.cz, h.name⟩
  intro i x hx
  obtain ⟨b, off, e, hb⟩ := h.cts i x hx
  have hi := (List.getElem?_eq_some_iff.1 hx).1
  have hne := hc b off e (by omega)
  have hl : b < W.heap.size := World.block_lt_of_cell? W _ hb.c0
  refine ⟨b, off, e, (hg.cell_far ⟨b, off + i, none⟩ hl (fun e => hne (by injection e))).trans hb.c0, ?_, hb.nil, hb.fit⟩
  intro j hj
  obtain ⟨b', off', e', h'⟩ := hb.code j hj
  exact ⟨b', off', e', (farK hg hn h' _).trans h'⟩
/-- The boxes of what is handed in. -/
structure LB (w W : World) (a b : Md) : Prop where
  a : Bx W w.heap.size 32 #[.string a.nm, .slice a.ao a.T.length a.cap, .slice a.fo a.F.length a.fc, .slice a.co a.C.length a.cc]
  b : Bx W (w.heap.size + 1) 32 #[.string b.nm, .slice b.ao b.T.length b.cap, .slice b.fo b.F.length b.fc, .slice b.co b.C.length b.cc]
  bel : Below w.heap.size w W
theorem LB.below {w W W' : World} {a b : Md} (h : LB w W a b) (hb : Below W.heap.size W W') : LB w W' a b := ⟨h.a.below hb, h.b.below hb, h.bel.trans (hb.mono h.bel.size)⟩
theorem LB.row {w W : World} {a b : Md} {g : Nat} (h : LB w W a b) (hg : w.heap.size + 1 < g) (cs : Array Value) : LB w (W.setRow g cs) a b :=
  ⟨(setRow_other W g _ cs (by omega)).trans h.a, (setRow_other W g _ cs (by omega)).trans h.b, below_setRow' h.bel (by omega) cs⟩
/-- The copies, too. -/
structure LQ (w W : World) (a b : Md) (g1 : Nat) (X : Md) (g2 : Nat) (Y : Md) : Prop where
  lb : LB w W a b
  x : Bx W g1 32 #[.string X.nm, .slice X.ao X.T.length X.cap, .slice X.fo X.F.length X.fc, .slice X.co X.C.length X.cc]
  y : Bx W g2 32 #[.string Y.nm, .slice Y.ao Y.T.length Y.cap, .slice Y.fo Y.F.length Y.fc, .slice Y.co Y.C.length Y.cc]
  mx : MdOk W X
  my : MdOk W Y
  sx : SameMd a X
  sy : SameMd b Y
theorem LQ.below {w W W' : World} {a b : Md} {g1 g2 : Nat} {X Y : Md} (h : LQ w W a b g1 X g2 Y) (hb : Below W.heap.size W W') : LQ w W' a b g1 X g2 Y := ⟨h.lb.below hb, h.x.below hb, h.y.below hb, h.mx.below hb, h.my.below hb, h.sx, h.sy⟩
theorem ask_fin {w W : World} {a b X Y : Md} {g1 g2 : Nat} (h : LB w W a b) (z1 : Bx W g1 32 #[.string ⟨#[]⟩, .slice none 0 0, .slice none 0 0, .slice none 0 0]) (z2 : Bx W g2 32 #[.string ⟨#[]⟩, .slice none 0 0, .slice none 0 0, .slice none 0 0]) (mx : MdOk W X) (my : MdOk W Y) (sx : SameMd a X) (sy : SameMd b Y) (hne : g1 ≠ g2) (h1 : w.heap.size + 1 < g1) (h2 : w.heap.size + 1 < g2) (c1 : CoNe g1 X) (c2 : CoNe g1 Y) (c3 : CoNe g2 X) (c4 : CoNe g2 Y) : LQ w ((W.setRow g1 #[.string X.nm, .slice X.ao X.T.length X.cap, .slice X.fo X.F.length X.fc, .slice X.co X.C.length X.cc]).setRow g2 #[.string Y.nm, .slice Y.ao Y.T.length Y.cap, .slice Y.fo Y.F.length Y.fc, .slice Y.co Y.C.length Y.cc]) a b g1 X g2 Y := by
  have b2 : Bx (W.setRow g1 #[.string X.nm, .slice X.ao X.T.length X.cap, .slice X.fo X.F.length X.fc, .slice X.co X.C.length X.cc]) g2 32 #[.string ⟨#[]⟩, .slice none 0 0, .slice none 0 0, .slice none 0 0] := (setRow_other W g1 g2 _ (fun e => hne e.symm)).trans z2
  have b1 : Bx (W.setRow g1 #[.string X.nm, .slice X.ao X.T.length X.cap, .slice X.fo X.F.length X.fc, .slice X.co X.C.length X.cc]) g1 32 #[.string X.nm, .slice X.ao X.T.length X.cap, .slice X.fo X.F.length X.fc, .slice X.co X.C.length X.cc] := setRow_heap _ _ _ _ _ _ z1
  have n1 := NoNum.of4 z1
  have n2 := NoNum.of4 b2
  have w1 := grown_row (W := W) g1 #[.string X.nm, .slice X.ao X.T.length X.cap, .slice X.fo X.F.length X.fc, .slice X.co X.C.length X.cc]
  have w2 := grown_row (W := W.setRow g1 #[.string X.nm, .slice X.ao X.T.length X.cap, .slice X.fo X.F.length X.fc, .slice X.co X.C.length X.cc]) g2 #[.string Y.nm, .slice Y.ao Y.T.length Y.cap, .slice Y.fo Y.F.length Y.fc, .slice Y.co Y.C.length Y.cc]
  exact ⟨(h.row h1 _).row h2 _, (setRow_other _ g2 g1 _ (fun e => hne e)).trans b1, setRow_heap _ _ _ _ _ _ b2, (mx.free w1 n1 c1).free w2 n2 c3, (my.free w1 n1 c2).free w2 n2 c4, sx, sy⟩

set_option maxRecDepth 20000 in
set_option maxHeartbeats 8000000 in
theorem walkModuleAsks {w : World} (a : Md) (ha : MdOk w a) (b : Md) (hb : MdOk w b) (s : ByteArray) (_hs : s.size ≤ maxLen) (_hz : s.size ≤ 140737488351232) :
    Calls Try.prog 4 #[.agg #[.string a.nm, .slice a.ao a.T.length a.cap, .slice a.fo a.F.length a.fc, .slice a.co a.C.length a.cc], .agg #[.string b.nm, .slice b.ao b.T.length b.cap, .slice b.fo b.F.length b.fc, .slice b.co b.C.length b.cc], .string s] w fun e w' => e = .returned (.bool true) ∧ Below w.heap.size w w' := by
  have al1 := (Below.refl w.heap.size w).alloc (Nat.le_refl _) (.cells #[.string a.nm, .slice a.ao a.T.length a.cap, .slice a.fo a.F.length a.fc, .slice a.co a.C.length a.cc] 32)
  have al := al1.alloc (by simp) (.cells #[.string b.nm, .slice b.ao b.T.length b.cap, .slice b.fo b.F.length b.fc, .slice b.co b.C.length b.cc] 32)
  have n1 := heap_alloc_new w (.cells #[.string a.nm, .slice a.ao a.T.length a.cap, .slice a.fo a.F.length a.fc, .slice a.co a.C.length a.cc] 32)
  have n2 := heap_alloc_new (w.alloc (.cells #[.string a.nm, .slice a.ao a.T.length a.cap, .slice a.fo a.F.length a.fc, .slice a.co a.C.length a.cc] 32)) (.cells #[.string b.nm, .slice b.ao b.T.length b.cap, .slice b.fo b.F.length b.fc, .slice b.co b.C.length b.cc] 32)
  rw [World.size_alloc] at n2
  have HX : Hid (LB w ((w.alloc (.cells #[.string a.nm, .slice a.ao a.T.length a.cap, .slice a.fo a.F.length a.fc, .slice a.co a.C.length a.cc] 32)).alloc (.cells #[.string b.nm, .slice b.ao b.T.length b.cap, .slice b.fo b.F.length b.fc, .slice b.co b.C.length b.cc] 32)) a b) := hide ⟨(((Below.refl _ _).alloc (Nat.le_refl _) _).block w.heap.size (by simp)).trans n1, n2, al⟩
  have HA := hide ha
  have HBB := hide hb
  clear al1 al n1 n2 ha hb
  go_enter Try.func4, Try.ntmps4
  go_upto_region 1 with fail
  generalize ((w.alloc (.cells #[.string a.nm, .slice a.ao a.T.length a.cap, .slice a.fo a.F.length a.fc, .slice a.co a.C.length a.cc] 32)).alloc (.cells #[.string b.nm, .slice b.ao b.T.length b.cap, .slice b.fo b.F.length b.fc, .slice b.co b.C.length b.cc] 32)) = W1 at HX ⊢
  have k0 := (unhide HX).a.c 0 rfl
  have k1 := (unhide HX).a.c 1 rfl
  have k2 := (unhide HX).a.c 2 rfl
  have k3 := (unhide HX).a.c 3 rfl
  have HF := hide (Entry_any a s W1 ((unhide HA).below (unhide HX).bel).fns (unhide HA).fz)
  go_wp2_with fail
  refine (unhide HF).mono ?_
  rintro e W2 ⟨rfl, hb2⟩
  have HX2 := hide ((unhide HX).below hb2)
  clear k0 k1 k2 k3 HF HX hb2
  have k0 := (unhide HX2).a.c 0 rfl
  have k1 := (unhide HX2).a.c 1 rfl
  have k2 := (unhide HX2).a.c 2 rfl
  have k3 := (unhide HX2).a.c 3 rfl
  have HF := hide (refEntry_any a s W2 ((unhide HA).below (unhide HX2).bel).fns (unhide HA).fz)
  go_wp2_with fail
  refine (unhide HF).mono ?_
  rintro e W3 ⟨rfl, hb3⟩
  have HX3 := hide ((unhide HX2).below hb3)
  clear k0 k1 k2 k3 HF HX2 hb3
  generalize entN a.F s = en
  generalize entB a.F s = eb
  have t1 : (((en : Nat) : Int) != ((en : Nat) : Int)) = false := by simp
  have t2 : (eb != eb) = false := by simp
  go_upto_region 5 with fail
  clear t1 t2
  go_cut [11, 12] (fun s11 s12 wx => ∃ g1 g2 X Y, s11 = .pointer (some ⟨g1, 0, none⟩) ∧ s12 = .pointer (some ⟨g2, 0, none⟩) ∧ Hid (LQ w wx a b g1 X g2 Y))
  case first =>
    have HX301 := hide ((unhide HX3).below (below_drew W3 1))
    refine wp_region_held_drew (S := fun w' => LB w w' a b) (by kernel_rfl) (unhide HX301) (fun hS303 => ?_)
    clear HX3
    generalize hWd : W3.drewN 1 = W302 at HX301
    change W3.drew = W302 at hWd
    rw [hWd] at hS303 ⊢
    clear hWd
    refine wpAnyH_take (i := 0) (v := .agg #[.string a.nm, .slice a.ao a.T.length a.cap, .slice a.fo a.F.length a.fc, .slice a.co a.C.length a.cc]) rfl (by kernel_rfl) (by kernel_rfl) (by kernel_rfl) (fun _ _ _ h => h) (yieldsIf_load_mid (by rfl) 32 _ rfl (w.heap.size) 0 rfl _ _ (fun _ h => box_rangeM (h.a)) Try.underlying32 rfl (by kernel_rfl)) hS303 ?_
    refine wpAnyH_take (i := 2) (v := .agg #[.string b.nm, .slice b.ao b.T.length b.cap, .slice b.fo b.F.length b.fc, .slice b.co b.C.length b.cc]) rfl (by kernel_rfl) (by kernel_rfl) (by kernel_rfl) (fun _ _ _ h => h) (yieldsIf_load_mid (by rfl) 32 _ rfl (w.heap.size + 1) 0 rfl _ _ (fun _ h => box_rangeM (h.b)) Try.underlying32 rfl (by kernel_rfl)) hS303 ?_
    refine wpAnyH_ready (rs := [1, 4, 5]) (by kernel_rfl) (by simp) ?_
    refine (AllReadyH.cons rfl (fun K hK => ?_) (AllReadyH.cons rfl (fun K hK => ?_) (AllReadyH.cons rfl (fun K hK => ?_) AllReadyH.nil)))
    · go_simp
      go_wp2_with (go_at_call 11; refine (Module_any a W302 ((unhide HA).below (unhide HX301).bel)).mono ?_; rintro e W304 ⟨X, rfl, hmk, hsm, hcp, hco, hB305⟩)
      have HX306 := hide ((unhide HX301).below hB305)
      have HM_X := hide hmk
      have HS_X := hide hsm
      clear hmk hsm hcp hco
      refine hK.out _ _ (unhide HX306) (fun hS307 => ?_)
      clear hK K hS303 HX301 hB305
      refine wpAnyH_ready (rs := [3, 4, 5]) (by kernel_rfl) (by simp) ?_
      refine (AllReadyH.cons rfl (fun K hK => ?_) (AllReadyH.cons rfl (fun K hK => ?_) (AllReadyH.cons rfl (fun K hK => ?_) AllReadyH.nil)))
      · go_simp
        go_wp2_with (go_at_call 11; refine (Module_any b W304 ((unhide HBB).below (unhide HX306).bel)).mono ?_; rintro e W308 ⟨Y, rfl, hmk, hsm, hcp, hco, hB309⟩)
        have HX310 := hide ((unhide HX306).below hB309)
        have HM311 := hide ((unhide HM_X).below hB309)
        have HM_Y := hide hmk
        have HS_Y := hide hsm
        clear hmk hsm hcp hco
        refine hK.out _ _ (unhide HX310) (fun hS312 => ?_)
        clear hK K hS307 HX306 HM_X hB309
        refine wpAnyH_ready (rs := [4, 5]) (by kernel_rfl) (by simp) ?_
        refine (AllReadyH.cons rfl (fun K hK => ?_) (AllReadyH.cons rfl (fun K hK => ?_) AllReadyH.nil))
        · go_simp
          have hal : Below W308.heap.size W308 (W308.alloc (.cells #[.string ⟨#[]⟩, .slice none 0 0, .slice none 0 0, .slice none 0 0] 32)) := (Below.refl _ _).alloc (Nat.le_refl _) _
          have gt_g_1 : w.heap.size + 1 < W308.heap.size := (unhide HX310).b.lt
          have CN_g_1_X : Hid (CoNe W308.heap.size X) := hide (CoNe.hi (unhide HM311))
          have CN_g_1_Y : Hid (CoNe W308.heap.size Y) := hide (CoNe.hi (unhide HM_Y))
          have HX313 := hide ((unhide HX310).below hal)
          have HM314 := hide ((unhide HM311).below hal)
          have HM315 := hide ((unhide HM_Y).below hal)
          have HZ316 : Hid (Bx (W308.alloc (.cells #[.string ⟨#[]⟩, .slice none 0 0, .slice none 0 0, .slice none 0 0] 32)) W308.heap.size 32 #[.string ⟨#[]⟩, .slice none 0 0, .slice none 0 0, .slice none 0 0]) := hide (heap_alloc_new W308 _)
          refine hK.out _ _ (unhide HX313) (fun hS317 => ?_)
          clear hK K hS312 HX310 HM311 HM_Y hal
          generalize (W308.alloc (.cells #[.string ⟨#[]⟩, .slice none 0 0, .slice none 0 0, .slice none 0 0] 32)) = W318 at HX313 HM314 HM315 HZ316 hS317 ⊢
          generalize W308.heap.size = g_1 at HZ316 gt_g_1 CN_g_1_X CN_g_1_Y ⊢
          refine wpAnyH_ready (rs := [5]) (by kernel_rfl) (by simp) ?_
          refine AllReadyH.cons rfl (fun K hK => ?_) AllReadyH.nil
          go_simp
          have hal : Below W318.heap.size W318 (W318.alloc (.cells #[.string ⟨#[]⟩, .slice none 0 0, .slice none 0 0, .slice none 0 0] 32)) := (Below.refl _ _).alloc (Nat.le_refl _) _
          have gt_g_2 : w.heap.size + 1 < W318.heap.size := (unhide HX313).b.lt
          have CN_g_2_X : Hid (CoNe W318.heap.size X) := hide (CoNe.hi (unhide HM314))
          have CN_g_2_Y : Hid (CoNe W318.heap.size Y) := hide (CoNe.hi (unhide HM315))
          have ne_g_1_g_2 : g_1 < W318.heap.size := (unhide HZ316).lt
          have HX319 := hide ((unhide HX313).below hal)
          have HM320 := hide ((unhide HM314).below hal)
          have HM321 := hide ((unhide HM315).below hal)
          have HZ322 := hide ((unhide HZ316).below hal)
          have HZ323 : Hid (Bx (W318.alloc (.cells #[.string ⟨#[]⟩, .slice none 0 0, .slice none 0 0, .slice none 0 0] 32)) W318.heap.size 32 #[.string ⟨#[]⟩, .slice none 0 0, .slice none 0 0, .slice none 0 0]) := hide (heap_alloc_new W318 _)
          refine hK.out _ _ (unhide HX319) (fun hS324 => ?_)
          clear hK K hS317 HX313 HM314 HM315 HZ316 hal
          generalize (W318.alloc (.cells #[.string ⟨#[]⟩, .slice none 0 0, .slice none 0 0, .slice none 0 0] 32)) = W325 at HX319 HM320 HM321 HZ322 HZ323 hS324 ⊢
          generalize W318.heap.size = g_2 at HZ323 gt_g_2 CN_g_2_X CN_g_2_Y ne_g_1_g_2 ⊢
          have hne : g_1 ≠ g_2 := by omega
          have HFIN := hide (ask_fin (unhide HX319) (unhide HZ322) (unhide HZ323) (unhide HM320) (unhide HM321) (unhide HS_X) (unhide HS_Y) hne gt_g_1 gt_g_2 (unhide CN_g_1_X) (unhide CN_g_1_Y) (unhide CN_g_2_X) (unhide CN_g_2_Y))
          refine wpAnyH_ready (rs := [6]) (by kernel_rfl) (by simp) ?_
          refine AllReadyH.cons rfl (fun K hK => ?_) AllReadyH.nil
          rw [if_pos (by rfl)]
          refine wp_store_row 32 _ _ rfl g_1 #[.string X.nm, .slice X.ao X.T.length X.cap, .slice X.fo X.F.length X.fc, .slice X.co X.C.length X.cc] rfl rfl 32 #[.string ⟨#[]⟩, .slice none 0 0, .slice none 0 0, .slice none 0 0] (unhide HZ322) (by kernel_rfl) rfl (by simp [Value.oneCell']) ?_
          have HX7 := hide ((unhide HX319).row gt_g_1 #[.string X.nm, .slice X.ao X.T.length X.cap, .slice X.fo X.F.length X.fc, .slice X.co X.C.length X.cc])
          have HZ7 : Hid (Bx (W325.setRow g_1 #[.string X.nm, .slice X.ao X.T.length X.cap, .slice X.fo X.F.length X.fc, .slice X.co X.C.length X.cc]) g_2 32 #[.string ⟨#[]⟩, .slice none 0 0, .slice none 0 0, .slice none 0 0]) := hide ((setRow_other W325 g_1 g_2 _ (fun e => hne e.symm)).trans (unhide HZ323))
          refine hK.out _ _ (unhide HX7) (fun hS326 => ?_)
          clear hK K hS324  
          generalize W325.setRow g_1 #[.string X.nm, .slice X.ao X.T.length X.cap, .slice X.fo X.F.length X.fc, .slice X.co X.C.length X.cc] = W8 at HX7 HZ7 HFIN hS326 ⊢
          refine wpAnyH_ready (rs := [7]) (by kernel_rfl) (by simp) ?_
          refine AllReadyH.cons rfl (fun K hK => ?_) AllReadyH.nil
          rw [if_pos (by rfl)]
          refine wp_store_row 32 _ _ rfl g_2 #[.string Y.nm, .slice Y.ao Y.T.length Y.cap, .slice Y.fo Y.F.length Y.fc, .slice Y.co Y.C.length Y.cc] rfl rfl 32 #[.string ⟨#[]⟩, .slice none 0 0, .slice none 0 0, .slice none 0 0] (unhide HZ7) (by kernel_rfl) rfl (by simp [Value.oneCell']) ?_
          refine hK.out _ _ ((unhide HX7).row gt_g_2 #[.string Y.nm, .slice Y.ao Y.T.length Y.cap, .slice Y.fo Y.F.length Y.fc, .slice Y.co Y.C.length Y.cc]) (fun hS9 => ?_)
          clear hK K
          refine wpAnyH_done (by kernel_rfl) ?_ _
          go_wp2_with fail
          go_meet
          exact ⟨g_1, g_2, X, Y, rfl, rfl, HFIN⟩
        · go_simp
          have hal : Below W308.heap.size W308 (W308.alloc (.cells #[.string ⟨#[]⟩, .slice none 0 0, .slice none 0 0, .slice none 0 0] 32)) := (Below.refl _ _).alloc (Nat.le_refl _) _
          have gt_g_2 : w.heap.size + 1 < W308.heap.size := (unhide HX310).b.lt
          have CN_g_2_X : Hid (CoNe W308.heap.size X) := hide (CoNe.hi (unhide HM311))
          have CN_g_2_Y : Hid (CoNe W308.heap.size Y) := hide (CoNe.hi (unhide HM_Y))
          have HX327 := hide ((unhide HX310).below hal)
          have HM328 := hide ((unhide HM311).below hal)
          have HM329 := hide ((unhide HM_Y).below hal)
          have HZ330 : Hid (Bx (W308.alloc (.cells #[.string ⟨#[]⟩, .slice none 0 0, .slice none 0 0, .slice none 0 0] 32)) W308.heap.size 32 #[.string ⟨#[]⟩, .slice none 0 0, .slice none 0 0, .slice none 0 0]) := hide (heap_alloc_new W308 _)
          refine hK.out _ _ (unhide HX327) (fun hS331 => ?_)
          clear hK K hS312 HX310 HM311 HM_Y hal
          generalize (W308.alloc (.cells #[.string ⟨#[]⟩, .slice none 0 0, .slice none 0 0, .slice none 0 0] 32)) = W332 at HX327 HM328 HM329 HZ330 hS331 ⊢
          generalize W308.heap.size = g_2 at HZ330 gt_g_2 CN_g_2_X CN_g_2_Y ⊢
          refine wpAnyH_ready (rs := [4]) (by kernel_rfl) (by simp) ?_
          refine AllReadyH.cons rfl (fun K hK => ?_) AllReadyH.nil
          go_simp
          have hal : Below W332.heap.size W332 (W332.alloc (.cells #[.string ⟨#[]⟩, .slice none 0 0, .slice none 0 0, .slice none 0 0] 32)) := (Below.refl _ _).alloc (Nat.le_refl _) _
          have gt_g_1 : w.heap.size + 1 < W332.heap.size := (unhide HX327).b.lt
          have CN_g_1_X : Hid (CoNe W332.heap.size X) := hide (CoNe.hi (unhide HM328))
          have CN_g_1_Y : Hid (CoNe W332.heap.size Y) := hide (CoNe.hi (unhide HM329))
          have ne_g_2_g_1 : g_2 < W332.heap.size := (unhide HZ330).lt
          have HX333 := hide ((unhide HX327).below hal)
          have HM334 := hide ((unhide HM328).below hal)
          have HM335 := hide ((unhide HM329).below hal)
          have HZ336 := hide ((unhide HZ330).below hal)
          have HZ337 : Hid (Bx (W332.alloc (.cells #[.string ⟨#[]⟩, .slice none 0 0, .slice none 0 0, .slice none 0 0] 32)) W332.heap.size 32 #[.string ⟨#[]⟩, .slice none 0 0, .slice none 0 0, .slice none 0 0]) := hide (heap_alloc_new W332 _)
          refine hK.out _ _ (unhide HX333) (fun hS338 => ?_)
          clear hK K hS331 HX327 HM328 HM329 HZ330 hal
          generalize (W332.alloc (.cells #[.string ⟨#[]⟩, .slice none 0 0, .slice none 0 0, .slice none 0 0] 32)) = W339 at HX333 HM334 HM335 HZ336 HZ337 hS338 ⊢
          generalize W332.heap.size = g_1 at HZ337 gt_g_1 CN_g_1_X CN_g_1_Y ne_g_2_g_1 ⊢
          have hne : g_1 ≠ g_2 := by omega
          have HFIN := hide (ask_fin (unhide HX333) (unhide HZ337) (unhide HZ336) (unhide HM334) (unhide HM335) (unhide HS_X) (unhide HS_Y) hne gt_g_1 gt_g_2 (unhide CN_g_1_X) (unhide CN_g_1_Y) (unhide CN_g_2_X) (unhide CN_g_2_Y))
          refine wpAnyH_ready (rs := [6]) (by kernel_rfl) (by simp) ?_
          refine AllReadyH.cons rfl (fun K hK => ?_) AllReadyH.nil
          rw [if_pos (by rfl)]
          refine wp_store_row 32 _ _ rfl g_1 #[.string X.nm, .slice X.ao X.T.length X.cap, .slice X.fo X.F.length X.fc, .slice X.co X.C.length X.cc] rfl rfl 32 #[.string ⟨#[]⟩, .slice none 0 0, .slice none 0 0, .slice none 0 0] (unhide HZ337) (by kernel_rfl) rfl (by simp [Value.oneCell']) ?_
          have HX7 := hide ((unhide HX333).row gt_g_1 #[.string X.nm, .slice X.ao X.T.length X.cap, .slice X.fo X.F.length X.fc, .slice X.co X.C.length X.cc])
          have HZ7 : Hid (Bx (W339.setRow g_1 #[.string X.nm, .slice X.ao X.T.length X.cap, .slice X.fo X.F.length X.fc, .slice X.co X.C.length X.cc]) g_2 32 #[.string ⟨#[]⟩, .slice none 0 0, .slice none 0 0, .slice none 0 0]) := hide ((setRow_other W339 g_1 g_2 _ (fun e => hne e.symm)).trans (unhide HZ336))
          refine hK.out _ _ (unhide HX7) (fun hS340 => ?_)
          clear hK K hS338  
          generalize W339.setRow g_1 #[.string X.nm, .slice X.ao X.T.length X.cap, .slice X.fo X.F.length X.fc, .slice X.co X.C.length X.cc] = W8 at HX7 HZ7 HFIN hS340 ⊢
          refine wpAnyH_ready (rs := [7]) (by kernel_rfl) (by simp) ?_
          refine AllReadyH.cons rfl (fun K hK => ?_) AllReadyH.nil
          rw [if_pos (by rfl)]
          refine wp_store_row 32 _ _ rfl g_2 #[.string Y.nm, .slice Y.ao Y.T.length Y.cap, .slice Y.fo Y.F.length Y.fc, .slice Y.co Y.C.length Y.cc] rfl rfl 32 #[.string ⟨#[]⟩, .slice none 0 0, .slice none 0 0, .slice none 0 0] (unhide HZ7) (by kernel_rfl) rfl (by simp [Value.oneCell']) ?_
          refine hK.out _ _ ((unhide HX7).row gt_g_2 #[.string Y.nm, .slice Y.ao Y.T.length Y.cap, .slice Y.fo Y.F.length Y.fc, .slice Y.co Y.C.length Y.cc]) (fun hS9 => ?_)
          clear hK K
          refine wpAnyH_done (by kernel_rfl) ?_ _
          go_wp2_with fail
          go_meet
          exact ⟨g_1, g_2, X, Y, rfl, rfl, HFIN⟩
      · go_simp
        have hal : Below W304.heap.size W304 (W304.alloc (.cells #[.string ⟨#[]⟩, .slice none 0 0, .slice none 0 0, .slice none 0 0] 32)) := (Below.refl _ _).alloc (Nat.le_refl _) _
        have gt_g_1 : w.heap.size + 1 < W304.heap.size := (unhide HX306).b.lt
        have CN_g_1_X : Hid (CoNe W304.heap.size X) := hide (CoNe.hi (unhide HM_X))
        have HX341 := hide ((unhide HX306).below hal)
        have HM342 := hide ((unhide HM_X).below hal)
        have HZ343 : Hid (Bx (W304.alloc (.cells #[.string ⟨#[]⟩, .slice none 0 0, .slice none 0 0, .slice none 0 0] 32)) W304.heap.size 32 #[.string ⟨#[]⟩, .slice none 0 0, .slice none 0 0, .slice none 0 0]) := hide (heap_alloc_new W304 _)
        refine hK.out _ _ (unhide HX341) (fun hS344 => ?_)
        clear hK K hS307 HX306 HM_X hal
        generalize (W304.alloc (.cells #[.string ⟨#[]⟩, .slice none 0 0, .slice none 0 0, .slice none 0 0] 32)) = W345 at HX341 HM342 HZ343 hS344 ⊢
        generalize W304.heap.size = g_1 at HZ343 gt_g_1 CN_g_1_X ⊢
        refine wpAnyH_ready (rs := [3, 5]) (by kernel_rfl) (by simp) ?_
        refine (AllReadyH.cons rfl (fun K hK => ?_) (AllReadyH.cons rfl (fun K hK => ?_) AllReadyH.nil))
        · go_simp
          go_wp2_with (go_at_call 11; refine (Module_any b W345 ((unhide HBB).below (unhide HX341).bel)).mono ?_; rintro e W346 ⟨Y, rfl, hmk, hsm, hcp, hco, hB347⟩)
          have CN_g_1_Y : Hid (CoNe g_1 Y) := hide (CoNe.lo hco (unhide HZ343).lt)
          have HX348 := hide ((unhide HX341).below hB347)
          have HM349 := hide ((unhide HM342).below hB347)
          have HZ350 := hide ((unhide HZ343).below hB347)
          have HM_Y := hide hmk
          have HS_Y := hide hsm
          clear hmk hsm hcp hco
          refine hK.out _ _ (unhide HX348) (fun hS351 => ?_)
          clear hK K hS344 HX341 HM342 HZ343 hB347
          refine wpAnyH_ready (rs := [5]) (by kernel_rfl) (by simp) ?_
          refine AllReadyH.cons rfl (fun K hK => ?_) AllReadyH.nil
          go_simp
          have hal : Below W346.heap.size W346 (W346.alloc (.cells #[.string ⟨#[]⟩, .slice none 0 0, .slice none 0 0, .slice none 0 0] 32)) := (Below.refl _ _).alloc (Nat.le_refl _) _
          have gt_g_2 : w.heap.size + 1 < W346.heap.size := (unhide HX348).b.lt
          have CN_g_2_X : Hid (CoNe W346.heap.size X) := hide (CoNe.hi (unhide HM349))
          have CN_g_2_Y : Hid (CoNe W346.heap.size Y) := hide (CoNe.hi (unhide HM_Y))
          have ne_g_1_g_2 : g_1 < W346.heap.size := (unhide HZ350).lt
          have HX352 := hide ((unhide HX348).below hal)
          have HM353 := hide ((unhide HM349).below hal)
          have HM354 := hide ((unhide HM_Y).below hal)
          have HZ355 := hide ((unhide HZ350).below hal)
          have HZ356 : Hid (Bx (W346.alloc (.cells #[.string ⟨#[]⟩, .slice none 0 0, .slice none 0 0, .slice none 0 0] 32)) W346.heap.size 32 #[.string ⟨#[]⟩, .slice none 0 0, .slice none 0 0, .slice none 0 0]) := hide (heap_alloc_new W346 _)
          refine hK.out _ _ (unhide HX352) (fun hS357 => ?_)
          clear hK K hS351 HX348 HM349 HM_Y HZ350 hal
          generalize (W346.alloc (.cells #[.string ⟨#[]⟩, .slice none 0 0, .slice none 0 0, .slice none 0 0] 32)) = W358 at HX352 HM353 HM354 HZ355 HZ356 hS357 ⊢
          generalize W346.heap.size = g_2 at HZ356 gt_g_2 CN_g_2_X CN_g_2_Y ne_g_1_g_2 ⊢
          have hne : g_1 ≠ g_2 := by omega
          have HFIN := hide (ask_fin (unhide HX352) (unhide HZ355) (unhide HZ356) (unhide HM353) (unhide HM354) (unhide HS_X) (unhide HS_Y) hne gt_g_1 gt_g_2 (unhide CN_g_1_X) (unhide CN_g_1_Y) (unhide CN_g_2_X) (unhide CN_g_2_Y))
          refine wpAnyH_ready (rs := [6]) (by kernel_rfl) (by simp) ?_
          refine AllReadyH.cons rfl (fun K hK => ?_) AllReadyH.nil
          rw [if_pos (by rfl)]
          refine wp_store_row 32 _ _ rfl g_1 #[.string X.nm, .slice X.ao X.T.length X.cap, .slice X.fo X.F.length X.fc, .slice X.co X.C.length X.cc] rfl rfl 32 #[.string ⟨#[]⟩, .slice none 0 0, .slice none 0 0, .slice none 0 0] (unhide HZ355) (by kernel_rfl) rfl (by simp [Value.oneCell']) ?_
          have HX7 := hide ((unhide HX352).row gt_g_1 #[.string X.nm, .slice X.ao X.T.length X.cap, .slice X.fo X.F.length X.fc, .slice X.co X.C.length X.cc])
          have HZ7 : Hid (Bx (W358.setRow g_1 #[.string X.nm, .slice X.ao X.T.length X.cap, .slice X.fo X.F.length X.fc, .slice X.co X.C.length X.cc]) g_2 32 #[.string ⟨#[]⟩, .slice none 0 0, .slice none 0 0, .slice none 0 0]) := hide ((setRow_other W358 g_1 g_2 _ (fun e => hne e.symm)).trans (unhide HZ356))
          refine hK.out _ _ (unhide HX7) (fun hS359 => ?_)
          clear hK K hS357  
          generalize W358.setRow g_1 #[.string X.nm, .slice X.ao X.T.length X.cap, .slice X.fo X.F.length X.fc, .slice X.co X.C.length X.cc] = W8 at HX7 HZ7 HFIN hS359 ⊢
          refine wpAnyH_ready (rs := [7]) (by kernel_rfl) (by simp) ?_
          refine AllReadyH.cons rfl (fun K hK => ?_) AllReadyH.nil
          rw [if_pos (by rfl)]
          refine wp_store_row 32 _ _ rfl g_2 #[.string Y.nm, .slice Y.ao Y.T.length Y.cap, .slice Y.fo Y.F.length Y.fc, .slice Y.co Y.C.length Y.cc] rfl rfl 32 #[.string ⟨#[]⟩, .slice none 0 0, .slice none 0 0, .slice none 0 0] (unhide HZ7) (by kernel_rfl) rfl (by simp [Value.oneCell']) ?_
          refine hK.out _ _ ((unhide HX7).row gt_g_2 #[.string Y.nm, .slice Y.ao Y.T.length Y.cap, .slice Y.fo Y.F.length Y.fc, .slice Y.co Y.C.length Y.cc]) (fun hS9 => ?_)
          clear hK K
          refine wpAnyH_done (by kernel_rfl) ?_ _
          go_wp2_with fail
          go_meet
          exact ⟨g_1, g_2, X, Y, rfl, rfl, HFIN⟩
        · go_simp
          have hal : Below W345.heap.size W345 (W345.alloc (.cells #[.string ⟨#[]⟩, .slice none 0 0, .slice none 0 0, .slice none 0 0] 32)) := (Below.refl _ _).alloc (Nat.le_refl _) _
          have gt_g_2 : w.heap.size + 1 < W345.heap.size := (unhide HX341).b.lt
          have CN_g_2_X : Hid (CoNe W345.heap.size X) := hide (CoNe.hi (unhide HM342))
          have ne_g_1_g_2 : g_1 < W345.heap.size := (unhide HZ343).lt
          have HX360 := hide ((unhide HX341).below hal)
          have HM361 := hide ((unhide HM342).below hal)
          have HZ362 := hide ((unhide HZ343).below hal)
          have HZ363 : Hid (Bx (W345.alloc (.cells #[.string ⟨#[]⟩, .slice none 0 0, .slice none 0 0, .slice none 0 0] 32)) W345.heap.size 32 #[.string ⟨#[]⟩, .slice none 0 0, .slice none 0 0, .slice none 0 0]) := hide (heap_alloc_new W345 _)
          refine hK.out _ _ (unhide HX360) (fun hS364 => ?_)
          clear hK K hS344 HX341 HM342 HZ343 hal
          generalize (W345.alloc (.cells #[.string ⟨#[]⟩, .slice none 0 0, .slice none 0 0, .slice none 0 0] 32)) = W365 at HX360 HM361 HZ362 HZ363 hS364 ⊢
          generalize W345.heap.size = g_2 at HZ363 gt_g_2 CN_g_2_X ne_g_1_g_2 ⊢
          refine wpAnyH_ready (rs := [3]) (by kernel_rfl) (by simp) ?_
          refine AllReadyH.cons rfl (fun K hK => ?_) AllReadyH.nil
          go_simp
          go_wp2_with (go_at_call 11; refine (Module_any b W365 ((unhide HBB).below (unhide HX360).bel)).mono ?_; rintro e W366 ⟨Y, rfl, hmk, hsm, hcp, hco, hB367⟩)
          have CN_g_1_Y : Hid (CoNe g_1 Y) := hide (CoNe.lo hco (unhide HZ362).lt)
          have CN_g_2_Y : Hid (CoNe g_2 Y) := hide (CoNe.lo hco (unhide HZ363).lt)
          have HX368 := hide ((unhide HX360).below hB367)
          have HM369 := hide ((unhide HM361).below hB367)
          have HZ370 := hide ((unhide HZ362).below hB367)
          have HZ371 := hide ((unhide HZ363).below hB367)
          have HM_Y := hide hmk
          have HS_Y := hide hsm
          clear hmk hsm hcp hco
          refine hK.out _ _ (unhide HX368) (fun hS372 => ?_)
          clear hK K hS364 HX360 HM361 HZ362 HZ363 hB367
          have hne : g_1 ≠ g_2 := by omega
          have HFIN := hide (ask_fin (unhide HX368) (unhide HZ370) (unhide HZ371) (unhide HM369) (unhide HM_Y) (unhide HS_X) (unhide HS_Y) hne gt_g_1 gt_g_2 (unhide CN_g_1_X) (unhide CN_g_1_Y) (unhide CN_g_2_X) (unhide CN_g_2_Y))
          refine wpAnyH_ready (rs := [6]) (by kernel_rfl) (by simp) ?_
          refine AllReadyH.cons rfl (fun K hK => ?_) AllReadyH.nil
          rw [if_pos (by rfl)]
          refine wp_store_row 32 _ _ rfl g_1 #[.string X.nm, .slice X.ao X.T.length X.cap, .slice X.fo X.F.length X.fc, .slice X.co X.C.length X.cc] rfl rfl 32 #[.string ⟨#[]⟩, .slice none 0 0, .slice none 0 0, .slice none 0 0] (unhide HZ370) (by kernel_rfl) rfl (by simp [Value.oneCell']) ?_
          have HX7 := hide ((unhide HX368).row gt_g_1 #[.string X.nm, .slice X.ao X.T.length X.cap, .slice X.fo X.F.length X.fc, .slice X.co X.C.length X.cc])
          have HZ7 : Hid (Bx (W366.setRow g_1 #[.string X.nm, .slice X.ao X.T.length X.cap, .slice X.fo X.F.length X.fc, .slice X.co X.C.length X.cc]) g_2 32 #[.string ⟨#[]⟩, .slice none 0 0, .slice none 0 0, .slice none 0 0]) := hide ((setRow_other W366 g_1 g_2 _ (fun e => hne e.symm)).trans (unhide HZ371))
          refine hK.out _ _ (unhide HX7) (fun hS373 => ?_)
          clear hK K hS372  
          generalize W366.setRow g_1 #[.string X.nm, .slice X.ao X.T.length X.cap, .slice X.fo X.F.length X.fc, .slice X.co X.C.length X.cc] = W8 at HX7 HZ7 HFIN hS373 ⊢
          refine wpAnyH_ready (rs := [7]) (by kernel_rfl) (by simp) ?_
          refine AllReadyH.cons rfl (fun K hK => ?_) AllReadyH.nil
          rw [if_pos (by rfl)]
          refine wp_store_row 32 _ _ rfl g_2 #[.string Y.nm, .slice Y.ao Y.T.length Y.cap, .slice Y.fo Y.F.length Y.fc, .slice Y.co Y.C.length Y.cc] rfl rfl 32 #[.string ⟨#[]⟩, .slice none 0 0, .slice none 0 0, .slice none 0 0] (unhide HZ7) (by kernel_rfl) rfl (by simp [Value.oneCell']) ?_
          refine hK.out _ _ ((unhide HX7).row gt_g_2 #[.string Y.nm, .slice Y.ao Y.T.length Y.cap, .slice Y.fo Y.F.length Y.fc, .slice Y.co Y.C.length Y.cc]) (fun hS9 => ?_)
          clear hK K
          refine wpAnyH_done (by kernel_rfl) ?_ _
          go_wp2_with fail
          go_meet
          exact ⟨g_1, g_2, X, Y, rfl, rfl, HFIN⟩
      · go_simp
        have hal : Below W304.heap.size W304 (W304.alloc (.cells #[.string ⟨#[]⟩, .slice none 0 0, .slice none 0 0, .slice none 0 0] 32)) := (Below.refl _ _).alloc (Nat.le_refl _) _
        have gt_g_2 : w.heap.size + 1 < W304.heap.size := (unhide HX306).b.lt
        have CN_g_2_X : Hid (CoNe W304.heap.size X) := hide (CoNe.hi (unhide HM_X))
        have HX374 := hide ((unhide HX306).below hal)
        have HM375 := hide ((unhide HM_X).below hal)
        have HZ376 : Hid (Bx (W304.alloc (.cells #[.string ⟨#[]⟩, .slice none 0 0, .slice none 0 0, .slice none 0 0] 32)) W304.heap.size 32 #[.string ⟨#[]⟩, .slice none 0 0, .slice none 0 0, .slice none 0 0]) := hide (heap_alloc_new W304 _)
        refine hK.out _ _ (unhide HX374) (fun hS377 => ?_)
        clear hK K hS307 HX306 HM_X hal
        generalize (W304.alloc (.cells #[.string ⟨#[]⟩, .slice none 0 0, .slice none 0 0, .slice none 0 0] 32)) = W378 at HX374 HM375 HZ376 hS377 ⊢
        generalize W304.heap.size = g_2 at HZ376 gt_g_2 CN_g_2_X ⊢
        refine wpAnyH_ready (rs := [3, 4]) (by kernel_rfl) (by simp) ?_
        refine (AllReadyH.cons rfl (fun K hK => ?_) (AllReadyH.cons rfl (fun K hK => ?_) AllReadyH.nil))
        · go_simp
          go_wp2_with (go_at_call 11; refine (Module_any b W378 ((unhide HBB).below (unhide HX374).bel)).mono ?_; rintro e W379 ⟨Y, rfl, hmk, hsm, hcp, hco, hB380⟩)
          have CN_g_2_Y : Hid (CoNe g_2 Y) := hide (CoNe.lo hco (unhide HZ376).lt)
          have HX381 := hide ((unhide HX374).below hB380)
          have HM382 := hide ((unhide HM375).below hB380)
          have HZ383 := hide ((unhide HZ376).below hB380)
          have HM_Y := hide hmk
          have HS_Y := hide hsm
          clear hmk hsm hcp hco
          refine hK.out _ _ (unhide HX381) (fun hS384 => ?_)
          clear hK K hS377 HX374 HM375 HZ376 hB380
          refine wpAnyH_ready (rs := [4]) (by kernel_rfl) (by simp) ?_
          refine AllReadyH.cons rfl (fun K hK => ?_) AllReadyH.nil
          go_simp
          have hal : Below W379.heap.size W379 (W379.alloc (.cells #[.string ⟨#[]⟩, .slice none 0 0, .slice none 0 0, .slice none 0 0] 32)) := (Below.refl _ _).alloc (Nat.le_refl _) _
          have gt_g_1 : w.heap.size + 1 < W379.heap.size := (unhide HX381).b.lt
          have CN_g_1_X : Hid (CoNe W379.heap.size X) := hide (CoNe.hi (unhide HM382))
          have CN_g_1_Y : Hid (CoNe W379.heap.size Y) := hide (CoNe.hi (unhide HM_Y))
          have ne_g_2_g_1 : g_2 < W379.heap.size := (unhide HZ383).lt
          have HX385 := hide ((unhide HX381).below hal)
          have HM386 := hide ((unhide HM382).below hal)
          have HM387 := hide ((unhide HM_Y).below hal)
          have HZ388 := hide ((unhide HZ383).below hal)
          have HZ389 : Hid (Bx (W379.alloc (.cells #[.string ⟨#[]⟩, .slice none 0 0, .slice none 0 0, .slice none 0 0] 32)) W379.heap.size 32 #[.string ⟨#[]⟩, .slice none 0 0, .slice none 0 0, .slice none 0 0]) := hide (heap_alloc_new W379 _)
          refine hK.out _ _ (unhide HX385) (fun hS390 => ?_)
          clear hK K hS384 HX381 HM382 HM_Y HZ383 hal
          generalize (W379.alloc (.cells #[.string ⟨#[]⟩, .slice none 0 0, .slice none 0 0, .slice none 0 0] 32)) = W391 at HX385 HM386 HM387 HZ388 HZ389 hS390 ⊢
          generalize W379.heap.size = g_1 at HZ389 gt_g_1 CN_g_1_X CN_g_1_Y ne_g_2_g_1 ⊢
          have hne : g_1 ≠ g_2 := by omega
          have HFIN := hide (ask_fin (unhide HX385) (unhide HZ389) (unhide HZ388) (unhide HM386) (unhide HM387) (unhide HS_X) (unhide HS_Y) hne gt_g_1 gt_g_2 (unhide CN_g_1_X) (unhide CN_g_1_Y) (unhide CN_g_2_X) (unhide CN_g_2_Y))
          refine wpAnyH_ready (rs := [6]) (by kernel_rfl) (by simp) ?_
          refine AllReadyH.cons rfl (fun K hK => ?_) AllReadyH.nil
          rw [if_pos (by rfl)]
          refine wp_store_row 32 _ _ rfl g_1 #[.string X.nm, .slice X.ao X.T.length X.cap, .slice X.fo X.F.length X.fc, .slice X.co X.C.length X.cc] rfl rfl 32 #[.string ⟨#[]⟩, .slice none 0 0, .slice none 0 0, .slice none 0 0] (unhide HZ389) (by kernel_rfl) rfl (by simp [Value.oneCell']) ?_
          have HX7 := hide ((unhide HX385).row gt_g_1 #[.string X.nm, .slice X.ao X.T.length X.cap, .slice X.fo X.F.length X.fc, .slice X.co X.C.length X.cc])
          have HZ7 : Hid (Bx (W391.setRow g_1 #[.string X.nm, .slice X.ao X.T.length X.cap, .slice X.fo X.F.length X.fc, .slice X.co X.C.length X.cc]) g_2 32 #[.string ⟨#[]⟩, .slice none 0 0, .slice none 0 0, .slice none 0 0]) := hide ((setRow_other W391 g_1 g_2 _ (fun e => hne e.symm)).trans (unhide HZ388))
          refine hK.out _ _ (unhide HX7) (fun hS392 => ?_)
          clear hK K hS390  
          generalize W391.setRow g_1 #[.string X.nm, .slice X.ao X.T.length X.cap, .slice X.fo X.F.length X.fc, .slice X.co X.C.length X.cc] = W8 at HX7 HZ7 HFIN hS392 ⊢
          refine wpAnyH_ready (rs := [7]) (by kernel_rfl) (by simp) ?_
          refine AllReadyH.cons rfl (fun K hK => ?_) AllReadyH.nil
          rw [if_pos (by rfl)]
          refine wp_store_row 32 _ _ rfl g_2 #[.string Y.nm, .slice Y.ao Y.T.length Y.cap, .slice Y.fo Y.F.length Y.fc, .slice Y.co Y.C.length Y.cc] rfl rfl 32 #[.string ⟨#[]⟩, .slice none 0 0, .slice none 0 0, .slice none 0 0] (unhide HZ7) (by kernel_rfl) rfl (by simp [Value.oneCell']) ?_
          refine hK.out _ _ ((unhide HX7).row gt_g_2 #[.string Y.nm, .slice Y.ao Y.T.length Y.cap, .slice Y.fo Y.F.length Y.fc, .slice Y.co Y.C.length Y.cc]) (fun hS9 => ?_)
          clear hK K
          refine wpAnyH_done (by kernel_rfl) ?_ _
          go_wp2_with fail
          go_meet
          exact ⟨g_1, g_2, X, Y, rfl, rfl, HFIN⟩
        · go_simp
          have hal : Below W378.heap.size W378 (W378.alloc (.cells #[.string ⟨#[]⟩, .slice none 0 0, .slice none 0 0, .slice none 0 0] 32)) := (Below.refl _ _).alloc (Nat.le_refl _) _
          have gt_g_1 : w.heap.size + 1 < W378.heap.size := (unhide HX374).b.lt
          have CN_g_1_X : Hid (CoNe W378.heap.size X) := hide (CoNe.hi (unhide HM375))
          have ne_g_2_g_1 : g_2 < W378.heap.size := (unhide HZ376).lt
          have HX393 := hide ((unhide HX374).below hal)
          have HM394 := hide ((unhide HM375).below hal)
          have HZ395 := hide ((unhide HZ376).below hal)
          have HZ396 : Hid (Bx (W378.alloc (.cells #[.string ⟨#[]⟩, .slice none 0 0, .slice none 0 0, .slice none 0 0] 32)) W378.heap.size 32 #[.string ⟨#[]⟩, .slice none 0 0, .slice none 0 0, .slice none 0 0]) := hide (heap_alloc_new W378 _)
          refine hK.out _ _ (unhide HX393) (fun hS397 => ?_)
          clear hK K hS377 HX374 HM375 HZ376 hal
          generalize (W378.alloc (.cells #[.string ⟨#[]⟩, .slice none 0 0, .slice none 0 0, .slice none 0 0] 32)) = W398 at HX393 HM394 HZ395 HZ396 hS397 ⊢
          generalize W378.heap.size = g_1 at HZ396 gt_g_1 CN_g_1_X ne_g_2_g_1 ⊢
          refine wpAnyH_ready (rs := [3]) (by kernel_rfl) (by simp) ?_
          refine AllReadyH.cons rfl (fun K hK => ?_) AllReadyH.nil
          go_simp
          go_wp2_with (go_at_call 11; refine (Module_any b W398 ((unhide HBB).below (unhide HX393).bel)).mono ?_; rintro e W399 ⟨Y, rfl, hmk, hsm, hcp, hco, hB400⟩)
          have CN_g_2_Y : Hid (CoNe g_2 Y) := hide (CoNe.lo hco (unhide HZ395).lt)
          have CN_g_1_Y : Hid (CoNe g_1 Y) := hide (CoNe.lo hco (unhide HZ396).lt)
          have HX401 := hide ((unhide HX393).below hB400)
          have HM402 := hide ((unhide HM394).below hB400)
          have HZ403 := hide ((unhide HZ395).below hB400)
          have HZ404 := hide ((unhide HZ396).below hB400)
          have HM_Y := hide hmk
          have HS_Y := hide hsm
          clear hmk hsm hcp hco
          refine hK.out _ _ (unhide HX401) (fun hS405 => ?_)
          clear hK K hS397 HX393 HM394 HZ395 HZ396 hB400
          have hne : g_1 ≠ g_2 := by omega
          have HFIN := hide (ask_fin (unhide HX401) (unhide HZ404) (unhide HZ403) (unhide HM402) (unhide HM_Y) (unhide HS_X) (unhide HS_Y) hne gt_g_1 gt_g_2 (unhide CN_g_1_X) (unhide CN_g_1_Y) (unhide CN_g_2_X) (unhide CN_g_2_Y))
          refine wpAnyH_ready (rs := [6]) (by kernel_rfl) (by simp) ?_
          refine AllReadyH.cons rfl (fun K hK => ?_) AllReadyH.nil
          rw [if_pos (by rfl)]
          refine wp_store_row 32 _ _ rfl g_1 #[.string X.nm, .slice X.ao X.T.length X.cap, .slice X.fo X.F.length X.fc, .slice X.co X.C.length X.cc] rfl rfl 32 #[.string ⟨#[]⟩, .slice none 0 0, .slice none 0 0, .slice none 0 0] (unhide HZ404) (by kernel_rfl) rfl (by simp [Value.oneCell']) ?_
          have HX7 := hide ((unhide HX401).row gt_g_1 #[.string X.nm, .slice X.ao X.T.length X.cap, .slice X.fo X.F.length X.fc, .slice X.co X.C.length X.cc])
          have HZ7 : Hid (Bx (W399.setRow g_1 #[.string X.nm, .slice X.ao X.T.length X.cap, .slice X.fo X.F.length X.fc, .slice X.co X.C.length X.cc]) g_2 32 #[.string ⟨#[]⟩, .slice none 0 0, .slice none 0 0, .slice none 0 0]) := hide ((setRow_other W399 g_1 g_2 _ (fun e => hne e.symm)).trans (unhide HZ403))
          refine hK.out _ _ (unhide HX7) (fun hS406 => ?_)
          clear hK K hS405  
          generalize W399.setRow g_1 #[.string X.nm, .slice X.ao X.T.length X.cap, .slice X.fo X.F.length X.fc, .slice X.co X.C.length X.cc] = W8 at HX7 HZ7 HFIN hS406 ⊢
          refine wpAnyH_ready (rs := [7]) (by kernel_rfl) (by simp) ?_
          refine AllReadyH.cons rfl (fun K hK => ?_) AllReadyH.nil
          rw [if_pos (by rfl)]
          refine wp_store_row 32 _ _ rfl g_2 #[.string Y.nm, .slice Y.ao Y.T.length Y.cap, .slice Y.fo Y.F.length Y.fc, .slice Y.co Y.C.length Y.cc] rfl rfl 32 #[.string ⟨#[]⟩, .slice none 0 0, .slice none 0 0, .slice none 0 0] (unhide HZ7) (by kernel_rfl) rfl (by simp [Value.oneCell']) ?_
          refine hK.out _ _ ((unhide HX7).row gt_g_2 #[.string Y.nm, .slice Y.ao Y.T.length Y.cap, .slice Y.fo Y.F.length Y.fc, .slice Y.co Y.C.length Y.cc]) (fun hS9 => ?_)
          clear hK K
          refine wpAnyH_done (by kernel_rfl) ?_ _
          go_wp2_with fail
          go_meet
          exact ⟨g_1, g_2, X, Y, rfl, rfl, HFIN⟩
    · go_simp
      have hal : Below W302.heap.size W302 (W302.alloc (.cells #[.string ⟨#[]⟩, .slice none 0 0, .slice none 0 0, .slice none 0 0] 32)) := (Below.refl _ _).alloc (Nat.le_refl _) _
      have gt_g_1 : w.heap.size + 1 < W302.heap.size := (unhide HX301).b.lt
      have HX407 := hide ((unhide HX301).below hal)
      have HZ408 : Hid (Bx (W302.alloc (.cells #[.string ⟨#[]⟩, .slice none 0 0, .slice none 0 0, .slice none 0 0] 32)) W302.heap.size 32 #[.string ⟨#[]⟩, .slice none 0 0, .slice none 0 0, .slice none 0 0]) := hide (heap_alloc_new W302 _)
      refine hK.out _ _ (unhide HX407) (fun hS409 => ?_)
      clear hK K hS303 HX301 hal
      generalize (W302.alloc (.cells #[.string ⟨#[]⟩, .slice none 0 0, .slice none 0 0, .slice none 0 0] 32)) = W410 at HX407 HZ408 hS409 ⊢
      generalize W302.heap.size = g_1 at HZ408 gt_g_1 ⊢
      refine wpAnyH_ready (rs := [1, 5]) (by kernel_rfl) (by simp) ?_
      refine (AllReadyH.cons rfl (fun K hK => ?_) (AllReadyH.cons rfl (fun K hK => ?_) AllReadyH.nil))
      · go_simp
        go_wp2_with (go_at_call 11; refine (Module_any a W410 ((unhide HA).below (unhide HX407).bel)).mono ?_; rintro e W411 ⟨X, rfl, hmk, hsm, hcp, hco, hB412⟩)
        have CN_g_1_X : Hid (CoNe g_1 X) := hide (CoNe.lo hco (unhide HZ408).lt)
        have HX413 := hide ((unhide HX407).below hB412)
        have HZ414 := hide ((unhide HZ408).below hB412)
        have HM_X := hide hmk
        have HS_X := hide hsm
        clear hmk hsm hcp hco
        refine hK.out _ _ (unhide HX413) (fun hS415 => ?_)
        clear hK K hS409 HX407 HZ408 hB412
        refine wpAnyH_ready (rs := [3, 5]) (by kernel_rfl) (by simp) ?_
        refine (AllReadyH.cons rfl (fun K hK => ?_) (AllReadyH.cons rfl (fun K hK => ?_) AllReadyH.nil))
        · go_simp
          go_wp2_with (go_at_call 11; refine (Module_any b W411 ((unhide HBB).below (unhide HX413).bel)).mono ?_; rintro e W416 ⟨Y, rfl, hmk, hsm, hcp, hco, hB417⟩)
          have CN_g_1_Y : Hid (CoNe g_1 Y) := hide (CoNe.lo hco (unhide HZ414).lt)
          have HX418 := hide ((unhide HX413).below hB417)
          have HM419 := hide ((unhide HM_X).below hB417)
          have HZ420 := hide ((unhide HZ414).below hB417)
          have HM_Y := hide hmk
          have HS_Y := hide hsm
          clear hmk hsm hcp hco
          refine hK.out _ _ (unhide HX418) (fun hS421 => ?_)
          clear hK K hS415 HX413 HM_X HZ414 hB417
          refine wpAnyH_ready (rs := [5]) (by kernel_rfl) (by simp) ?_
          refine AllReadyH.cons rfl (fun K hK => ?_) AllReadyH.nil
          go_simp
          have hal : Below W416.heap.size W416 (W416.alloc (.cells #[.string ⟨#[]⟩, .slice none 0 0, .slice none 0 0, .slice none 0 0] 32)) := (Below.refl _ _).alloc (Nat.le_refl _) _
          have gt_g_2 : w.heap.size + 1 < W416.heap.size := (unhide HX418).b.lt
          have CN_g_2_X : Hid (CoNe W416.heap.size X) := hide (CoNe.hi (unhide HM419))
          have CN_g_2_Y : Hid (CoNe W416.heap.size Y) := hide (CoNe.hi (unhide HM_Y))
          have ne_g_1_g_2 : g_1 < W416.heap.size := (unhide HZ420).lt
          have HX422 := hide ((unhide HX418).below hal)
          have HM423 := hide ((unhide HM419).below hal)
          have HM424 := hide ((unhide HM_Y).below hal)
          have HZ425 := hide ((unhide HZ420).below hal)
          have HZ426 : Hid (Bx (W416.alloc (.cells #[.string ⟨#[]⟩, .slice none 0 0, .slice none 0 0, .slice none 0 0] 32)) W416.heap.size 32 #[.string ⟨#[]⟩, .slice none 0 0, .slice none 0 0, .slice none 0 0]) := hide (heap_alloc_new W416 _)
          refine hK.out _ _ (unhide HX422) (fun hS427 => ?_)
          clear hK K hS421 HX418 HM419 HM_Y HZ420 hal
          generalize (W416.alloc (.cells #[.string ⟨#[]⟩, .slice none 0 0, .slice none 0 0, .slice none 0 0] 32)) = W428 at HX422 HM423 HM424 HZ425 HZ426 hS427 ⊢
          generalize W416.heap.size = g_2 at HZ426 gt_g_2 CN_g_2_X CN_g_2_Y ne_g_1_g_2 ⊢
          have hne : g_1 ≠ g_2 := by omega
          have HFIN := hide (ask_fin (unhide HX422) (unhide HZ425) (unhide HZ426) (unhide HM423) (unhide HM424) (unhide HS_X) (unhide HS_Y) hne gt_g_1 gt_g_2 (unhide CN_g_1_X) (unhide CN_g_1_Y) (unhide CN_g_2_X) (unhide CN_g_2_Y))
          refine wpAnyH_ready (rs := [6]) (by kernel_rfl) (by simp) ?_
          refine AllReadyH.cons rfl (fun K hK => ?_) AllReadyH.nil
          rw [if_pos (by rfl)]
          refine wp_store_row 32 _ _ rfl g_1 #[.string X.nm, .slice X.ao X.T.length X.cap, .slice X.fo X.F.length X.fc, .slice X.co X.C.length X.cc] rfl rfl 32 #[.string ⟨#[]⟩, .slice none 0 0, .slice none 0 0, .slice none 0 0] (unhide HZ425) (by kernel_rfl) rfl (by simp [Value.oneCell']) ?_
          have HX7 := hide ((unhide HX422).row gt_g_1 #[.string X.nm, .slice X.ao X.T.length X.cap, .slice X.fo X.F.length X.fc, .slice X.co X.C.length X.cc])
          have HZ7 : Hid (Bx (W428.setRow g_1 #[.string X.nm, .slice X.ao X.T.length X.cap, .slice X.fo X.F.length X.fc, .slice X.co X.C.length X.cc]) g_2 32 #[.string ⟨#[]⟩, .slice none 0 0, .slice none 0 0, .slice none 0 0]) := hide ((setRow_other W428 g_1 g_2 _ (fun e => hne e.symm)).trans (unhide HZ426))
          refine hK.out _ _ (unhide HX7) (fun hS429 => ?_)
          clear hK K hS427  
          generalize W428.setRow g_1 #[.string X.nm, .slice X.ao X.T.length X.cap, .slice X.fo X.F.length X.fc, .slice X.co X.C.length X.cc] = W8 at HX7 HZ7 HFIN hS429 ⊢
          refine wpAnyH_ready (rs := [7]) (by kernel_rfl) (by simp) ?_
          refine AllReadyH.cons rfl (fun K hK => ?_) AllReadyH.nil
          rw [if_pos (by rfl)]
          refine wp_store_row 32 _ _ rfl g_2 #[.string Y.nm, .slice Y.ao Y.T.length Y.cap, .slice Y.fo Y.F.length Y.fc, .slice Y.co Y.C.length Y.cc] rfl rfl 32 #[.string ⟨#[]⟩, .slice none 0 0, .slice none 0 0, .slice none 0 0] (unhide HZ7) (by kernel_rfl) rfl (by simp [Value.oneCell']) ?_
          refine hK.out _ _ ((unhide HX7).row gt_g_2 #[.string Y.nm, .slice Y.ao Y.T.length Y.cap, .slice Y.fo Y.F.length Y.fc, .slice Y.co Y.C.length Y.cc]) (fun hS9 => ?_)
          clear hK K
          refine wpAnyH_done (by kernel_rfl) ?_ _
          go_wp2_with fail
          go_meet
          exact ⟨g_1, g_2, X, Y, rfl, rfl, HFIN⟩
        · go_simp
          have hal : Below W411.heap.size W411 (W411.alloc (.cells #[.string ⟨#[]⟩, .slice none 0 0, .slice none 0 0, .slice none 0 0] 32)) := (Below.refl _ _).alloc (Nat.le_refl _) _
          have gt_g_2 : w.heap.size + 1 < W411.heap.size := (unhide HX413).b.lt
          have CN_g_2_X : Hid (CoNe W411.heap.size X) := hide (CoNe.hi (unhide HM_X))
          have ne_g_1_g_2 : g_1 < W411.heap.size := (unhide HZ414).lt
          have HX430 := hide ((unhide HX413).below hal)
          have HM431 := hide ((unhide HM_X).below hal)
          have HZ432 := hide ((unhide HZ414).below hal)
          have HZ433 : Hid (Bx (W411.alloc (.cells #[.string ⟨#[]⟩, .slice none 0 0, .slice none 0 0, .slice none 0 0] 32)) W411.heap.size 32 #[.string ⟨#[]⟩, .slice none 0 0, .slice none 0 0, .slice none 0 0]) := hide (heap_alloc_new W411 _)
          refine hK.out _ _ (unhide HX430) (fun hS434 => ?_)
          clear hK K hS415 HX413 HM_X HZ414 hal
          generalize (W411.alloc (.cells #[.string ⟨#[]⟩, .slice none 0 0, .slice none 0 0, .slice none 0 0] 32)) = W435 at HX430 HM431 HZ432 HZ433 hS434 ⊢
          generalize W411.heap.size = g_2 at HZ433 gt_g_2 CN_g_2_X ne_g_1_g_2 ⊢
          refine wpAnyH_ready (rs := [3]) (by kernel_rfl) (by simp) ?_
          refine AllReadyH.cons rfl (fun K hK => ?_) AllReadyH.nil
          go_simp
          go_wp2_with (go_at_call 11; refine (Module_any b W435 ((unhide HBB).below (unhide HX430).bel)).mono ?_; rintro e W436 ⟨Y, rfl, hmk, hsm, hcp, hco, hB437⟩)
          have CN_g_1_Y : Hid (CoNe g_1 Y) := hide (CoNe.lo hco (unhide HZ432).lt)
          have CN_g_2_Y : Hid (CoNe g_2 Y) := hide (CoNe.lo hco (unhide HZ433).lt)
          have HX438 := hide ((unhide HX430).below hB437)
          have HM439 := hide ((unhide HM431).below hB437)
          have HZ440 := hide ((unhide HZ432).below hB437)
          have HZ441 := hide ((unhide HZ433).below hB437)
          have HM_Y := hide hmk
          have HS_Y := hide hsm
          clear hmk hsm hcp hco
          refine hK.out _ _ (unhide HX438) (fun hS442 => ?_)
          clear hK K hS434 HX430 HM431 HZ432 HZ433 hB437
          have hne : g_1 ≠ g_2 := by omega
          have HFIN := hide (ask_fin (unhide HX438) (unhide HZ440) (unhide HZ441) (unhide HM439) (unhide HM_Y) (unhide HS_X) (unhide HS_Y) hne gt_g_1 gt_g_2 (unhide CN_g_1_X) (unhide CN_g_1_Y) (unhide CN_g_2_X) (unhide CN_g_2_Y))
          refine wpAnyH_ready (rs := [6]) (by kernel_rfl) (by simp) ?_
          refine AllReadyH.cons rfl (fun K hK => ?_) AllReadyH.nil
          rw [if_pos (by rfl)]
          refine wp_store_row 32 _ _ rfl g_1 #[.string X.nm, .slice X.ao X.T.length X.cap, .slice X.fo X.F.length X.fc, .slice X.co X.C.length X.cc] rfl rfl 32 #[.string ⟨#[]⟩, .slice none 0 0, .slice none 0 0, .slice none 0 0] (unhide HZ440) (by kernel_rfl) rfl (by simp [Value.oneCell']) ?_
          have HX7 := hide ((unhide HX438).row gt_g_1 #[.string X.nm, .slice X.ao X.T.length X.cap, .slice X.fo X.F.length X.fc, .slice X.co X.C.length X.cc])
          have HZ7 : Hid (Bx (W436.setRow g_1 #[.string X.nm, .slice X.ao X.T.length X.cap, .slice X.fo X.F.length X.fc, .slice X.co X.C.length X.cc]) g_2 32 #[.string ⟨#[]⟩, .slice none 0 0, .slice none 0 0, .slice none 0 0]) := hide ((setRow_other W436 g_1 g_2 _ (fun e => hne e.symm)).trans (unhide HZ441))
          refine hK.out _ _ (unhide HX7) (fun hS443 => ?_)
          clear hK K hS442  
          generalize W436.setRow g_1 #[.string X.nm, .slice X.ao X.T.length X.cap, .slice X.fo X.F.length X.fc, .slice X.co X.C.length X.cc] = W8 at HX7 HZ7 HFIN hS443 ⊢
          refine wpAnyH_ready (rs := [7]) (by kernel_rfl) (by simp) ?_
          refine AllReadyH.cons rfl (fun K hK => ?_) AllReadyH.nil
          rw [if_pos (by rfl)]
          refine wp_store_row 32 _ _ rfl g_2 #[.string Y.nm, .slice Y.ao Y.T.length Y.cap, .slice Y.fo Y.F.length Y.fc, .slice Y.co Y.C.length Y.cc] rfl rfl 32 #[.string ⟨#[]⟩, .slice none 0 0, .slice none 0 0, .slice none 0 0] (unhide HZ7) (by kernel_rfl) rfl (by simp [Value.oneCell']) ?_
          refine hK.out _ _ ((unhide HX7).row gt_g_2 #[.string Y.nm, .slice Y.ao Y.T.length Y.cap, .slice Y.fo Y.F.length Y.fc, .slice Y.co Y.C.length Y.cc]) (fun hS9 => ?_)
          clear hK K
          refine wpAnyH_done (by kernel_rfl) ?_ _
          go_wp2_with fail
          go_meet
          exact ⟨g_1, g_2, X, Y, rfl, rfl, HFIN⟩
      · go_simp
        have hal : Below W410.heap.size W410 (W410.alloc (.cells #[.string ⟨#[]⟩, .slice none 0 0, .slice none 0 0, .slice none 0 0] 32)) := (Below.refl _ _).alloc (Nat.le_refl _) _
        have gt_g_2 : w.heap.size + 1 < W410.heap.size := (unhide HX407).b.lt
        have ne_g_1_g_2 : g_1 < W410.heap.size := (unhide HZ408).lt
        have HX444 := hide ((unhide HX407).below hal)
        have HZ445 := hide ((unhide HZ408).below hal)
        have HZ446 : Hid (Bx (W410.alloc (.cells #[.string ⟨#[]⟩, .slice none 0 0, .slice none 0 0, .slice none 0 0] 32)) W410.heap.size 32 #[.string ⟨#[]⟩, .slice none 0 0, .slice none 0 0, .slice none 0 0]) := hide (heap_alloc_new W410 _)
        refine hK.out _ _ (unhide HX444) (fun hS447 => ?_)
        clear hK K hS409 HX407 HZ408 hal
        generalize (W410.alloc (.cells #[.string ⟨#[]⟩, .slice none 0 0, .slice none 0 0, .slice none 0 0] 32)) = W448 at HX444 HZ445 HZ446 hS447 ⊢
        generalize W410.heap.size = g_2 at HZ446 gt_g_2 ne_g_1_g_2 ⊢
        refine wpAnyH_ready (rs := [1]) (by kernel_rfl) (by simp) ?_
        refine AllReadyH.cons rfl (fun K hK => ?_) AllReadyH.nil
        go_simp
        go_wp2_with (go_at_call 11; refine (Module_any a W448 ((unhide HA).below (unhide HX444).bel)).mono ?_; rintro e W449 ⟨X, rfl, hmk, hsm, hcp, hco, hB450⟩)
        have CN_g_1_X : Hid (CoNe g_1 X) := hide (CoNe.lo hco (unhide HZ445).lt)
        have CN_g_2_X : Hid (CoNe g_2 X) := hide (CoNe.lo hco (unhide HZ446).lt)
        have HX451 := hide ((unhide HX444).below hB450)
        have HZ452 := hide ((unhide HZ445).below hB450)
        have HZ453 := hide ((unhide HZ446).below hB450)
        have HM_X := hide hmk
        have HS_X := hide hsm
        clear hmk hsm hcp hco
        refine hK.out _ _ (unhide HX451) (fun hS454 => ?_)
        clear hK K hS447 HX444 HZ445 HZ446 hB450
        refine wpAnyH_ready (rs := [3]) (by kernel_rfl) (by simp) ?_
        refine AllReadyH.cons rfl (fun K hK => ?_) AllReadyH.nil
        go_simp
        go_wp2_with (go_at_call 11; refine (Module_any b W449 ((unhide HBB).below (unhide HX451).bel)).mono ?_; rintro e W455 ⟨Y, rfl, hmk, hsm, hcp, hco, hB456⟩)
        have CN_g_1_Y : Hid (CoNe g_1 Y) := hide (CoNe.lo hco (unhide HZ452).lt)
        have CN_g_2_Y : Hid (CoNe g_2 Y) := hide (CoNe.lo hco (unhide HZ453).lt)
        have HX457 := hide ((unhide HX451).below hB456)
        have HM458 := hide ((unhide HM_X).below hB456)
        have HZ459 := hide ((unhide HZ452).below hB456)
        have HZ460 := hide ((unhide HZ453).below hB456)
        have HM_Y := hide hmk
        have HS_Y := hide hsm
        clear hmk hsm hcp hco
        refine hK.out _ _ (unhide HX457) (fun hS461 => ?_)
        clear hK K hS454 HX451 HM_X HZ452 HZ453 hB456
        have hne : g_1 ≠ g_2 := by omega
        have HFIN := hide (ask_fin (unhide HX457) (unhide HZ459) (unhide HZ460) (unhide HM458) (unhide HM_Y) (unhide HS_X) (unhide HS_Y) hne gt_g_1 gt_g_2 (unhide CN_g_1_X) (unhide CN_g_1_Y) (unhide CN_g_2_X) (unhide CN_g_2_Y))
        refine wpAnyH_ready (rs := [6]) (by kernel_rfl) (by simp) ?_
        refine AllReadyH.cons rfl (fun K hK => ?_) AllReadyH.nil
        rw [if_pos (by rfl)]
        refine wp_store_row 32 _ _ rfl g_1 #[.string X.nm, .slice X.ao X.T.length X.cap, .slice X.fo X.F.length X.fc, .slice X.co X.C.length X.cc] rfl rfl 32 #[.string ⟨#[]⟩, .slice none 0 0, .slice none 0 0, .slice none 0 0] (unhide HZ459) (by kernel_rfl) rfl (by simp [Value.oneCell']) ?_
        have HX7 := hide ((unhide HX457).row gt_g_1 #[.string X.nm, .slice X.ao X.T.length X.cap, .slice X.fo X.F.length X.fc, .slice X.co X.C.length X.cc])
        have HZ7 : Hid (Bx (W455.setRow g_1 #[.string X.nm, .slice X.ao X.T.length X.cap, .slice X.fo X.F.length X.fc, .slice X.co X.C.length X.cc]) g_2 32 #[.string ⟨#[]⟩, .slice none 0 0, .slice none 0 0, .slice none 0 0]) := hide ((setRow_other W455 g_1 g_2 _ (fun e => hne e.symm)).trans (unhide HZ460))
        refine hK.out _ _ (unhide HX7) (fun hS462 => ?_)
        clear hK K hS461  
        generalize W455.setRow g_1 #[.string X.nm, .slice X.ao X.T.length X.cap, .slice X.fo X.F.length X.fc, .slice X.co X.C.length X.cc] = W8 at HX7 HZ7 HFIN hS462 ⊢
        refine wpAnyH_ready (rs := [7]) (by kernel_rfl) (by simp) ?_
        refine AllReadyH.cons rfl (fun K hK => ?_) AllReadyH.nil
        rw [if_pos (by rfl)]
        refine wp_store_row 32 _ _ rfl g_2 #[.string Y.nm, .slice Y.ao Y.T.length Y.cap, .slice Y.fo Y.F.length Y.fc, .slice Y.co Y.C.length Y.cc] rfl rfl 32 #[.string ⟨#[]⟩, .slice none 0 0, .slice none 0 0, .slice none 0 0] (unhide HZ7) (by kernel_rfl) rfl (by simp [Value.oneCell']) ?_
        refine hK.out _ _ ((unhide HX7).row gt_g_2 #[.string Y.nm, .slice Y.ao Y.T.length Y.cap, .slice Y.fo Y.F.length Y.fc, .slice Y.co Y.C.length Y.cc]) (fun hS9 => ?_)
        clear hK K
        refine wpAnyH_done (by kernel_rfl) ?_ _
        go_wp2_with fail
        go_meet
        exact ⟨g_1, g_2, X, Y, rfl, rfl, HFIN⟩
    · go_simp
      have hal : Below W302.heap.size W302 (W302.alloc (.cells #[.string ⟨#[]⟩, .slice none 0 0, .slice none 0 0, .slice none 0 0] 32)) := (Below.refl _ _).alloc (Nat.le_refl _) _
      have gt_g_2 : w.heap.size + 1 < W302.heap.size := (unhide HX301).b.lt
      have HX463 := hide ((unhide HX301).below hal)
      have HZ464 : Hid (Bx (W302.alloc (.cells #[.string ⟨#[]⟩, .slice none 0 0, .slice none 0 0, .slice none 0 0] 32)) W302.heap.size 32 #[.string ⟨#[]⟩, .slice none 0 0, .slice none 0 0, .slice none 0 0]) := hide (heap_alloc_new W302 _)
      refine hK.out _ _ (unhide HX463) (fun hS465 => ?_)
      clear hK K hS303 HX301 hal
      generalize (W302.alloc (.cells #[.string ⟨#[]⟩, .slice none 0 0, .slice none 0 0, .slice none 0 0] 32)) = W466 at HX463 HZ464 hS465 ⊢
      generalize W302.heap.size = g_2 at HZ464 gt_g_2 ⊢
      refine wpAnyH_ready (rs := [1, 4]) (by kernel_rfl) (by simp) ?_
      refine (AllReadyH.cons rfl (fun K hK => ?_) (AllReadyH.cons rfl (fun K hK => ?_) AllReadyH.nil))
      · go_simp
        go_wp2_with (go_at_call 11; refine (Module_any a W466 ((unhide HA).below (unhide HX463).bel)).mono ?_; rintro e W467 ⟨X, rfl, hmk, hsm, hcp, hco, hB468⟩)
        have CN_g_2_X : Hid (CoNe g_2 X) := hide (CoNe.lo hco (unhide HZ464).lt)
        have HX469 := hide ((unhide HX463).below hB468)
        have HZ470 := hide ((unhide HZ464).below hB468)
        have HM_X := hide hmk
        have HS_X := hide hsm
        clear hmk hsm hcp hco
        refine hK.out _ _ (unhide HX469) (fun hS471 => ?_)
        clear hK K hS465 HX463 HZ464 hB468
        refine wpAnyH_ready (rs := [3, 4]) (by kernel_rfl) (by simp) ?_
        refine (AllReadyH.cons rfl (fun K hK => ?_) (AllReadyH.cons rfl (fun K hK => ?_) AllReadyH.nil))
        · go_simp
          go_wp2_with (go_at_call 11; refine (Module_any b W467 ((unhide HBB).below (unhide HX469).bel)).mono ?_; rintro e W472 ⟨Y, rfl, hmk, hsm, hcp, hco, hB473⟩)
          have CN_g_2_Y : Hid (CoNe g_2 Y) := hide (CoNe.lo hco (unhide HZ470).lt)
          have HX474 := hide ((unhide HX469).below hB473)
          have HM475 := hide ((unhide HM_X).below hB473)
          have HZ476 := hide ((unhide HZ470).below hB473)
          have HM_Y := hide hmk
          have HS_Y := hide hsm
          clear hmk hsm hcp hco
          refine hK.out _ _ (unhide HX474) (fun hS477 => ?_)
          clear hK K hS471 HX469 HM_X HZ470 hB473
          refine wpAnyH_ready (rs := [4]) (by kernel_rfl) (by simp) ?_
          refine AllReadyH.cons rfl (fun K hK => ?_) AllReadyH.nil
          go_simp
          have hal : Below W472.heap.size W472 (W472.alloc (.cells #[.string ⟨#[]⟩, .slice none 0 0, .slice none 0 0, .slice none 0 0] 32)) := (Below.refl _ _).alloc (Nat.le_refl _) _
          have gt_g_1 : w.heap.size + 1 < W472.heap.size := (unhide HX474).b.lt
          have CN_g_1_X : Hid (CoNe W472.heap.size X) := hide (CoNe.hi (unhide HM475))
          have CN_g_1_Y : Hid (CoNe W472.heap.size Y) := hide (CoNe.hi (unhide HM_Y))
          have ne_g_2_g_1 : g_2 < W472.heap.size := (unhide HZ476).lt
          have HX478 := hide ((unhide HX474).below hal)
          have HM479 := hide ((unhide HM475).below hal)
          have HM480 := hide ((unhide HM_Y).below hal)
          have HZ481 := hide ((unhide HZ476).below hal)
          have HZ482 : Hid (Bx (W472.alloc (.cells #[.string ⟨#[]⟩, .slice none 0 0, .slice none 0 0, .slice none 0 0] 32)) W472.heap.size 32 #[.string ⟨#[]⟩, .slice none 0 0, .slice none 0 0, .slice none 0 0]) := hide (heap_alloc_new W472 _)
          refine hK.out _ _ (unhide HX478) (fun hS483 => ?_)
          clear hK K hS477 HX474 HM475 HM_Y HZ476 hal
          generalize (W472.alloc (.cells #[.string ⟨#[]⟩, .slice none 0 0, .slice none 0 0, .slice none 0 0] 32)) = W484 at HX478 HM479 HM480 HZ481 HZ482 hS483 ⊢
          generalize W472.heap.size = g_1 at HZ482 gt_g_1 CN_g_1_X CN_g_1_Y ne_g_2_g_1 ⊢
          have hne : g_1 ≠ g_2 := by omega
          have HFIN := hide (ask_fin (unhide HX478) (unhide HZ482) (unhide HZ481) (unhide HM479) (unhide HM480) (unhide HS_X) (unhide HS_Y) hne gt_g_1 gt_g_2 (unhide CN_g_1_X) (unhide CN_g_1_Y) (unhide CN_g_2_X) (unhide CN_g_2_Y))
          refine wpAnyH_ready (rs := [6]) (by kernel_rfl) (by simp) ?_
          refine AllReadyH.cons rfl (fun K hK => ?_) AllReadyH.nil
          rw [if_pos (by rfl)]
          refine wp_store_row 32 _ _ rfl g_1 #[.string X.nm, .slice X.ao X.T.length X.cap, .slice X.fo X.F.length X.fc, .slice X.co X.C.length X.cc] rfl rfl 32 #[.string ⟨#[]⟩, .slice none 0 0, .slice none 0 0, .slice none 0 0] (unhide HZ482) (by kernel_rfl) rfl (by simp [Value.oneCell']) ?_
          have HX7 := hide ((unhide HX478).row gt_g_1 #[.string X.nm, .slice X.ao X.T.length X.cap, .slice X.fo X.F.length X.fc, .slice X.co X.C.length X.cc])
          have HZ7 : Hid (Bx (W484.setRow g_1 #[.string X.nm, .slice X.ao X.T.length X.cap, .slice X.fo X.F.length X.fc, .slice X.co X.C.length X.cc]) g_2 32 #[.string ⟨#[]⟩, .slice none 0 0, .slice none 0 0, .slice none 0 0]) := hide ((setRow_other W484 g_1 g_2 _ (fun e => hne e.symm)).trans (unhide HZ481))
          refine hK.out _ _ (unhide HX7) (fun hS485 => ?_)
          clear hK K hS483  
          generalize W484.setRow g_1 #[.string X.nm, .slice X.ao X.T.length X.cap, .slice X.fo X.F.length X.fc, .slice X.co X.C.length X.cc] = W8 at HX7 HZ7 HFIN hS485 ⊢
          refine wpAnyH_ready (rs := [7]) (by kernel_rfl) (by simp) ?_
          refine AllReadyH.cons rfl (fun K hK => ?_) AllReadyH.nil
          rw [if_pos (by rfl)]
          refine wp_store_row 32 _ _ rfl g_2 #[.string Y.nm, .slice Y.ao Y.T.length Y.cap, .slice Y.fo Y.F.length Y.fc, .slice Y.co Y.C.length Y.cc] rfl rfl 32 #[.string ⟨#[]⟩, .slice none 0 0, .slice none 0 0, .slice none 0 0] (unhide HZ7) (by kernel_rfl) rfl (by simp [Value.oneCell']) ?_
          refine hK.out _ _ ((unhide HX7).row gt_g_2 #[.string Y.nm, .slice Y.ao Y.T.length Y.cap, .slice Y.fo Y.F.length Y.fc, .slice Y.co Y.C.length Y.cc]) (fun hS9 => ?_)
          clear hK K
          refine wpAnyH_done (by kernel_rfl) ?_ _
          go_wp2_with fail
          go_meet
          exact ⟨g_1, g_2, X, Y, rfl, rfl, HFIN⟩
        · go_simp
          have hal : Below W467.heap.size W467 (W467.alloc (.cells #[.string ⟨#[]⟩, .slice none 0 0, .slice none 0 0, .slice none 0 0] 32)) := (Below.refl _ _).alloc (Nat.le_refl _) _
          have gt_g_1 : w.heap.size + 1 < W467.heap.size := (unhide HX469).b.lt
          have CN_g_1_X : Hid (CoNe W467.heap.size X) := hide (CoNe.hi (unhide HM_X))
          have ne_g_2_g_1 : g_2 < W467.heap.size := (unhide HZ470).lt
          have HX486 := hide ((unhide HX469).below hal)
          have HM487 := hide ((unhide HM_X).below hal)
          have HZ488 := hide ((unhide HZ470).below hal)
          have HZ489 : Hid (Bx (W467.alloc (.cells #[.string ⟨#[]⟩, .slice none 0 0, .slice none 0 0, .slice none 0 0] 32)) W467.heap.size 32 #[.string ⟨#[]⟩, .slice none 0 0, .slice none 0 0, .slice none 0 0]) := hide (heap_alloc_new W467 _)
          refine hK.out _ _ (unhide HX486) (fun hS490 => ?_)
          clear hK K hS471 HX469 HM_X HZ470 hal
          generalize (W467.alloc (.cells #[.string ⟨#[]⟩, .slice none 0 0, .slice none 0 0, .slice none 0 0] 32)) = W491 at HX486 HM487 HZ488 HZ489 hS490 ⊢
          generalize W467.heap.size = g_1 at HZ489 gt_g_1 CN_g_1_X ne_g_2_g_1 ⊢
          refine wpAnyH_ready (rs := [3]) (by kernel_rfl) (by simp) ?_
          refine AllReadyH.cons rfl (fun K hK => ?_) AllReadyH.nil
          go_simp
          go_wp2_with (go_at_call 11; refine (Module_any b W491 ((unhide HBB).below (unhide HX486).bel)).mono ?_; rintro e W492 ⟨Y, rfl, hmk, hsm, hcp, hco, hB493⟩)
          have CN_g_2_Y : Hid (CoNe g_2 Y) := hide (CoNe.lo hco (unhide HZ488).lt)
          have CN_g_1_Y : Hid (CoNe g_1 Y) := hide (CoNe.lo hco (unhide HZ489).lt)
          have HX494 := hide ((unhide HX486).below hB493)
          have HM495 := hide ((unhide HM487).below hB493)
          have HZ496 := hide ((unhide HZ488).below hB493)
          have HZ497 := hide ((unhide HZ489).below hB493)
          have HM_Y := hide hmk
          have HS_Y := hide hsm
          clear hmk hsm hcp hco
          refine hK.out _ _ (unhide HX494) (fun hS498 => ?_)
          clear hK K hS490 HX486 HM487 HZ488 HZ489 hB493
          have hne : g_1 ≠ g_2 := by omega
          have HFIN := hide (ask_fin (unhide HX494) (unhide HZ497) (unhide HZ496) (unhide HM495) (unhide HM_Y) (unhide HS_X) (unhide HS_Y) hne gt_g_1 gt_g_2 (unhide CN_g_1_X) (unhide CN_g_1_Y) (unhide CN_g_2_X) (unhide CN_g_2_Y))
          refine wpAnyH_ready (rs := [6]) (by kernel_rfl) (by simp) ?_
          refine AllReadyH.cons rfl (fun K hK => ?_) AllReadyH.nil
          rw [if_pos (by rfl)]
          refine wp_store_row 32 _ _ rfl g_1 #[.string X.nm, .slice X.ao X.T.length X.cap, .slice X.fo X.F.length X.fc, .slice X.co X.C.length X.cc] rfl rfl 32 #[.string ⟨#[]⟩, .slice none 0 0, .slice none 0 0, .slice none 0 0] (unhide HZ497) (by kernel_rfl) rfl (by simp [Value.oneCell']) ?_
          have HX7 := hide ((unhide HX494).row gt_g_1 #[.string X.nm, .slice X.ao X.T.length X.cap, .slice X.fo X.F.length X.fc, .slice X.co X.C.length X.cc])
          have HZ7 : Hid (Bx (W492.setRow g_1 #[.string X.nm, .slice X.ao X.T.length X.cap, .slice X.fo X.F.length X.fc, .slice X.co X.C.length X.cc]) g_2 32 #[.string ⟨#[]⟩, .slice none 0 0, .slice none 0 0, .slice none 0 0]) := hide ((setRow_other W492 g_1 g_2 _ (fun e => hne e.symm)).trans (unhide HZ496))
          refine hK.out _ _ (unhide HX7) (fun hS499 => ?_)
          clear hK K hS498  
          generalize W492.setRow g_1 #[.string X.nm, .slice X.ao X.T.length X.cap, .slice X.fo X.F.length X.fc, .slice X.co X.C.length X.cc] = W8 at HX7 HZ7 HFIN hS499 ⊢
          refine wpAnyH_ready (rs := [7]) (by kernel_rfl) (by simp) ?_
          refine AllReadyH.cons rfl (fun K hK => ?_) AllReadyH.nil
          rw [if_pos (by rfl)]
          refine wp_store_row 32 _ _ rfl g_2 #[.string Y.nm, .slice Y.ao Y.T.length Y.cap, .slice Y.fo Y.F.length Y.fc, .slice Y.co Y.C.length Y.cc] rfl rfl 32 #[.string ⟨#[]⟩, .slice none 0 0, .slice none 0 0, .slice none 0 0] (unhide HZ7) (by kernel_rfl) rfl (by simp [Value.oneCell']) ?_
          refine hK.out _ _ ((unhide HX7).row gt_g_2 #[.string Y.nm, .slice Y.ao Y.T.length Y.cap, .slice Y.fo Y.F.length Y.fc, .slice Y.co Y.C.length Y.cc]) (fun hS9 => ?_)
          clear hK K
          refine wpAnyH_done (by kernel_rfl) ?_ _
          go_wp2_with fail
          go_meet
          exact ⟨g_1, g_2, X, Y, rfl, rfl, HFIN⟩
      · go_simp
        have hal : Below W466.heap.size W466 (W466.alloc (.cells #[.string ⟨#[]⟩, .slice none 0 0, .slice none 0 0, .slice none 0 0] 32)) := (Below.refl _ _).alloc (Nat.le_refl _) _
        have gt_g_1 : w.heap.size + 1 < W466.heap.size := (unhide HX463).b.lt
        have ne_g_2_g_1 : g_2 < W466.heap.size := (unhide HZ464).lt
        have HX500 := hide ((unhide HX463).below hal)
        have HZ501 := hide ((unhide HZ464).below hal)
        have HZ502 : Hid (Bx (W466.alloc (.cells #[.string ⟨#[]⟩, .slice none 0 0, .slice none 0 0, .slice none 0 0] 32)) W466.heap.size 32 #[.string ⟨#[]⟩, .slice none 0 0, .slice none 0 0, .slice none 0 0]) := hide (heap_alloc_new W466 _)
        refine hK.out _ _ (unhide HX500) (fun hS503 => ?_)
        clear hK K hS465 HX463 HZ464 hal
        generalize (W466.alloc (.cells #[.string ⟨#[]⟩, .slice none 0 0, .slice none 0 0, .slice none 0 0] 32)) = W504 at HX500 HZ501 HZ502 hS503 ⊢
        generalize W466.heap.size = g_1 at HZ502 gt_g_1 ne_g_2_g_1 ⊢
        refine wpAnyH_ready (rs := [1]) (by kernel_rfl) (by simp) ?_
        refine AllReadyH.cons rfl (fun K hK => ?_) AllReadyH.nil
        go_simp
        go_wp2_with (go_at_call 11; refine (Module_any a W504 ((unhide HA).below (unhide HX500).bel)).mono ?_; rintro e W505 ⟨X, rfl, hmk, hsm, hcp, hco, hB506⟩)
        have CN_g_2_X : Hid (CoNe g_2 X) := hide (CoNe.lo hco (unhide HZ501).lt)
        have CN_g_1_X : Hid (CoNe g_1 X) := hide (CoNe.lo hco (unhide HZ502).lt)
        have HX507 := hide ((unhide HX500).below hB506)
        have HZ508 := hide ((unhide HZ501).below hB506)
        have HZ509 := hide ((unhide HZ502).below hB506)
        have HM_X := hide hmk
        have HS_X := hide hsm
        clear hmk hsm hcp hco
        refine hK.out _ _ (unhide HX507) (fun hS510 => ?_)
        clear hK K hS503 HX500 HZ501 HZ502 hB506
        refine wpAnyH_ready (rs := [3]) (by kernel_rfl) (by simp) ?_
        refine AllReadyH.cons rfl (fun K hK => ?_) AllReadyH.nil
        go_simp
        go_wp2_with (go_at_call 11; refine (Module_any b W505 ((unhide HBB).below (unhide HX507).bel)).mono ?_; rintro e W511 ⟨Y, rfl, hmk, hsm, hcp, hco, hB512⟩)
        have CN_g_2_Y : Hid (CoNe g_2 Y) := hide (CoNe.lo hco (unhide HZ508).lt)
        have CN_g_1_Y : Hid (CoNe g_1 Y) := hide (CoNe.lo hco (unhide HZ509).lt)
        have HX513 := hide ((unhide HX507).below hB512)
        have HM514 := hide ((unhide HM_X).below hB512)
        have HZ515 := hide ((unhide HZ508).below hB512)
        have HZ516 := hide ((unhide HZ509).below hB512)
        have HM_Y := hide hmk
        have HS_Y := hide hsm
        clear hmk hsm hcp hco
        refine hK.out _ _ (unhide HX513) (fun hS517 => ?_)
        clear hK K hS510 HX507 HM_X HZ508 HZ509 hB512
        have hne : g_1 ≠ g_2 := by omega
        have HFIN := hide (ask_fin (unhide HX513) (unhide HZ516) (unhide HZ515) (unhide HM514) (unhide HM_Y) (unhide HS_X) (unhide HS_Y) hne gt_g_1 gt_g_2 (unhide CN_g_1_X) (unhide CN_g_1_Y) (unhide CN_g_2_X) (unhide CN_g_2_Y))
        refine wpAnyH_ready (rs := [6]) (by kernel_rfl) (by simp) ?_
        refine AllReadyH.cons rfl (fun K hK => ?_) AllReadyH.nil
        rw [if_pos (by rfl)]
        refine wp_store_row 32 _ _ rfl g_1 #[.string X.nm, .slice X.ao X.T.length X.cap, .slice X.fo X.F.length X.fc, .slice X.co X.C.length X.cc] rfl rfl 32 #[.string ⟨#[]⟩, .slice none 0 0, .slice none 0 0, .slice none 0 0] (unhide HZ516) (by kernel_rfl) rfl (by simp [Value.oneCell']) ?_
        have HX7 := hide ((unhide HX513).row gt_g_1 #[.string X.nm, .slice X.ao X.T.length X.cap, .slice X.fo X.F.length X.fc, .slice X.co X.C.length X.cc])
        have HZ7 : Hid (Bx (W511.setRow g_1 #[.string X.nm, .slice X.ao X.T.length X.cap, .slice X.fo X.F.length X.fc, .slice X.co X.C.length X.cc]) g_2 32 #[.string ⟨#[]⟩, .slice none 0 0, .slice none 0 0, .slice none 0 0]) := hide ((setRow_other W511 g_1 g_2 _ (fun e => hne e.symm)).trans (unhide HZ515))
        refine hK.out _ _ (unhide HX7) (fun hS518 => ?_)
        clear hK K hS517  
        generalize W511.setRow g_1 #[.string X.nm, .slice X.ao X.T.length X.cap, .slice X.fo X.F.length X.fc, .slice X.co X.C.length X.cc] = W8 at HX7 HZ7 HFIN hS518 ⊢
        refine wpAnyH_ready (rs := [7]) (by kernel_rfl) (by simp) ?_
        refine AllReadyH.cons rfl (fun K hK => ?_) AllReadyH.nil
        rw [if_pos (by rfl)]
        refine wp_store_row 32 _ _ rfl g_2 #[.string Y.nm, .slice Y.ao Y.T.length Y.cap, .slice Y.fo Y.F.length Y.fc, .slice Y.co Y.C.length Y.cc] rfl rfl 32 #[.string ⟨#[]⟩, .slice none 0 0, .slice none 0 0, .slice none 0 0] (unhide HZ7) (by kernel_rfl) rfl (by simp [Value.oneCell']) ?_
        refine hK.out _ _ ((unhide HX7).row gt_g_2 #[.string Y.nm, .slice Y.ao Y.T.length Y.cap, .slice Y.fo Y.F.length Y.fc, .slice Y.co Y.C.length Y.cc]) (fun hS9 => ?_)
        clear hK K
        refine wpAnyH_done (by kernel_rfl) ?_ _
        go_wp2_with fail
        go_meet
        exact ⟨g_1, g_2, X, Y, rfl, rfl, HFIN⟩
  case rest =>
    obtain ⟨g1, g2, X, Y, rfl, rfl, HQ⟩ := hcut
    clear HX3
    have HEQ := hide (mdEq_same (unhide HQ).sx (unhide HQ).sy)
    generalize mdEq a b = q at HEQ
    go_upto_region 6 with fail
    have HX301 := hide ((unhide HQ).below (below_drew wc 1))
    refine wp_region_held_drew (S := fun w' => LQ w w' a b g1 X g2 Y) (by kernel_rfl) (unhide HX301) (fun hS303 => ?_)
    clear HQ
    generalize hWd : wc.drewN 1 = W302 at HX301
    change wc.drew = W302 at hWd
    rw [hWd] at hS303 ⊢
    clear hWd
    refine wpAnyH_take (i := 0) (v := .agg #[.string X.nm, .slice X.ao X.T.length X.cap, .slice X.fo X.F.length X.fc, .slice X.co X.C.length X.cc]) rfl (by kernel_rfl) (by kernel_rfl) (by kernel_rfl) (fun _ _ _ h => h) (yieldsIf_load_mid (by rfl) 32 _ rfl (g1) 0 rfl _ _ (fun _ h => box_rangeM (h.x)) Try.underlying32 rfl (by kernel_rfl)) hS303 ?_
    refine wpAnyH_take (i := 1) (v := .agg #[.string Y.nm, .slice Y.ao Y.T.length Y.cap, .slice Y.fo Y.F.length Y.fc, .slice Y.co Y.C.length Y.cc]) rfl (by kernel_rfl) (by kernel_rfl) (by kernel_rfl) (fun _ _ _ h => h) (yieldsIf_load_mid (by rfl) 32 _ rfl (g2) 0 rfl _ _ (fun _ h => box_rangeM (h.y)) Try.underlying32 rfl (by kernel_rfl)) hS303 ?_
    refine wpAnyH_take (i := 3) (v := .agg #[.string a.nm, .slice a.ao a.T.length a.cap, .slice a.fo a.F.length a.fc, .slice a.co a.C.length a.cc]) rfl (by kernel_rfl) (by kernel_rfl) (by kernel_rfl) (fun _ _ _ h => h) (yieldsIf_load_mid (by rfl) 32 _ rfl (w.heap.size) 0 rfl _ _ (fun _ h => box_rangeM (h.lb.a)) Try.underlying32 rfl (by kernel_rfl)) hS303 ?_
    refine wpAnyH_take (i := 4) (v := .agg #[.string b.nm, .slice b.ao b.T.length b.cap, .slice b.fo b.F.length b.fc, .slice b.co b.C.length b.cc]) rfl (by kernel_rfl) (by kernel_rfl) (by kernel_rfl) (fun _ _ _ h => h) (yieldsIf_load_mid (by rfl) 32 _ rfl (w.heap.size + 1) 0 rfl _ _ (fun _ h => box_rangeM (h.lb.b)) Try.underlying32 rfl (by kernel_rfl)) hS303 ?_
    have HC := hide (Same_any X Y W302 (unhide HX301).mx (unhide HX301).my)
    rw [unhide HEQ] at HC
    refine wpAnyH_ready (rs := [2]) (by kernel_rfl) (by simp) ?_
    refine AllReadyH.cons rfl (fun K hK => ?_) AllReadyH.nil
    go_simp
    go_wp2_with (go_at_call 12; refine (unhide HC).mono ?_; rintro e W304 ⟨rfl, hB305⟩)
    have HX306 := hide ((unhide HX301).below hB305)
    refine hK.out _ _ (unhide HX306) (fun hS307 => ?_)
    clear hK K hS303 HX301 hB305
    have HC2 := hide (SameModule_any a b W304 ((unhide HA).below (unhide HX306).lb.bel) ((unhide HBB).below (unhide HX306).lb.bel))
    rw [← mdEq_same (unhide HX306).sx (unhide HX306).sy, unhide HEQ] at HC2
    refine wpAnyH_ready (rs := [5]) (by kernel_rfl) (by simp) ?_
    refine AllReadyH.cons rfl (fun K hK => ?_) AllReadyH.nil
    go_simp
    go_wp2_with (go_at_call 13; refine (unhide HC2).mono ?_; rintro e W308 ⟨rfl, hB309⟩)
    have HX310 := hide ((unhide HX306).below hB309)
    refine hK.out _ _ (unhide HX310) (fun hS311 => ?_)
    clear hK K hS307 HX306 hB309
    have hqq : (q == q) = true := by simp
    refine wpAnyH_take (i := 6) (v := .bool true) rfl (by kernel_rfl) (by kernel_rfl) (by kernel_rfl) (fun _ _ _ h => h) (Or.inl ⟨by rfl, fun w _ => by go_simp⟩) hS311 ?_
    refine wpAnyH_take (i := 7) (v := .bool true) rfl (by kernel_rfl) (by kernel_rfl) (by kernel_rfl) (fun _ _ _ h => h) (Or.inl ⟨by rfl, fun w _ => by go_simp⟩) hS311 ?_
    refine wpAnyH_take (i := 8) (v := .agg #[.string X.nm, .slice X.ao X.T.length X.cap, .slice X.fo X.F.length X.fc, .slice X.co X.C.length X.cc]) rfl (by kernel_rfl) (by kernel_rfl) (by kernel_rfl) (fun _ _ _ h => h) (yieldsIf_load_mid (by rfl) 32 _ rfl (g1) 0 rfl _ _ (fun _ h => box_rangeM (h.x)) Try.underlying32 rfl (by kernel_rfl)) hS311 ?_
    refine wpAnyH_take (i := 9) (v := .agg #[.string X.nm, .slice X.ao X.T.length X.cap, .slice X.fo X.F.length X.fc, .slice X.co X.C.length X.cc]) rfl (by kernel_rfl) (by kernel_rfl) (by kernel_rfl) (fun _ _ _ h => h) (yieldsIf_load_mid (by rfl) 32 _ rfl (g1) 0 rfl _ _ (fun _ h => box_rangeM (h.x)) Try.underlying32 rfl (by kernel_rfl)) hS311 ?_
    refine wpAnyH_ready (rs := [10]) (by kernel_rfl) (by simp) ?_
    refine AllReadyH.cons rfl (fun K hK => ?_) AllReadyH.nil
    go_simp
    go_wp2_with (go_at_call 11; refine (Module_any X W308 (unhide HX310).mx).mono ?_; rintro e W312 ⟨Z, rfl, hmk, hsm, _, _, hB313⟩)
    have HX314 := hide ((unhide HX310).below hB313)
    have HMZ := hide hmk
    have HSZ := hide hsm
    clear hmk hsm
    refine hK.out _ _ (unhide HX314) (fun hS315 => ?_)
    clear hK K hS311 HX310 hB313
    have HC3 := hide (Same_any X Z W312 (unhide HX314).mx (unhide HMZ))
    rw [mdEq_self (unhide HSZ)] at HC3
    refine wpAnyH_ready (rs := [11]) (by kernel_rfl) (by simp) ?_
    refine AllReadyH.cons rfl (fun K hK => ?_) AllReadyH.nil
    go_simp
    go_wp2_with (go_at_call 12; refine (unhide HC3).mono ?_; rintro e W316 ⟨rfl, hB317⟩)
    have HX318 := hide ((unhide HX314).below hB317)
    refine hK.out _ _ (unhide HX318) (fun hS319 => ?_)
    clear hK K hS315 HX314 hB317
    refine wpAnyH_take (i := 12) (v := .bool true) rfl (by kernel_rfl) (by kernel_rfl) (by kernel_rfl) (fun _ _ _ h => h) (Or.inl ⟨by rfl, fun w _ => by go_simp⟩) hS319 ?_
    refine wpAnyH_ready (rs := [13]) (by kernel_rfl) (by simp) ?_
    refine AllReadyH.cons rfl (fun K hK => ?_) AllReadyH.nil
    go_simp
    refine hK.out _ _ (unhide HX318) (fun hS320 => ?_)
    clear hK K hS319
    refine wpAnyH_done (by kernel_rfl) ?_ _
    go_wp2
    go_ret
    exact ⟨rfl, (unhide HX318).lb.bel⟩
end Go.Proofs.Ytfodkpnnanbaoaa
