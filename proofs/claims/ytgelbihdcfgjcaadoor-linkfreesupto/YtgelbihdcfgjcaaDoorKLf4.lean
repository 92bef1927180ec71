/-
  provisolaw18.part: a part's copy; provisolaw18.samePart of a part and what is the same. Conditions: lengths fit.
-/
import Derived.Test.YtgelbihdcfgjcaaDoorJMD
import Derived.Test.YtgelbihdcfgjcaaDoorKMdS
import Derived.Test.YtgelbihdcfgjcaaDoorKMd3
namespace Go.Proofs.YtgelbihdcfgjcaaDoor
open Go.RowKit
set_option maxRecDepth 20000
set_option linter.unusedVariables false

/-- While imports are copied. -/
structure PRun (w V W : World) (p : Pt) (y : Md) (v : Value) (M : List Im) : Prop where
  par : Bx W w.heap.size 29 #[.string p.m.nm, .slice p.m.ao p.m.T.length p.m.cap, .slice p.m.fo p.m.F.length p.m.fc, .slice p.m.co p.m.C.length p.m.cc, .slice p.io p.I.length p.ic]
  out : Bx W (w.heap.size + 1) 29 #[.string ⟨#[]⟩, .slice none 0 0, .slice none 0 0, .slice none 0 0, .slice none 0 0]
  box : Bx W V.heap.size 29 #[.string y.nm, .slice y.ao y.T.length y.cap, .slice y.fo y.F.length y.fc, .slice y.co y.C.length y.cc, v]
  imp : Bld imN W (V.heap.size + 1) v M
  two : ∀ (i : Nat) a b, p.I[i]? = some a → M[i]? = some b → sameI a b
  belV : Below V.heap.size V W
  bel : Below w.heap.size w W
theorem snoc_twoI {α : Type} {R : α → α → Prop} {L M : List α} {x y : α} {k : Nat} (h : ∀ (i : Nat) a b, L[i]? = some a → M[i]? = some b → R a b) (hk : M.length = k) (hx : L[k]? = some x) (hr : R x y) : ∀ (i : Nat) a b, L[i]? = some a → (M ++ [y])[i]? = some b → R a b := by
  intro i a b ha hb
  by_cases e : i < M.length
  · rw [List.getElem?_append_left e] at hb
    exact h i a b ha hb
  · rw [List.getElem?_append_right (by omega)] at hb
    have e2 : i - M.length = 0 := by
      have := (List.getElem?_eq_some_iff.1 hb).1
      simp at this
      omega
    rw [e2] at hb
    simp at hb
    subst hb
    have e3 : i = k := by omega
    subst e3
    rw [hx] at ha
    injection ha with ha
    subst ha
    exact hr
theorem pat_ge {W : World} {base : Nat} {ao : Option Addr} {n c : Nat} {l : List Nat} (h : OwnP W base (.slice ao n c) l) : BlkOf (fun b => base ≤ b) ao l.length := fun b off e hn => by
  rcases h.2 with ⟨h1, h2⟩ | ⟨g, cap, cur, hv, hb, _⟩
  · omega
  · injection hv with hv _
    rw [e] at hv
    injection hv with hv
    injection hv with hv _
    omega

theorem NoNum.of5 {W : World} {k : Nat} {t : TypeId} {s : ByteArray} {a b c d : Option Addr} {l1 l2 l3 l4 c1 c2 c3 c4 : Nat} (h : Bx W k t #[.string s, .slice a l1 c1, .slice b l2 c2, .slice c l3 c3, .slice d l4 c4]) : NoNum W k := by
  intro o ik n e
  rw [cell_of_row _ _ _ _ _ _ h] at e
  match o, e with
  | 0, e => simp at e
  | 1, e => simp at e
  | 2, e => simp at e
  | 3, e => simp at e
  | 4, e => simp at e
  | o + 5, e => simp at e
theorem bss_noNum {W W' : World} {ao : Option Addr} {L : List Bs} {k : Nat} (h : BssAt W ao L) (hg : W.grownBy W' (some k)) (hn : NoNum W k) (hco : ∀ b off, ao = some ⟨b, off, none⟩ → b ≠ k) : BssAt W' ao L := fun i x hx => by
  obtain ⟨b, off, e, hc⟩ := h i x hx
  refine ⟨b, off, e, (hg.cell_far ⟨b, off + i, none⟩ (World.block_lt_of_cell? W _ hc.c0) (fun e2 => hco b off e (by injection e2))).trans hc.c0, ?_, hc.nil, hc.fit⟩
  intro j hj
  obtain ⟨b', off', e', h'⟩ := hc.code j hj
  exact ⟨b', off', e', (farK hg hn h' _).trans h'⟩
theorem md_noNum {W W' : World} {m : Md} {k : Nat} (h : MdOk W m) (hg : W.grownBy W' (some k)) (hn : NoNum W k) (hco : ∀ b off, m.co = some ⟨b, off, none⟩ → b ≠ k) : MdOk W' m := ⟨h.tab.noNum hg hn, h.tz, h.fns.noNum hg hn, h.fz, bss_noNum h.cts hg hn hco, h.cz, h.name⟩
theorem PRun.step {w V wr w2 w3 : World} {p : Pt} {y : Md} {va : Option Addr} {vc : Nat} {M : List Im} {x : Im} {pa : Option Addr} {pcap b2 g3 cap3 k : Nat} {obj : Obj} (h : PRun w V wr p y (.slice va M.length vc) M) (hB : Below wr.heap.size wr w2) (hx : p.I[k]? = some x) (hk : M.length = k) (hw : w.heap.size + 1 < V.heap.size) (hok : IOk wr x) (hP : OwnP w2 b2 (.slice pa x.sg.ps.length pcap) x.sg.ps) (hb2 : wr.heap.size ≤ b2) (hown : w3.ownsRow (V.heap.size + 1) 48 3 (.slice (some ⟨g3, 0, none⟩) (M.length + 1) cap3) (M.length + 1) (vals imN M ++ imC ⟨x.nm, ⟨pa, pcap, x.sg.ps, x.sg.rt⟩⟩)) (hg : (w2.alloc obj).grownBy w3 (Value.slice va M.length vc).ownBlock) (hat : (Value.slice va M.length vc).ownBlock = some g3 ∨ g3 = w2.heap.size + 1) : PRun w V (w3.setCell ⟨V.heap.size, 4, none⟩ (.slice (some ⟨g3, 0, none⟩) (M.length + 1) cap3)) p y (.slice (some ⟨g3, 0, none⟩) (M.length + 1) cap3) (M ++ [⟨x.nm, ⟨pa, pcap, x.sg.ps, x.sg.rt⟩⟩]) := by
  obtain ⟨p1, p2⟩ := nil_of_P hP
  have hV : V.heap.size + 1 ≤ wr.heap.size := h.box.lt
  have hst := h.imp.step hB (y := ⟨x.nm, ⟨pa, pcap, x.sg.ps, x.sg.rt⟩⟩) ⟨hok.name, p1, p2, hok.sg.bts, hok.sg.fit, hok.sg.res⟩ ((pat_ge hP).mono (fun b hb => by omega)) hV hown hg hat
  have hB3 : Below wr.heap.size wr (w2.alloc obj) := hB.alloc hB.size _
  have hvg : ∀ q, (Value.slice va M.length vc).ownBlock = some q → V.heap.size + 1 ≤ q := fun q e => (World.ownsRow.lt h.imp.own q e).1
  have hset := grownBy_set w3 V.heap.size 4 (.slice (some ⟨g3, 0, none⟩) (M.length + 1) cap3)
  refine ⟨(((h.par.below hB3).grown hg (fun e => by have := hvg _ e; omega)).grown hset (fun e => by injection e with e; omega)), (((h.out.below hB3).grown hg (fun e => by have := hvg _ e; omega)).grown hset (fun e => by injection e with e; omega)), ((h.box.below hB3).grown hg (fun e => by have := hvg _ e; omega)).set 4 _ rfl, hst.box hset (by omega), snoc_twoI h.two hk hx ⟨rfl, rfl, rfl⟩, ?_, ?_⟩
  · exact ((h.belV.trans (hB3.mono h.belV.size)).grown hg (by have := hB3.size; omega) (fun q e => by have := hvg q e; omega)).grown hset (by have := hg.size; have := hB3.size; omega) (fun q e => by injection e with e; omega)
  · exact ((h.bel.trans (hB3.mono h.bel.size)).grown hg (by have := hB3.size; have := h.bel.size; omega) (fun q e => by have := hvg q e; omega)).grown hset (by have := hg.size; have := hB3.size; have := h.bel.size; omega) (fun q e => by injection e with e; omega)

set_option maxRecDepth 20000 in
set_option maxHeartbeats 8000000 in
theorem part_any (p : Pt) (w : World) (h : PtOk w p) :
    Calls Tryd.prog 4 #[.agg #[.string p.m.nm, .slice p.m.ao p.m.T.length p.m.cap, .slice p.m.fo p.m.F.length p.m.fc, .slice p.m.co p.m.C.length p.m.cc, .slice p.io p.I.length p.ic]] w fun e w' => ∃ y : Pt, e = .returned (.agg #[.string y.m.nm, .slice y.m.ao y.m.T.length y.m.cap, .slice y.m.fo y.m.F.length y.m.fc, .slice y.m.co y.m.C.length y.m.cc, .slice y.io y.I.length y.ic]) ∧ PtOk w' y ∧ SamePt p y ∧ (∀ x ∈ y.m.F, x.cd.length ≤ x.cc) ∧ Below w.heap.size w w' := by
  obtain ⟨i0, hi0, hz0, hz1, hz2⟩ := info_parts infoIm
  have al1 := (Below.refl w.heap.size w).alloc (Nat.le_refl _) (.cells #[.string p.m.nm, .slice p.m.ao p.m.T.length p.m.cap, .slice p.m.fo p.m.F.length p.m.fc, .slice p.m.co p.m.C.length p.m.cc, .slice p.io p.I.length p.ic] 29)
  have al := al1.alloc (by simp) (.cells #[.string ⟨#[]⟩, .slice none 0 0, .slice none 0 0, .slice none 0 0, .slice none 0 0] 29)
  have HB := hide al
  have n1 := heap_alloc_new w (.cells #[.string p.m.nm, .slice p.m.ao p.m.T.length p.m.cap, .slice p.m.fo p.m.F.length p.m.fc, .slice p.m.co p.m.C.length p.m.cc, .slice p.io p.I.length p.ic] 29)
  have n2 := heap_alloc_new (w.alloc (.cells #[.string p.m.nm, .slice p.m.ao p.m.T.length p.m.cap, .slice p.m.fo p.m.F.length p.m.fc, .slice p.m.co p.m.C.length p.m.cc, .slice p.io p.I.length p.ic] 29)) (.cells #[.string ⟨#[]⟩, .slice none 0 0, .slice none 0 0, .slice none 0 0, .slice none 0 0] 29)
  rw [World.size_alloc] at n2
  have HC1 : Hid (Bx ((w.alloc (.cells #[.string p.m.nm, .slice p.m.ao p.m.T.length p.m.cap, .slice p.m.fo p.m.F.length p.m.fc, .slice p.m.co p.m.C.length p.m.cc, .slice p.io p.I.length p.ic] 29)).alloc (.cells #[.string ⟨#[]⟩, .slice none 0 0, .slice none 0 0, .slice none 0 0, .slice none 0 0] 29)) w.heap.size 29 #[.string p.m.nm, .slice p.m.ao p.m.T.length p.m.cap, .slice p.m.fo p.m.F.length p.m.fc, .slice p.m.co p.m.C.length p.m.cc, .slice p.io p.I.length p.ic]) := hide ((((Below.refl _ _).alloc (Nat.le_refl _) _).block w.heap.size (by simp)).trans n1)
  have HC2 : Hid (Bx ((w.alloc (.cells #[.string p.m.nm, .slice p.m.ao p.m.T.length p.m.cap, .slice p.m.fo p.m.F.length p.m.fc, .slice p.m.co p.m.C.length p.m.cc, .slice p.io p.I.length p.ic] 29)).alloc (.cells #[.string ⟨#[]⟩, .slice none 0 0, .slice none 0 0, .slice none 0 0, .slice none 0 0] 29)) (w.heap.size + 1) 29 #[.string ⟨#[]⟩, .slice none 0 0, .slice none 0 0, .slice none 0 0, .slice none 0 0]) := hide n2
  have hsz : ((w.alloc (.cells #[.string p.m.nm, .slice p.m.ao p.m.T.length p.m.cap, .slice p.m.fo p.m.F.length p.m.fc, .slice p.m.co p.m.C.length p.m.cc, .slice p.io p.I.length p.ic] 29)).alloc (.cells #[.string ⟨#[]⟩, .slice none 0 0, .slice none 0 0, .slice none 0 0, .slice none 0 0] 29)).heap.size = w.heap.size + 2 := by simp
  have H := hide h
  have hlI : p.I.length < 9223372036854775000 := by have := h.fit; omega
  have HM := hide (Module_full p.m _ (h.m.below al))
  clear al1 al n1 n2 h
  go_enter Tryd.func4, Tryd.ntmps4
  go_upto_region 1 with fail
  generalize ((w.alloc (.cells #[.string p.m.nm, .slice p.m.ao p.m.T.length p.m.cap, .slice p.m.fo p.m.F.length p.m.fc, .slice p.m.co p.m.C.length p.m.cc, .slice p.io p.I.length p.ic] 29)).alloc (.cells #[.string ⟨#[]⟩, .slice none 0 0, .slice none 0 0, .slice none 0 0, .slice none 0 0] 29)) = W1 at HB HC1 HC2 HM hsz ⊢
  have k0 := (unhide HC1).c 0 rfl
  have k1 := (unhide HC1).c 1 rfl
  have k2 := (unhide HC1).c 2 rfl
  have k3 := (unhide HC1).c 3 rfl
  have k4 := (unhide HC1).c 4 rfl
  go_wp2_with fail
  refine (unhide HM).mono ?_
  rintro e W2 ⟨y, rfl, hY, hS, hcap, hco, _, hcf, hB2⟩
  have HE1 := hide ((unhide HC1).below hB2)
  have HE2 := hide ((unhide HC2).below hB2)
  have HB2 := hide ((unhide HB).trans (hB2.mono (unhide HB).size))
  have HY := hide hY
  have HS := hide hS
  have hs2 : w.heap.size + 2 ≤ W2.heap.size := by have := hB2.size; omega
  have HCO := hide hco
  have HCF := hide hcf
  have HZ := hide hsz
  clear k0 k1 k2 k3 k4 hY hS hB2 hcap hco hcf HC1 HC2 HB HM hsz
  have al2 : Below W2.heap.size W2 (W2.alloc (.cells #[.string y.nm, .slice y.ao y.T.length y.cap, .slice y.fo y.F.length y.fc, .slice y.co y.C.length y.cc, .slice none 0 0] 29)) := (Below.refl _ _).alloc (Nat.le_refl _) _
  have HP : Hid (PRun w W2 (W2.alloc (.cells #[.string y.nm, .slice y.ao y.T.length y.cap, .slice y.fo y.F.length y.fc, .slice y.co y.C.length y.cc, .slice none 0 0] 29)) p y (.slice none 0 0) []) := hide ⟨(unhide HE1).below al2, (unhide HE2).below al2, heap_alloc_new W2 _, Bld.nil _ _ _, fun i a b _ hb => by simp at hb, al2, (unhide HB2).trans (al2.mono (unhide HB2).size)⟩
  have hsz : (W2.alloc (.cells #[.string y.nm, .slice y.ao y.T.length y.cap, .slice y.fo y.F.length y.fc, .slice y.co y.C.length y.cc, .slice none 0 0] 29)).heap.size = W2.heap.size + 1 := by simp
  have k4 := (unhide HP).par.c 4 rfl
  clear al2
  go_upto_region 2 with fail
  generalize W2.alloc (.cells #[.string y.nm, .slice y.ao y.T.length y.cap, .slice y.fo y.F.length y.fc, .slice y.co y.C.length y.cc, .slice none 0 0] 29) = W3 at HP hsz k4 ⊢
  go_wp2_with fail
  clear k4
  go_loopw [13] (fun i wr => ∃ (k : Nat) (M : List Im) (v : Value), k ≤ p.I.length ∧ i = .int .i64 (k : Int) ∧ Hid (M.length = k) ∧ Hid (PRun w W2 wr p y v M)) (fun i _ => p.I.length - (intOf i).toNat)
  case atStart => exact ⟨0, [], .slice none 0 0, by omega, rfl, hide rfl, HP⟩
  case round =>
    obtain ⟨k, M, v, hk, rfl, HK, HR⟩ := hrel
    by_cases hlt : k < p.I.length
    · have j1 : ((k : Nat) : Int) < ((p.I.length : Nat) : Int) := by omega
      have hx := List.getElem?_eq_getElem hlt
      obtain ⟨b, off, eb, hra, hok⟩ := (unhide H).imp.below (unhide HR).bel k _ hx
      generalize p.I[k] = x at hx hra hok
      have hra : wr.rangeAt b (off + k * 3) (imC x) := hra
      have c0 := hra 0 _ rfl
      have c1 := hra 1 _ rfl
      have c2 := hra 2 _ rfl
      rw [Nat.add_zero] at c0
      rw [eb]
      obtain ⟨va0, vc0, rfl⟩ := (unhide HR).imp.slice
      have HX := hide hx
      have HOK := hide hok
      clear hx hok hra eb
      go_upto_region 5 with fail
      have hal : Below wr.heap.size wr (wr.alloc (.cells #[.string x.nm, .slice x.sg.po x.sg.ps.length x.sg.pc, .int .u8 (x.sg.rt : Int)] 48)) := (Below.refl _ _).alloc (Nat.le_refl _) _
      have HF0 : Hid (Bx (wr.alloc (.cells #[.string x.nm, .slice x.sg.po x.sg.ps.length x.sg.pc, .int .u8 (x.sg.rt : Int)] 48)) wr.heap.size 48 #[.string x.nm, .slice x.sg.po x.sg.ps.length x.sg.pc, .int .u8 (x.sg.rt : Int)]) := hide (heap_alloc_new wr _)
      have HAL := hide hal
      have hgr : W2.heap.size < wr.heap.size := (unhide HR).box.lt
      have HBX := hide ((unhide HR).box.below hal)
      have hza : wr.heap.size < (wr.alloc (.cells #[.string x.nm, .slice x.sg.po x.sg.ps.length x.sg.pc, .int .u8 (x.sg.rt : Int)] 48)).heap.size := by simp
      clear c0 c1 c2 hal
      generalize wr.alloc (.cells #[.string x.nm, .slice x.sg.po x.sg.ps.length x.sg.pc, .int .u8 (x.sg.rt : Int)] 48) = Wa at HF0 HAL HBX hza ⊢
      have c0 := (unhide HF0).c 0 rfl
      have c1 := (unhide HF0).c 1 rfl
      have c2 := (unhide HF0).c 2 rfl
      have a4 := (unhide HBX).c 4 rfl
      have HD : Hid (Below Wa.heap.size Wa Wa.drew) := hide (belowD (Below.refl _ _) 1)
      have HMk : Hid (M.length + 1 ≤ maxLen ∧ (M.length + 1) * 48 ≤ 140737488355328) := hide (by have := unhide HK; have := (unhide H).fit; unfold maxLen; omega)
      have HVG : Hid ((Value.slice va0 M.length vc0).ownBlock ≠ some W2.heap.size) := hide (fun e => by have := (World.ownsRow.lt (unhide HR).imp.own _ e).1; omega)
      go_region_law (first | (go_simp; go_at_call 11; refine (Sig_any x.sg.po x.sg.pc x.sg.ps x.sg.rt Wa.drew (((unhide HOK).below (unhide HAL)).sg.prm.below (unhide HD)) (unhide HOK).sg.nil (unhide HOK).sg.fit).mono ?_; rintro e w2 ⟨pa, pcap, rfl, hO4, hB2⟩; have hD2 := (unhide HD).trans hB2; have q1 := (hD2.cell (p := ⟨W2.heap.size, 4, none⟩) (unhide HBX).lt).trans a4; have q2 := (hD2.cell (p := ⟨wr.heap.size, 0, none⟩) hza).trans c0; have hB3 : Below wr.heap.size wr w2 := (unhide HAL).trans (hD2.mono (unhide HAL).size); have hOd : (w2.alloc (.cells #[.string x.nm, .slice pa x.sg.ps.length pcap, .int .u8 (x.sg.rt : Int)] 48)).ownsRow (W2.heap.size + 1) 48 3 (.slice va0 M.length vc0) M.length (vals imN M) := rowBelow (unhide HR).imp.own (hB3.alloc hB3.size _); have q1a := (((Below.refl w2.heap.size w2).alloc (Nat.le_refl _) (.cells #[.string x.nm, .slice pa x.sg.ps.length pcap, .int .u8 (x.sg.rt : Int)] 48)).cell (p := ⟨W2.heap.size, 4, none⟩) (Nat.lt_of_lt_of_le hgr hB3.size)).trans q1; have HO4 := hide hO4; have HB3 := hide hB3; have HOd := hide hOd; have hw2 : W2.heap.size + 1 ≤ w2.heap.size := Nat.le_trans hgr hB3.size; have hwd : wr.heap.size ≤ Wa.drew.heap.size := Nat.le_trans (unhide HAL).size (unhide HD).size; clear hO4 hB3 hOd hB2 hD2) | (refine step_append_lies _ (by rfl) _ _ 27 (by rfl) (W2.heap.size + 1) 48 i0 _ 3 48 Tryd.underlying27 hi0 hz0 hz1 hz2 rfl (by omega) (.slice va0 M.length vc0) M.length (vals imN M) (by rfl) (unhide HOd) ⟨w2.heap.size, 0, none⟩ 1 1 (imC ⟨x.nm, ⟨pa, pcap, x.sg.ps, x.sg.rt⟩⟩) (by rfl) (by rfl) (World.news_of_block (cs := #[.string x.nm, .slice pa x.sg.ps.length pcap, .int .u8 (x.sg.rt : Int)]) (t := 48) (fr := (0, 0)) (heap_alloc_new w2 _)) (imC_one _) (by omega) (unhide HMk).1 (unhide HMk).2 (by simp; omega) (w2.heap.size + 1) (by simp) ?_; intro g3 cap3 w3 hown hgrow hat hlt3; have r1 : w3.cell? ⟨W2.heap.size, 4, none⟩ = some (.slice va0 M.length vc0) := (hgrow.cell_far ⟨W2.heap.size, 4, none⟩ (by simp; omega) (Ne.symm (unhide HVG))).trans ((((Below.refl w2.heap.size w2).alloc (Nat.le_refl _) _).cell (p := ⟨W2.heap.size, 4, none⟩) hw2).trans q1); have f1 : w3.frozen? ⟨W2.heap.size, 4, none⟩ = false := frozen_of_row _ _ _ _ _ ((hgrow.block W2.heap.size (by simp; omega) (Ne.symm (unhide HVG))).trans (((unhide HB3).alloc (unhide HB3).size _).block W2.heap.size hgr |>.trans (unhide HR).box))))
      all_goals (
        have HR2 := hide ((unhide HR).step (unhide HB3) (unhide HX) (unhide HK) (by omega) (unhide HOK) (unhide HO4) hwd hown hgrow hat)
        have HK2: Hid ((M ++ [(⟨x.nm, ⟨pa, pcap, x.sg.ps, x.sg.rt⟩⟩ : Im)]).length = k + 1) := hide (by rw [List.length_append, unhide HK]; rfl)
        clear hown hgrow hat hlt3
        go_wp2
        go_roundw
        case rel => exact ⟨k + 1, _, _, by omega, by go_num, HK2, HR2⟩
        case measure => simp [intOf]; omega)
    · have j1 : ¬ ((k : Nat) : Int) < ((p.I.length : Nat) : Int) := by omega
      have ek : k = p.I.length := by omega
      obtain ⟨va, vc, rfl, hrow, hall, hnil⟩ := (unhide HR).imp.out
      have hgw := grown_row (W := wr) (w.heap.size + 1) #[.string y.nm, .slice y.ao y.T.length y.cap, .slice y.fo y.F.length y.fc, .slice y.co y.C.length y.cc, .slice va M.length vc]
      have HF : Hid (PtOk (wr.setRow (w.heap.size + 1) #[.string y.nm, .slice y.ao y.T.length y.cap, .slice y.fo y.F.length y.fc, .slice y.co y.C.length y.cc, .slice va M.length vc]) ⟨y, va, vc, M⟩ ∧ SamePt p ⟨y, va, vc, M⟩ ∧ (∀ x ∈ y.F, x.cd.length ≤ x.cc) ∧ Below w.heap.size w (wr.setRow (w.heap.size + 1) #[.string y.nm, .slice y.ao y.T.length y.cap, .slice y.fo y.F.length y.fc, .slice y.co y.C.length y.cc, .slice va M.length vc])) := hide (by
        have hYw := (unhide HY).below (unhide HR).belV
        have hnn : NoNum wr (w.heap.size + 1) := NoNum.of5 (unhide HR).out
        refine ⟨⟨md_noNum hYw hgw hnn (fun b off e => ?_), hrow.far hgw (hall.mono (fun b hb => by omega)), ?_⟩, ⟨unhide HS, ⟨by show M.length = _; rw [unhide HK]; exact ek, (unhide HR).two⟩⟩, unhide HCF, below_setRow' (unhide HR).bel (by omega) _⟩
        · have := unhide HCO b off e
          have := unhide HZ
          omega
        · show M.length * 48 ≤ _
          rw [unhide HK, ek]
          exact (unhide H).fit)
      clear hgw hrow hall hnil ek
      go_wp2_with (first | (refine wpList_load_rowG (by kernel_rfl) 29 (.tmp 3) rfl W2.heap.size rfl 29 #[.string y.nm, .slice y.ao y.T.length y.cap, .slice y.fo y.F.length y.fc, .slice y.co y.C.length y.cc, .slice va M.length vc] (0, 0) _ (unhide HR).box Tryd.underlying29 rfl (by kernel_rfl) ?_) | (refine wpList_store_row rfl 29 (.tmp 2) (.tmp 29) rfl (w.heap.size + 1) #[.string y.nm, .slice y.ao y.T.length y.cap, .slice y.fo y.F.length y.fc, .slice y.co y.C.length y.cc, .slice va M.length vc] rfl rfl 29 #[.string ⟨#[]⟩, .slice none 0 0, .slice none 0 0, .slice none 0 0, .slice none 0 0] (unhide HR).out (by kernel_rfl) rfl (by simp [Value.oneCell']) ?_))
      exact bodyPost_ret (results_bx rfl _ _ (w.heap.size + 1) _ rfl (run_loadVar_row _ _ 29 29 _ (0, 0) _ (setRow_heap _ _ _ _ _ _ (unhide HR).out) Tryd.underlying29 rfl (by kernel_rfl))) rfl ⟨⟨y, va, vc, M⟩, rfl, unhide HF⟩

set_option maxRecDepth 20000 in
set_option maxHeartbeats 8000000 in
theorem samePart_yes (a b : Pt) (w : World) (ha : PtOk w a) (hb : PtOk w b) (hm : mdEq a.m b.m = true) (hi : Two sameI a.I b.I) :
    Calls Tryd.prog 7 #[.agg #[.string a.m.nm, .slice a.m.ao a.m.T.length a.m.cap, .slice a.m.fo a.m.F.length a.m.fc, .slice a.m.co a.m.C.length a.m.cc, .slice a.io a.I.length a.ic], .agg #[.string b.m.nm, .slice b.m.ao b.m.T.length b.m.cap, .slice b.m.fo b.m.F.length b.m.fc, .slice b.m.co b.m.C.length b.m.cc, .slice b.io b.I.length b.ic]] w fun e w' => e = .returned (.bool true) ∧ Below w.heap.size w w' := by
  have al1 := (Below.refl w.heap.size w).alloc (Nat.le_refl _) (.cells #[.string a.m.nm, .slice a.m.ao a.m.T.length a.m.cap, .slice a.m.fo a.m.F.length a.m.fc, .slice a.m.co a.m.C.length a.m.cc, .slice a.io a.I.length a.ic] 29)
  have al := al1.alloc (by simp) (.cells #[.string b.m.nm, .slice b.m.ao b.m.T.length b.m.cap, .slice b.m.fo b.m.F.length b.m.fc, .slice b.m.co b.m.C.length b.m.cc, .slice b.io b.I.length b.ic] 29)
  have HB := hide al
  have n1 := heap_alloc_new w (.cells #[.string a.m.nm, .slice a.m.ao a.m.T.length a.m.cap, .slice a.m.fo a.m.F.length a.m.fc, .slice a.m.co a.m.C.length a.m.cc, .slice a.io a.I.length a.ic] 29)
  have n2 := heap_alloc_new (w.alloc (.cells #[.string a.m.nm, .slice a.m.ao a.m.T.length a.m.cap, .slice a.m.fo a.m.F.length a.m.fc, .slice a.m.co a.m.C.length a.m.cc, .slice a.io a.I.length a.ic] 29)) (.cells #[.string b.m.nm, .slice b.m.ao b.m.T.length b.m.cap, .slice b.m.fo b.m.F.length b.m.fc, .slice b.m.co b.m.C.length b.m.cc, .slice b.io b.I.length b.ic] 29)
  rw [World.size_alloc] at n2
  have HC1 : Hid (Bx ((w.alloc (.cells #[.string a.m.nm, .slice a.m.ao a.m.T.length a.m.cap, .slice a.m.fo a.m.F.length a.m.fc, .slice a.m.co a.m.C.length a.m.cc, .slice a.io a.I.length a.ic] 29)).alloc (.cells #[.string b.m.nm, .slice b.m.ao b.m.T.length b.m.cap, .slice b.m.fo b.m.F.length b.m.fc, .slice b.m.co b.m.C.length b.m.cc, .slice b.io b.I.length b.ic] 29)) w.heap.size 29 #[.string a.m.nm, .slice a.m.ao a.m.T.length a.m.cap, .slice a.m.fo a.m.F.length a.m.fc, .slice a.m.co a.m.C.length a.m.cc, .slice a.io a.I.length a.ic]) := hide ((((Below.refl _ _).alloc (Nat.le_refl _) _).block w.heap.size (by simp)).trans n1)
  have HC2 : Hid (Bx ((w.alloc (.cells #[.string a.m.nm, .slice a.m.ao a.m.T.length a.m.cap, .slice a.m.fo a.m.F.length a.m.fc, .slice a.m.co a.m.C.length a.m.cc, .slice a.io a.I.length a.ic] 29)).alloc (.cells #[.string b.m.nm, .slice b.m.ao b.m.T.length b.m.cap, .slice b.m.fo b.m.F.length b.m.fc, .slice b.m.co b.m.C.length b.m.cc, .slice b.io b.I.length b.ic] 29)) (w.heap.size + 1) 29 #[.string b.m.nm, .slice b.m.ao b.m.T.length b.m.cap, .slice b.m.fo b.m.F.length b.m.fc, .slice b.m.co b.m.C.length b.m.cc, .slice b.io b.I.length b.ic]) := hide n2
  have HSM := hide (SameModule_any a.m b.m _ (ha.m.below al) (hb.m.below al))
  rw [hm] at HSM
  have HA := hide ha
  have HBk := hide hb
  have HI := hide hi
  have hlI : a.I.length < 9223372036854775000 := by have := ha.fit; omega
  have e0 : (((a.I.length : Nat) : Int) != ((b.I.length : Nat) : Int)) = false := by rw [hi.1]; simp
  clear al1 al n1 n2 ha hb hm hi
  go_enter Tryd.func7, Tryd.ntmps7
  go_upto_region 1 with fail
  generalize ((w.alloc (.cells #[.string a.m.nm, .slice a.m.ao a.m.T.length a.m.cap, .slice a.m.fo a.m.F.length a.m.fc, .slice a.m.co a.m.C.length a.m.cc, .slice a.io a.I.length a.ic] 29)).alloc (.cells #[.string b.m.nm, .slice b.m.ao b.m.T.length b.m.cap, .slice b.m.fo b.m.F.length b.m.fc, .slice b.m.co b.m.C.length b.m.cc, .slice b.io b.I.length b.ic] 29)) = W1 at HB HC1 HC2 HSM ⊢
  have k0 := (unhide HC1).c 0 rfl
  have k1 := (unhide HC1).c 1 rfl
  have k2 := (unhide HC1).c 2 rfl
  have k3 := (unhide HC1).c 3 rfl
  have k4 := (unhide HC1).c 4 rfl
  have l0 := (unhide HC2).c 0 rfl
  have l1 := (unhide HC2).c 1 rfl
  have l2 := (unhide HC2).c 2 rfl
  have l3 := (unhide HC2).c 3 rfl
  have l4 := (unhide HC2).c 4 rfl
  go_wp2_with fail
  refine (unhide HSM).mono ?_
  rintro e W2 ⟨rfl, hB2⟩
  have HD1 := hide ((unhide HC1).below hB2)
  have HD2 := hide ((unhide HC2).below hB2)
  have HB2 := hide ((unhide HB).trans (hB2.mono (unhide HB).size))
  clear k0 k1 k2 k3 k4 l0 l1 l2 l3 l4 HC1 HC2 HB HSM hB2
  have k4 := (unhide HD1).c 4 rfl
  have l4 := (unhide HD2).c 4 rfl
  go_wp2_with fail
  clear k4 l4
  go_loopw [25] (fun i wr => ∃ (k : Nat), k ≤ a.I.length ∧ i = .int .i64 (k : Int) ∧ Hid (Bx wr w.heap.size 29 #[.string a.m.nm, .slice a.m.ao a.m.T.length a.m.cap, .slice a.m.fo a.m.F.length a.m.fc, .slice a.m.co a.m.C.length a.m.cc, .slice a.io a.I.length a.ic]) ∧ Hid (Bx wr (w.heap.size + 1) 29 #[.string b.m.nm, .slice b.m.ao b.m.T.length b.m.cap, .slice b.m.fo b.m.F.length b.m.fc, .slice b.m.co b.m.C.length b.m.cc, .slice b.io b.I.length b.ic]) ∧ Hid (Below w.heap.size w wr)) (fun i _ => a.I.length - (intOf i).toNat)
  case atStart => exact ⟨0, by omega, rfl, by first | exact HD1 | (refine hide ?_; exact (unhide HD1)), HD2, HB2⟩
  case round =>
    obtain ⟨k, hk, rfl, HE1, HE2, HBr⟩ := hrel
    by_cases hlt : k < a.I.length
    · have j1 : ((k : Nat) : Int) < ((a.I.length : Nat) : Int) := by omega
      have hx := List.getElem?_eq_getElem hlt
      have hlt2 : k < b.I.length := by rw [(unhide HI).1]; exact hlt
      have hy := List.getElem?_eq_getElem hlt2
      obtain ⟨hn, hp, hr⟩ := (unhide HI).2 k _ _ hx hy
      obtain ⟨b1, off1, eb1, hra, hok⟩ := (unhide HA).imp.below (unhide HBr) k _ hx
      obtain ⟨b2, off2, eb2, hrb, hok2⟩ := (unhide HBk).imp.below (unhide HBr) k _ hy
      generalize a.I[k] = x at hx hra hok hn hp hr
      generalize b.I[k] = y at hy hrb hok2 hn hp hr
      obtain ⟨yn, ⟨ypo, ypc, yps, yrt⟩⟩ := y
      have hn : yn = x.nm := hn
      have hp : yps = x.sg.ps := hp
      have hr : yrt = x.sg.rt := hr
      subst hn hp hr
      have j2 : ((k : Nat) : Int) < ((b.I.length : Nat) : Int) := by omega
      have hra : wr.rangeAt b1 (off1 + k * 3) (imC x) := hra
      have hrb : wr.rangeAt b2 (off2 + k * 3) (imC ⟨x.nm, ⟨ypo, ypc, x.sg.ps, x.sg.rt⟩⟩) := hrb
      have c0 := hra 0 _ rfl
      have c1 := hra 1 _ rfl
      have c2 := hra 2 _ rfl
      have HS0 := hide hrb
      rw [Nat.add_zero] at c0
      rw [eb1] at HE1 ⊢
      have HOK := hide hok
      have HOK2 := hide hok2
      clear hx hy hok hok2 hra hrb eb1
      go_upto_region 6 with fail
      have hal : Below wr.heap.size wr (wr.alloc (.cells #[.string x.nm, .slice x.sg.po x.sg.ps.length x.sg.pc, .int .u8 (x.sg.rt : Int)] 48)) := (Below.refl _ _).alloc (Nat.le_refl _) _
      have HF0 : Hid (Bx (wr.alloc (.cells #[.string x.nm, .slice x.sg.po x.sg.ps.length x.sg.pc, .int .u8 (x.sg.rt : Int)] 48)) wr.heap.size 48 #[.string x.nm, .slice x.sg.po x.sg.ps.length x.sg.pc, .int .u8 (x.sg.rt : Int)]) := hide (heap_alloc_new wr _)
      have HG1 := hide ((unhide HE1).below hal)
      have HG2 := hide ((unhide HE2).below hal)
      have HBa := hide ((unhide HBr).trans (hal.mono (unhide HBr).size))
      have HSS := hide (SameSig_yes x.sg.po ypo x.sg.pc ypc x.sg.ps x.sg.rt _ (((unhide HOK).below hal).sg.prm.below (belowD (Below.refl _ _) 1)) (((unhide HOK2).below hal).sg.prm.below (belowD (Below.refl _ _) 1)) (unhide HOK).sg.fit)
      have HR2 := hide (range_below (unhide HS0) hal)
      clear c0 c1 c2 hal
      generalize wr.alloc (.cells #[.string x.nm, .slice x.sg.po x.sg.ps.length x.sg.pc, .int .u8 (x.sg.rt : Int)] 48) = Wa at HF0 HG1 HG2 HBa HSS HR2 ⊢
      have hR2 : Wa.rangeAt b2 (off2 + k * 3) (imC ⟨x.nm, ⟨ypo, ypc, x.sg.ps, x.sg.rt⟩⟩) := unhide HR2
      have d0 := hR2 0 _ rfl
      have d1 := hR2 1 _ rfl
      have d2 := hR2 2 _ rfl
      rw [Nat.add_zero] at d0
      clear hR2
      have c0 := (unhide HF0).c 0 rfl
      have c1 := (unhide HF0).c 1 rfl
      have c2 := (unhide HF0).c 2 rfl
      have l4 := (unhide HG2).c 4 rfl
      rw [eb2] at l4
      clear eb2
      have lA : wr.heap.size < Wa.heap.size := (unhide HF0).lt
      have lB : w.heap.size + 1 < Wa.heap.size := (unhide HG2).lt
      have lC := World.block_lt_of_cell? Wa _ d0
      go_region_held3 (fun w' => w'.cell? ⟨wr.heap.size, 0, none⟩ = some (.string x.nm) ∧ w'.cell? ⟨wr.heap.size, 1, none⟩ = some (.slice x.sg.po x.sg.ps.length x.sg.pc) ∧ w'.cell? ⟨wr.heap.size, 2, none⟩ = some (.int .u8 (x.sg.rt : Int)) ∧ w'.cell? ⟨w.heap.size + 1, 4, none⟩ = some (.slice (some ⟨b2, off2, none⟩) b.I.length b.ic) ∧ w'.cell? ⟨b2, off2 + k * 3, none⟩ = some (.string x.nm) ∧ w'.cell? ⟨b2, off2 + k * 3 + 1, none⟩ = some (.slice ypo x.sg.ps.length ypc) ∧ w'.cell? ⟨b2, off2 + k * 3 + 2, none⟩ = some (.int .u8 (x.sg.rt : Int))) (first | exact ⟨(hB2.cell (p := ⟨wr.heap.size, 0, none⟩) lA).trans c0, (hB2.cell (p := ⟨wr.heap.size, 1, none⟩) lA).trans c1, (hB2.cell (p := ⟨wr.heap.size, 2, none⟩) lA).trans c2, (hB2.cell (p := ⟨w.heap.size + 1, 4, none⟩) lB).trans l4, (hB2.cell (p := ⟨b2, off2 + k * 3, none⟩) lC).trans d0, (hB2.cell (p := ⟨b2, off2 + k * 3 + 1, none⟩) lC).trans d1, (hB2.cell (p := ⟨b2, off2 + k * 3 + 2, none⟩) lC).trans d2⟩ | go_keep) (first | (go_at_call 20; refine (unhide HSS).mono ?_; rintro e w2 ⟨rfl, hB2⟩) | fail)
      all_goals (
        have hB3 := (show Below Wa.heap.size Wa Wa.drew from belowD (Below.refl _ _) 1).trans hB2
        have HH1 := hide ((unhide HG1).below hB3)
        have HH2 := hide ((unhide HG2).below hB3)
        have HBb := hide ((unhide HBa).trans (hB3.mono (unhide HBa).size))
        clear hB2 hB3
        go_wp2
        go_roundw
        case rel => exact ⟨k + 1, by omega, by go_num, HH1, HH2, HBb⟩
        case measure => simp [intOf]; omega)
    · have j1 : ¬ ((k : Nat) : Int) < ((a.I.length : Nat) : Int) := by omega
      go_wp2
      go_ret
      exact ⟨rfl, by first | exact unhide HBr | exact belowD (unhide HBr) 1⟩
end Go.Proofs.YtgelbihdcfgjcaaDoor
