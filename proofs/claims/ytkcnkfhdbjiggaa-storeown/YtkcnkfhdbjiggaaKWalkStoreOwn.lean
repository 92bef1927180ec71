/-
  The walk of the law StoreOwn: it returns true for every script, and writes nothing that was there.
-/
import Derived.Test.YtkcnkfhdbjiggaaJSZ
namespace Go.Proofs.Ytkcnkfhdbjiggaa
open Go.RowKit
set_option maxRecDepth 20000

theorem own_lnI {w : World} {B : Nat} {a : Option Addr} {n c : Nat} {l : List UInt8} (h : OwnB w B (.slice a n c) l) : OwnB w B (.slice a l.length c) l := by
  obtain ⟨a', c', hv, -⟩ := h.at
  injection hv with _ hv _
  rw [hv] at h
  exact h
theorem own_lnL {w : World} {B : Nat} {a : Option Addr} {n c : Nat} {l : List Rk} (h : OwnR w B (.slice a n c) l) : OwnR w B (.slice a l.length c) l := by
  obtain ⟨a', c', hv, -⟩ := h.at
  injection hv with _ hv _
  rw [hv] at h
  exact h
theorem Tw.lnI {w : World} {B g : Nat} {iv kv lv : Value} {xa : Option Addr} {n c : Nat} {I : List UInt8} {K : List Ke} {L : List Rk} (h : Tw w B g iv kv (.slice xa n c) lv I K L) : n = I.length := by
  obtain ⟨a, c', hv, -⟩ := h.xo.at
  injection hv with _ hv _
theorem Tw.lnN {w : World} {B g : Nat} {iv kv xi : Value} {la : Option Addr} {n c : Nat} {I : List UInt8} {K : List Ke} {L : List Rk} (h : Tw w B g iv kv xi (.slice la n c) I K L) : n = L.length := by
  obtain ⟨a, c', hv, -⟩ := h.lo.at
  injection hv with _ hv _
theorem Tw.xo2 {w : World} {B g : Nat} {iv kv lv : Value} {xa : Option Addr} {n c : Nat} {I : List UInt8} {K : List Ke} {L : List Rk} (h : Tw w B g iv kv (.slice xa n c) lv I K L) : OwnB w 0 (.slice xa I.length c) I := own_lnI h.xo
theorem Tw.lo2 {w : World} {B g : Nat} {iv kv xi : Value} {la : Option Addr} {n c : Nat} {I : List UInt8} {K : List Ke} {L : List Rk} (h : Tw w B g iv kv xi (.slice la n c) I K L) : OwnR w 0 (.slice la L.length c) L := own_lnL h.lo
theorem Bx.keepB {S : Nat → Prop} {w w1 : World} {b : Nat} {t : TypeId} {cs : Array Value} (hb : Bx w b t cs) (hk : Kept S w w1) (h : ¬ S b) : Bx w1 b t cs := by
  unfold Bx at hb ⊢
  rw [hk.block b (Bx.lt hb) h]
  exact hb
theorem Bx.keepSh {w w1 : World} {B g : Nat} {iv kv xi lv : Value} {I : List UInt8} {K : List Ke} {L : List Rk} {sp : Nat} {sv : Value} {its : List Value} {b : Nat} {t : TypeId} {cs : Array Value} (hb : Bx w b t cs) (h : OwI w B g iv kv xi lv I K L sp sv its) (hk : Kept (fun k => k = sp ∨ sv.ownBlock = some k) w w1) (ht : t = 28 ∨ t = 31 ∨ t = 66) : Bx w1 b t cs :=
  hb.keepB hk (fun e => by
    have := h.shS b _ t e hb
    rcases ht with rfl | rfl | rfl
    · exact this.2.2.2.2.1 rfl
    · exact this.2.2.2.2.2.1 rfl
    · exact this.2.2.2.2.2.2 rfl)
theorem OwnT.cellS {w : World} {B : Nat} {a : Option Addr} {n c : Nat} {N : List ByteArray} (h : OwnT w B (.slice a n c) N) {j : Nat} (hj : j < N.length) : ∃ gb, a = some ⟨gb, 0, none⟩ ∧ B ≤ gb ∧ (∃ cur, w.heap[gb]? = some (.cells cur 9 (0, 0))) ∧ (∃ s0, w.cell? ⟨gb, j, none⟩ = some (.string s0)) ∧ w.frozen? ⟨gb, j, none⟩ = false := by
  obtain ⟨a', c', hv, hn, hc⟩ := h.at
  injection hv with h1 h2 h3
  subst h1
  obtain ⟨gb, rfl, hcell⟩ := hc j _ (List.getElem?_eq_getElem hj)
  rcases h.2 with ⟨e1, _⟩ | ⟨g, cap, cur, hv, hbg, hh, r⟩
  · cases e1
  · injection hv with hv _ _
    injection hv with hv
    injection hv with hv _ _
    subst hv
    exact ⟨gb, rfl, hbg, ⟨cur, hh⟩, ⟨_, hcell⟩, frozen_of_row _ _ _ _ _ hh⟩
theorem OwnT.storeS {w : World} {B g n c : Nat} {N : List ByteArray} (h : OwnT w B (.slice (some ⟨g, 0, none⟩) n c) N) (hn : N.length = n) (j : Nat) (s : ByteArray) : OwnT (w.setCell ⟨g, j, none⟩ (.string s)) B (.slice (some ⟨g, 0, none⟩) n c) (N.set j s) := by
  subst hn
  have := (World.ownsRow.stored h j (.string s)).1
  unfold OwnT
  rw [List.length_set]
  have e : svals (N.set j s) = (svals N).set j (.string s) := by unfold svals; rw [List.map_set]
  rw [e]
  exact this
theorem hidB_len (R : List UInt8) : (hidB R).length = R.length - 1 + 2 := by simp [hidB]
set_option maxRecDepth 20000 in
set_option maxHeartbeats 4000000 in
theorem walkStoreOwn {w : World} (so : Option Addr) (sc : Nat) (T : List Dn) (hT : DosAt w so T) (hTl : T.length * 48 ≤ 140737488351232) :
    Calls Try.prog 6 #[.slice so T.length sc] w fun e w' => e = .returned (.bool true) ∧ Below w.heap.size w w' := by
  have hTl2 : T.length < 9223372036854775000 := by omega
  have HTL : Hid (T.length * 48 ≤ 140737488351232) := hide hTl
  have HDT := hide hT
  have mixed := mixedS
  clear hT hTl
  go_enter Try.func6, Try.ntmps6
  go_wp2_with fail
  refine (NewS_any w).mono ?_
  rintro e W1 ⟨rfl, hst1, hb1⟩
  have HT1 := hide (Tw.zero hst1)
  have HB1 := hide hb1
  clear hst1 hb1
  go_upto_region 6 with fail
  have hal : Below W1.heap.size W1 ((W1.alloc (.cells #[.slice none 0 0, .slice none 0 0] 28)).alloc (.cells #[.slice none 0 0, .slice none 0 0] 59)) := ((Below.refl _ _).alloc (Nat.le_refl _) _).alloc (by simp) _
  have HX2 : Hid (Bx ((W1.alloc (.cells #[.slice none 0 0, .slice none 0 0] 28)).alloc (.cells #[.slice none 0 0, .slice none 0 0] 59)) W1.heap.size 28 #[.slice none 0 0, .slice none 0 0]) := hide (Bx.below (heap_alloc_new W1 _) ((Below.refl _ _).alloc (Nat.le_refl _) _))
  have HS2 : Hid (Sh ((W1.alloc (.cells #[.slice none 0 0, .slice none 0 0] 28)).alloc (.cells #[.slice none 0 0, .slice none 0 0] 59)) (W1.heap.size + 1) (.slice none 0 0) []) := hide (by
    refine ⟨?_, rfl, Or.inl ⟨rfl, rfl⟩⟩
    have := heap_alloc_new (W1.alloc (.cells #[.slice none 0 0, .slice none 0 0] 28)) (.cells #[.slice none 0 0, .slice none 0 0] 59)
    rw [World.size_alloc] at this
    exact this)
  have HT2 := hide ((unhide HT1).below hal)
  have HB2 := hide ((unhide HB1).trans (hal.mono (unhide HB1).size))
  clear hal HT1
  generalize ((W1.alloc (.cells #[.slice none 0 0, .slice none 0 0] 28)).alloc (.cells #[.slice none 0 0, .slice none 0 0] 59)) = W2 at HX2 HS2 HT2 HB2 ⊢
  have hb9 : w.heap.size ≤ W1.heap.size := (unhide HB1).size
  obtain ⟨sp, hsp⟩ : ∃ sp, sp = W1.heap.size + 1 := ⟨_, rfl⟩
  rw [← hsp] at HS2 ⊢
  have HSP : Hid (w.heap.size ≤ sp) := hide (by omega)
  generalize W1.heap.size = b9 at HX2 hb9 hsp ⊢
  clear HB1 hsp
  have HO2 : Hid (OwI W2 w.heap.size w.heap.size (.slice none 0 0) (.slice none 0 0) (.slice none 0 0) (.slice none 0 0) [] [] [] sp (.slice none 0 0) []) := hide ⟨unhide HT2, unhide HS2, fun i v h => (by simp at h), fun i j a b h => (by simp at h), fun q h => (by obtain ⟨v, hv, -⟩ := h; cases hv), unhide HSP, fun q e => (by cases e)⟩
  clear HS2 HT2 HSP
  go_wp2_with fail
  go_loopw [26] (fun i wr => ∃ (k : Nat) (iv kv : Value) (xa : Option Addr) (n1 xc : Nat) (la : Option Addr) (n2 lc : Nat) (I : List UInt8) (K : List Ke) (L : List Rk) (sv : Value) (its : List Value), k ≤ T.length ∧ i = .int .i64 k ∧ Hid (OwI wr w.heap.size w.heap.size iv kv (.slice xa n1 xc) (.slice la n2 lc) I K L sp sv its) ∧ Hid (Bx wr b9 28 #[.slice xa n1 xc, .slice la n2 lc]) ∧ Hid (Below w.heap.size w wr) ∧ Hid (its.length * 5 ≤ 10 * k + 2 * I.length)) (fun i _ => T.length - (intOf i).toNat)
  case atStart => exact ⟨0, _, _, _, _, _, _, _, _, _, _, _, _, _, by omega, rfl, HO2, HX2, HB2, hide (by simp)⟩
  case round =>
    clear HX2 HO2 HB2
    obtain ⟨k, iv, kv, xa, n1, xc, la, n2, lc, I, K, L, sv, its, hk, rfl, HOr, HXr, HBr, HLr⟩ := hrel
    by_cases hlt : k < T.length
    · have i1 : ((k : Nat) : Int) < ((T.length : Nat) : Int) := by omega
      have hx := List.getElem?_eq_getElem hlt
      obtain ⟨b, off, rfl, hxa0⟩ := unhide HDT k _ hx
      generalize T[k] = x at hx hxa0
      have HLO := hide hxa0.lows
      have hxa := hxa0.keep (unhide HBr) hxa0.lows.1 hxa0.lows.2
      have c0 := hxa.c0
      have c1 := hxa.c1
      have c2 := hxa.c2
      have HXA := hide hxa0
      have HNM : Hid (x.nm.size ≤ maxLen) := hide (by have := hxa0.nml; unfold maxLen; omega)
      clear hx hxa0 hxa
      go_upto_region 9 with fail
      have hal : Below wr.heap.size wr (wr.alloc (.cells #[.int .i64 x.op, .string x.nm, .slice x.ba x.bs.length x.bc] 31)) := (Below.refl _ _).alloc (Nat.le_refl _) _
      have HD2 : Hid (Bx (wr.alloc (.cells #[.int .i64 x.op, .string x.nm, .slice x.ba x.bs.length x.bc] 31)).drew wr.heap.size 31 #[.int .i64 x.op, .string x.nm, .slice x.ba x.bs.length x.bc]) := hide (heap_alloc_new wr _)
      have HO2 := hide ((unhide HOr).below hal.drew)
      have HX2 := hide ((unhide HXr).below hal.drew)
      have HB2 := hide ((unhide HBr).trans (hal.drew.mono (unhide HBr).size))
      clear hal c0 c1 c2 HOr HXr
      refine wp_region_held_drew (S := fun w' => Bx w' wr.heap.size 31 #[.int .i64 x.op, .string x.nm, .slice x.ba x.bs.length x.bc]) mixed (unhide HD2) (fun hS => ?_)
      generalize (wr.alloc (.cells #[.int .i64 x.op, .string x.nm, .slice x.ba x.bs.length x.bc] 31)).drew = Wd at hS HD2 HO2 HX2 HB2 ⊢
      generalize wr.heap.size = bd at hS HD2 ⊢
      have HDA := hide ((unhide HXA).keep (unhide HB2) (unhide HLO).1 (unhide HLO).2)
      refine wpAnyH_take (i := 1) (v := .pointer (some ⟨bd, 1, none⟩)) rfl (by kernel_rfl) (by kernel_rfl) (by kernel_rfl) (fun _ _ _ h => h) (Or.inl ⟨by rfl, fun W _ => by go_simp⟩) hS ?_
      go_simp
      refine wpAnyH_take (i := 2) (v := .string x.nm) rfl (by kernel_rfl) (by kernel_rfl) (by kernel_rfl) (fun _ _ _ h => h) (Or.inl ⟨by rfl, fun W h => by have h1 := h.c 1 rfl; go_simp⟩) hS ?_
      go_simp
      refine wpAnyH_take (i := 3) (v := .pointer (some ⟨bd, 2, none⟩)) rfl (by kernel_rfl) (by kernel_rfl) (by kernel_rfl) (fun _ _ _ h => h) (Or.inl ⟨by rfl, fun W _ => by go_simp⟩) hS ?_
      go_simp
      refine wpAnyH_take (i := 4) (v := .slice x.ba x.bs.length x.bc) rfl (by kernel_rfl) (by kernel_rfl) (by kernel_rfl) (fun _ _ _ h => h) (Or.inl ⟨by rfl, fun W h => by have h2 := h.c 2 rfl; go_simp⟩) hS ?_
      go_simp
      refine wpAnyH_take (i := 0) (v := .pointer (some ⟨w.heap.size, 0, none⟩)) rfl (by kernel_rfl) (by kernel_rfl) (by kernel_rfl) (fun _ _ _ h => h) (Or.inl ⟨by rfl, fun W _ => by go_simp⟩) hS ?_
      go_simp
      have HCl := hide (Clone_any x.ba x.bc x.bs Wd (unhide HDA).by_ (fun e => ((unhide HDA).nil_ e).1) (by have := (unhide HDA).fit; omega))
      refine wpAnyH_ready (rs := [5]) (by kernel_rfl) (by simp) ?_
      refine AllReadyH.cons rfl (fun KK hK => ?_) AllReadyH.nil
      go_simp
      go_wp2_with (go_at_call 19; (with_reducible refine (unhide HCl).mono ?_); rintro e W3 ⟨v3, rfl, hO3, hb3, -⟩)
      obtain ⟨a3, c3, hv3, hB3, -, -⟩ := hO3.atN
      subst hv3
      have HO3 := hide ((unhide HO2).below hb3)
      have HX3 := hide ((unhide HX2).below hb3)
      have HD3 := hide ((unhide HD2).below hb3)
      have HB3 := hide ((unhide HB2).trans (hb3.mono (unhide HB2).size))
      have HPt := hide (PutS_sep x.nm a3 c3 x.bs (unhide HO3).tw.st (unhide HO3).tw.big (unhide HO3).tw.ok (unhide HNM) hB3 hO3.nilN (by have := (unhide HDA).fit; omega))
      have HCD := hide ((unhide HO3).tw.codeP x.nm x.bs)
      have HB34 : Hid (∀ W', Below W3.heap.size W3 W' → Below Wd.heap.size Wd W') := hide (fun W' hb => hb3.trans (hb.mono hb3.size))
      have HB35 : Hid (∀ W', Kept (SA w.heap.size iv kv) W3 W' → Below w.heap.size w W') := hide (fun W' hk => (unhide HB3).trans (below_SA (unhide HO3).tw.st hk))
      have HBA := hide ((unhide HXA).by_)
      obtain ⟨code, hcode⟩ : ∃ code, code = putE I K x.nm x.bs := ⟨_, rfl⟩
      rw [← hcode] at HPt HCD
      have HCO := hide hcode
      refine hK.out _ _ (unhide HD3) (fun hS3 => ?_)
      clear hK KK hS hO3 hb3 hB3 HCl HO2 HX2 HD2 HB2 hcode
      refine wpAnyH_ready (rs := [6]) (by kernel_rfl) (by simp) ?_
      refine AllReadyH.cons rfl (fun KK hK => ?_) AllReadyH.nil
      go_simp
      go_wp2_with fail
      refine (unhide HPt).mono ?_
      rintro e W4 (⟨cc, hcc, rfl, hc0, -, hb4⟩ | ⟨hc0, v4, iv8, kv8, rfl, hst, hwr, hk, hF⟩)
      · go_simp
        refine hK.out _ _ ((unhide HD3).below hb4) (fun hS4 => ?_)
        clear hK KK hS3
        have HO4 := hide ((unhide HO3).below hb4)
        have HX4 := hide ((unhide HX3).below hb4)
        have HD4 := hide ((unhide HD3).below hb4)
        have HB4 := hide ((unhide HB3).trans (hb4.mono (unhide HB3).size))
        have HRf := hide (refPut_any (xa := xa) (xc := xc) (la := la) (lc := lc) x.nm x.ba x.bc x.bs ((unhide HO4).tw.xo2) (unhide HO4).tw.big (unhide HO4).tw.lo2 (unhide HO4).tw.lenL (unhide HNM) ((unhide HDA).by_.below' (unhide HB34 W4 hb4)) (unhide HDA).nil_ (PL := fun _ => True) (fun _ _ => trivial))
        rw [unhide HCD] at HRf
        rw [← (unhide HO4).tw.lnI, ← (unhide HO4).tw.lnN] at HRf
        subst hcc
        have HC0 := hide hc0
        clear hc0 hb4 HO3 HX3 HD3 HB3 HPt
        refine wpAnyH_take (i := 7) (v := .tuple #[.slice none 0 0, .int .i64 code]) rfl (by kernel_rfl) (by kernel_rfl) (by kernel_rfl) (fun _ _ _ h => h) (Or.inl ⟨by rfl, fun W _ => by go_simp⟩) hS4 ?_
        go_simp
        refine wpAnyH_take (i := 8) (v := .slice none 0 0) rfl (by kernel_rfl) (by kernel_rfl) (by kernel_rfl) (fun _ _ _ h => h) (Or.inl ⟨by rfl, fun W _ => by go_simp⟩) hS4 ?_
        go_simp
        refine wpAnyH_take (i := 9) (v := .int .i64 code) rfl (by kernel_rfl) (by kernel_rfl) (by kernel_rfl) (fun _ _ _ h => h) (Or.inl ⟨by rfl, fun W _ => by go_simp⟩) hS4 ?_
        go_simp
        refine wpAnyH_take (i := 10) (v := .slice none 0 0) rfl (by kernel_rfl) (by kernel_rfl) (by kernel_rfl) (fun _ _ _ h => h) (Or.inl ⟨by rfl, fun W _ => by go_simp⟩) hS4 ?_
        go_simp
        refine wpAnyH_take (i := 11) (v := .int .i64 code) rfl (by kernel_rfl) (by kernel_rfl) (by kernel_rfl) (fun _ _ _ h => h) (Or.inl ⟨by rfl, fun W _ => by go_simp⟩) hS4 ?_
        go_simp
        refine wpAnyH_done (by kernel_rfl) ?_ _
        have y0 := (unhide HX4).c 0 rfl
        have y1 := (unhide HX4).c 1 rfl
        have d1 := (unhide HD4).c 1 rfl
        have d2 := (unhide HD4).c 2 rfl
        go_wp2_with fail
        refine (unhide HRf).mono ?_
        rintro e W6 ⟨hb6, ⟨cr, hcr, -, rfl⟩ | ⟨hcr, -⟩⟩
        · subst hcr
          have HO6 := hide ((unhide HO4).below hb6)
          have HX6 := hide ((unhide HX4).below hb6)
          have HD6 := hide ((unhide HD4).below hb6)
          have HB6 := hide ((unhide HB4).trans (hb6.mono (unhide HB4).size))
          have hcn : (code != code) = false := by simp
          clear hb6 HRf y0 y1 d1 d2 HO4 HX4 HD4 HB4
          have HLN0 := HLr
          clear HLr
          go_upto_region 11 with fail
          have hal8 : Below W6.heap.size W6 (W6.alloc (.cells #[.slice xa n1 xc, .slice la n2 lc] 28)) := (Below.refl _ _).alloc (Nat.le_refl _) _
          have HY9 : Hid (Bx (W6.alloc (.cells #[.slice xa n1 xc, .slice la n2 lc] 28)) W6.heap.size 28 #[.slice xa n1 xc, .slice la n2 lc]) := hide (heap_alloc_new W6 _)
          have HX7 := hide ((unhide HX6).below hal8)
          have HD7 := hide ((unhide HD6).below hal8)
          have HB7 := hide ((unhide HB6).trans (hal8.mono (unhide HB6).size))
          have HO7 := hide ((unhide HO6).below hal8)
          clear hal8 HX6 HD6 HB6 HO6
          generalize (W6.alloc (.cells #[.slice xa n1 xc, .slice la n2 lc] 28)) = W7 at HY9 HX7 HD7 HB7 HO7 ⊢
          generalize W6.heap.size = b14 at HY9 ⊢
          have HSW := hide (SameWrites_nil W7)
          go_wp2_with fail
          refine (unhide HSW).mono ?_
          rintro e W8 ⟨rfl, hb8⟩
          have HX8 := hide ((unhide HX7).below hb8)
          have HD8 := hide ((unhide HD7).below hb8)
          have HY8 := hide ((unhide HY9).below hb8)
          have HB8 := hide ((unhide HB7).trans (hb8.mono (unhide HB7).size))
          have HO8 := hide ((unhide HO7).below hb8)
          clear hb8 HSW HX7 HD7 HB7 HO7 HY9
          have z0 := (unhide HY8).c 0 rfl
          have z1 := (unhide HY8).c 1 rfl
          have hkr := kept_row W8 b9 #[.slice xa n1 xc, .slice la n2 lc]
          have hSt : ∀ q cs t, q = b9 → W8.heap[q]? = some (.cells cs t (0, 0)) → t = 28 := fun q cs t e hh => by
            have h9 := unhide HX8
            unfold Bx at h9
            rw [e, h9] at hh
            injection hh with hh
            injection hh with _ hh _
            exact hh.symm
          have HXW : Hid (Bx (W8.setRow b9 #[.slice xa n1 xc, .slice la n2 lc]) b9 28 #[.slice xa n1 xc, .slice la n2 lc]) := hide (setRow_heap _ _ _ _ _ _ (unhide HX8))
          have HOW := hide ((unhide HO8).keepTy hkr (fun q cs t e hh => by rw [hSt q cs t e hh]; decide))
          have HDW : Hid (Bx (W8.setRow b9 #[.slice xa n1 xc, .slice la n2 lc]) bd 31 #[.int .i64 x.op, .string x.nm, .slice x.ba x.bs.length x.bc]) := hide ((unhide HD8).keepB hkr (fun e => ty_ne (unhide HD8) (unhide HX8) (by decide) e))
          have HBW : Hid (Below w.heap.size w (W8.setRow b9 #[.slice xa n1 xc, .slice la n2 lc])) := hide (below_rowS (unhide HB8) hb9 _)
          clear hkr hSt
          go_upto_region 14 with (refine wpList_store_row rfl 28 _ _ rfl b9 #[.slice xa n1 xc, .slice la n2 lc] rfl rfl 28 #[.slice xa n1 xc, .slice la n2 lc] (unhide HX8) (by kernel_rfl) rfl (by simp [Value.oneCell']) ?_)
          clear HX8 HD8 HB8 HO8 HY8 z0 z1
          generalize (W8.setRow b9 #[.slice xa n1 xc, .slice la n2 lc]) = W9 at HXW HOW HDW HBW ⊢
          go_wp2_with fail
          go_loopw [62] (fun i wj => i = .int .i64 0 ∧ wj = W9) (fun i _ => 0)
          case atStart => exact ⟨rfl, rfl⟩
          case round =>
            obtain ⟨rfl, rfl⟩ := hrel
            obtain ⟨itw, hitw⟩ : ∃ itw, itw = its := ⟨_, rfl⟩
            have HLN : Hid (itw.length * 5 ≤ 10 * k + 2 * I.length) := hide (by rw [hitw]; have := unhide HLN0; omega)
            rw [← hitw] at HOW
            clear hitw HLN0
            have HBG : Hid (itw.length * 5 ≤ 10 * k + 2 * I.length) := HLN
            clear HLN
            go_wp2_with fail
            go_loopw [71] (fun i wr => ∃ (j : Nat) (sv : Value) (itn : List Value), j ≤ 2 ∧ i = .int .i64 j ∧ Hid (OwI wr w.heap.size w.heap.size iv kv (.slice xa n1 xc) (.slice la n2 lc) I K L sp sv itn) ∧ Hid (Bx wr b9 28 #[.slice xa n1 xc, .slice la n2 lc]) ∧ Hid (Bx wr bd 31 #[.int .i64 x.op, .string x.nm, .slice x.ba x.bs.length x.bc]) ∧ Hid (Below w.heap.size w wr) ∧ Hid (itn.length * 5 ≤ 10 * k + 5 * j + 2 * I.length)) (fun i _ => 2 - (intOf i).toNat)
            case atStart => exact ⟨0, _, itw, by omega, rfl, HOW, HXW, HDW, HBW, HBG⟩
            case round =>
              clear HOW HXW HDW HBW HBG
              obtain ⟨j, svj, itn, hj, rfl, HO, HX, HD, HB, HN⟩ := hrel
              by_cases hlj : j < 2
              · have i1 : ((j : Nat) : Int) < 2 := by omega
                have HG := hide (GetS_pk (unhide HO).tw.st (unhide HO).tw.big (unhide HO).tw.ok (unhide HO).tw.en x.nm (unhide HNM))
                have HGL : Hid ((getB (pkV I K) x.nm).length ≤ 4096) := hide (getB_len (unhide HO).tw.en x.nm)
                obtain ⟨gb, hgb⟩ : ∃ gb, gb = getB (pkV I K) x.nm := ⟨_, rfl⟩
                obtain ⟨ge, hge⟩ : ∃ ge, ge = getE (pkV I K) x.nm := ⟨_, rfl⟩
                rw [← hgb, ← hge] at HG
                rw [← hgb] at HGL
                clear hgb hge
                have d1 := (unhide HD).c 1 rfl
                go_wp2_with fail
                refine (unhide HG).mono ?_
                rintro e V1 ⟨v1, rfl, hO1, hb1⟩
                obtain ⟨a1, c1, rfl, -, -, -⟩ := hO1.atN
                have HO1 := hide ((unhide HO).below hb1)
                have HF1 := hide ((unhide HO).free hO1)
                have HR1 := hide (hO1.mono (Nat.zero_le _))
                have HX1 := hide ((unhide HX).below hb1)
                have HD1 := hide ((unhide HD).below hb1)
                have HB1 := hide ((unhide HB).trans (hb1.mono (unhide HB).size))
                have HSB := hide (ShBytes (unhide HO1).sh a1 gb.length c1 (by have h1 := unhide HN; have h2 := (unhide HO1).tw.big; have h3 := unhide HTL; omega))
                clear hO1 hb1 HG HO HX HD HB d1
                go_wp2_with fail
                refine (unhide HSB).mono ?_
                rintro e V2 ⟨rfl, sv2, hs2, hk2, hf2⟩
                have HO2 := hide ((unhide HO1).push hk2 hs2 hf2 (unhide HR1) (by have := unhide HGL; omega) (unhide HF1))
                have HX2 := hide ((unhide HX1).keepSh (unhide HO1) hk2 (by decide))
                have HD2 := hide ((unhide HD1).keepSh (unhide HO1) hk2 (by decide))
                have HB2 := hide ((unhide HO1).shBelow hk2 (unhide HB1))
                have HN2 : Hid ((itn ++ [Value.slice a1 gb.length c1]).length * 5 ≤ 10 * k + 5 * (j + 1) + 2 * I.length) := hide (by have := unhide HN; rw [List.length_append]; simp; omega)
                clear hs2 hk2 hf2 HSB HO1 HX1 HD1 HB1 HN HR1 HF1 HGL
                go_wp2
                go_roundw
                case rel => exact ⟨j + 1, sv2, _, by omega, by go_num, HO2, HX2, HD2, HB2, HN2⟩
                case measure => simp [intOf]; omega
              · have i1 : ¬ ((j : Nat) : Int) < 2 := by omega
                have HN2 : Hid (itn.length * 5 ≤ 10 * (k + 1) + 2 * I.length) := hide (by have := unhide HN; omega)
                clear HN
                go_wp2
                go_roundw
                case rel => exact ⟨k + 1, iv, kv, xa, n1, xc, la, n2, lc, I, K, L, svj, itn, by omega, by go_num, HO, HX, HB, HN2⟩
                case measure => simp [intOf]; omega
        · exact absurd hcr (unhide HC0)
      · obtain ⟨wbq, -, -, -, -, hvq, -⟩ := hwr.at
        subst hvq
        go_simp
        refine hK.out _ _ ((unhide HD3).keepSA (unhide HO3).tw.st hk (by decide) (by decide) (by decide)) (fun hS4 => ?_)
        clear hK KK hS3
        have HX4 := hide ((unhide HX3).keepSA (unhide HO3).tw.st hk (by decide) (by decide) (by decide))
        have HD4 := hide ((unhide HD3).keepSA (unhide HO3).tw.st hk (by decide) (by decide) (by decide))
        have HB4 := hide ((unhide HB3).trans (below_SA (unhide HO3).tw.st hk))
        obtain ⟨hxo, hlo, hrk⟩ := (unhide HO3).tw.stands hk
        have HRf := hide (refPut_any (xa := xa) (xc := xc) (la := la) (lc := lc) x.nm x.ba x.bc x.bs (own_lnI hxo) (unhide HO3).tw.big (own_lnL hlo) (unhide HO3).tw.lenL (unhide HNM) ((unhide HBA).below' (unhide HB35 W4 hk)) (unhide HDA).nil_ (PL := fun L' => ∃ ba bc, L' = putN (posN (rNm L) x.nm) (hasN (rNm L) x.nm) L ⟨x.nm, ba, bc, x.bs⟩) (fun ba bc => ⟨ba, bc, rfl⟩))
        rw [unhide HCD] at HRf
        rw [← (unhide HO3).tw.lnI, ← (unhide HO3).tw.lnN] at HRf
        have HNX := hide (fun (W : World) (xi' lv' : Value) (L' : List Rk) (hb : Below W4.heap.size W4 W) hx hl hn hL => (unhide HO3).tw.put (w2 := W) (xi' := xi') (lv' := lv') (L' := L') (base := W4.heap.size) hst hk hF hb (Nat.le_refl _) hx hl hn hL (by rw [← unhide HCO]; exact hc0))
        have HWR := hide hwr.at
        obtain ⟨wb4, wha, whc, wfa, wfc, hveq, hwb, hwx, hwa, hwf, hw6, hw7⟩ := hwr
        have hq4 : wb4 = wbq := by injection hveq with h1; injection h1 with h1; injection h1 with h1; exact h1.symm
        subst hq4
        clear hveq
        have HKF := hide (And.intro hk hF)
        have HPQ := hide (fun (W : World) (xi' : Value) (L' : List Rk) (hb : Below W4.heap.size W4 W) hx hn => (unhide HO3).pend (w2 := W) (xi' := xi') (L' := L') hwa hwf (by rw [hidB_len]; have := recK_len x.nm x.bs; have := putE_ok (by rw [← unhide HCO]; exact hc0); have := (name_24 this.1).2; omega) (by simp) hw6 hw7 hb hx hn)
        have HWX := hide hwx
        have HGI : Hid (I.length + 5 ≤ (I ++ recK x.nm x.bs).length) := hide (by rw [List.length_append, recK_len]; have := putE_ok (by rw [← unhide HCO]; exact hc0); have := (name_24 this.1).1; omega)
        have HSZ : Hid ((hidB (recK x.nm x.bs)).length ≤ 10000) := hide (by rw [hidB_len]; have := recK_len x.nm x.bs; have := putE_ok (by rw [← unhide HCO]; exact hc0); have := (name_24 this.1).2; omega)
        subst hc0
        clear hst hk hF hxo hlo hrk hwb hwx hwa hwf hw6 hw7 HX3 HD3 HB3 HPt
        refine wpAnyH_take (i := 7) (v := .tuple #[.slice (some ⟨wb4, 0, none⟩) 2 2, .int .i64 0]) rfl (by kernel_rfl) (by kernel_rfl) (by kernel_rfl) (fun _ _ _ h => h) (Or.inl ⟨by rfl, fun W _ => by go_simp⟩) hS4 ?_
        go_simp
        refine wpAnyH_take (i := 8) (v := .slice (some ⟨wb4, 0, none⟩) 2 2) rfl (by kernel_rfl) (by kernel_rfl) (by kernel_rfl) (fun _ _ _ h => h) (Or.inl ⟨by rfl, fun W _ => by go_simp⟩) hS4 ?_
        go_simp
        refine wpAnyH_take (i := 9) (v := .int .i64 0) rfl (by kernel_rfl) (by kernel_rfl) (by kernel_rfl) (fun _ _ _ h => h) (Or.inl ⟨by rfl, fun W _ => by go_simp⟩) hS4 ?_
        go_simp
        refine wpAnyH_take (i := 10) (v := .slice (some ⟨wb4, 0, none⟩) 2 2) rfl (by kernel_rfl) (by kernel_rfl) (by kernel_rfl) (fun _ _ _ h => h) (Or.inl ⟨by rfl, fun W _ => by go_simp⟩) hS4 ?_
        go_simp
        refine wpAnyH_take (i := 11) (v := .int .i64 0) rfl (by kernel_rfl) (by kernel_rfl) (by kernel_rfl) (fun _ _ _ h => h) (Or.inl ⟨by rfl, fun W _ => by go_simp⟩) hS4 ?_
        go_simp
        refine wpAnyH_done (by kernel_rfl) ?_ _
        have y0 := (unhide HX4).c 0 rfl
        have y1 := (unhide HX4).c 1 rfl
        have d1 := (unhide HD4).c 1 rfl
        have d2 := (unhide HD4).c 2 rfl
        go_wp2_with fail
        refine (unhide HRf).mono ?_
        rintro e W6 ⟨hb6, ⟨cr, hcr, hcr0, rfl⟩ | ⟨hcr, xi2, lv2, v5, L8, rfl, hx2, hl2, hn2, hL2, hw2⟩⟩
        · exact absurd hcr.symm hcr0
        · have hxlt : ∀ q, xi2.ownBlock = some q → W4.heap.size ≤ q := fun q e => (World.ownsRow.lt hx2 q e).1
          have HO6 := hide ((unhide HO3).put (unhide HNX W6 xi2 lv2 L8 hb6 hx2 hl2 hn2 hL2) (unhide HKF).1 (unhide HKF).2 hb6 hxlt hn2)
          have HP6 := hide (unhide HPQ W6 xi2 L8 hb6 hxlt hn2)
          have HX6 := hide ((unhide HX4).below hb6)
          have HD6 := hide ((unhide HD4).below hb6)
          have HB6 := hide ((unhide HB4).trans (hb6.mono (unhide HB4).size))
          have HW6 := hide ((unhide HWX).below hb6)
          have HWR6 := hide ((unhide HWR).below hb6)
          have HV6 := hide hw2
          obtain ⟨wb5, -, -, -, -, rfl, -⟩ := hw2
          obtain ⟨I8, hI8⟩ : ∃ I8, I8 = I ++ recK x.nm x.bs := ⟨_, rfl⟩
          obtain ⟨K8, hK8⟩ : ∃ K8, K8 = putK I K x.nm x.bs := ⟨_, rfl⟩
          rw [← hI8, ← hK8] at HO6
          rw [← hI8] at HGI
          obtain ⟨wA, hwA⟩ : ∃ wA, wA = hidB (recK x.nm x.bs) := ⟨_, rfl⟩
          obtain ⟨wC, hwC⟩ : ∃ wC, wC = [(recK x.nm x.bs).getD 0 0] := ⟨_, rfl⟩
          rw [← hwA, ← hwC] at HP6 HW6 HWR6 HV6
          rw [← hwA] at HSZ
          have HCL : Hid (wC.length ≤ 10000) := hide (by rw [hwC]; simp)
          obtain ⟨at8_, hat⟩ : ∃ at8_ : Nat, at8_ = I.length := ⟨_, rfl⟩
          rw [← hat] at HW6 HWR6 HV6
          have HLN : Hid (its.length * 5 + 10 ≤ 10 * k + 2 * I8.length) := hide (by have := unhide HGI; have := unhide HLr; omega)
          clear hb6 HRf hx2 hl2 hn2 hL2 HNX HPQ HWX HKF hI8 hK8 hwA hwC hat hxlt y0 y1 d1 d2 HX4 HD4 HB4 HO3 HWR HGI
          obtain ⟨xa8, xc8, hx8, -⟩ := (unhide HO6).tw.xo.at
          obtain ⟨la8, lc8, hl8, -⟩ := (unhide HO6).tw.lo.at
          subst hx8 hl8
          obtain ⟨n8, hn8⟩ : ∃ n8, n8 = I8.length := ⟨_, rfl⟩
          obtain ⟨q8, hq8⟩ : ∃ q8, q8 = L8.length := ⟨_, rfl⟩
          rw [← hn8, ← hq8] at HO6 ⊢
          rw [← hn8] at HP6
          clear hn8 hq8
          go_upto_region 11 with fail
          have hal8 : Below W6.heap.size W6 (W6.alloc (.cells #[.slice xa8 n8 xc8, .slice la8 q8 lc8] 28)) := (Below.refl _ _).alloc (Nat.le_refl _) _
          have HY9 : Hid (Bx (W6.alloc (.cells #[.slice xa8 n8 xc8, .slice la8 q8 lc8] 28)) W6.heap.size 28 #[.slice xa8 n8 xc8, .slice la8 q8 lc8]) := hide (heap_alloc_new W6 _)
          have HX7 := hide ((unhide HX6).below hal8)
          have HD7 := hide ((unhide HD6).below hal8)
          have HB7 := hide ((unhide HB6).trans (hal8.mono (unhide HB6).size))
          have HO7 := hide ((unhide HO6).below hal8)
          have HP7 := hide ((unhide HP6).below hal8)
          have HW7 := hide ((unhide HW6).below hal8)
          have HWR7 := hide ((unhide HWR6).below hal8)
          have HV7 := hide ((unhide HV6).below hal8)
          clear HP6 HW6 HWR6 HV6
          clear hal8 HX6 HD6 HB6 HO6
          generalize (W6.alloc (.cells #[.slice xa8 n8 xc8, .slice la8 q8 lc8] 28)) = W7 at HY9 HX7 HD7 HB7 HO7 HP7 HW7 HWR7 HV7 ⊢
          generalize W6.heap.size = b14 at HY9 ⊢
          have HSW := hide (SameWrites_two (unhide HWR7) (unhide HV7) (unhide HSZ) (unhide HCL))
          go_wp2_with fail
          refine (unhide HSW).mono ?_
          rintro e W8 ⟨rfl, hb8⟩
          have HX8 := hide ((unhide HX7).below hb8)
          have HD8 := hide ((unhide HD7).below hb8)
          have HY8 := hide ((unhide HY9).below hb8)
          have HB8 := hide ((unhide HB7).trans (hb8.mono (unhide HB7).size))
          have HO8 := hide ((unhide HO7).below hb8)
          have HP8 := hide ((unhide HP7).below hb8)
          have HW8 := hide ((unhide HW7).below hb8)
          clear HP7 HW7 HWR7 HV7
          clear hb8 HSW HX7 HD7 HB7 HO7 HY9
          have z0 := (unhide HY8).c 0 rfl
          have z1 := (unhide HY8).c 1 rfl
          have hkr := kept_row W8 b9 #[.slice xa8 n8 xc8, .slice la8 q8 lc8]
          have hSt : ∀ q cs t, q = b9 → W8.heap[q]? = some (.cells cs t (0, 0)) → t = 28 := fun q cs t e hh => by
            have h9 := unhide HX8
            unfold Bx at h9
            rw [e, h9] at hh
            injection hh with hh
            injection hh with _ hh _
            exact hh.symm
          have HXW : Hid (Bx (W8.setRow b9 #[.slice xa8 n8 xc8, .slice la8 q8 lc8]) b9 28 #[.slice xa8 n8 xc8, .slice la8 q8 lc8]) := hide (setRow_heap _ _ _ _ _ _ (unhide HX8))
          have HOW := hide ((unhide HO8).keepTy hkr (fun q cs t e hh => by rw [hSt q cs t e hh]; decide))
          have HDW : Hid (Bx (W8.setRow b9 #[.slice xa8 n8 xc8, .slice la8 q8 lc8]) bd 31 #[.int .i64 x.op, .string x.nm, .slice x.ba x.bs.length x.bc]) := hide ((unhide HD8).keepB hkr (fun e => ty_ne (unhide HD8) (unhide HX8) (by decide) e))
          have HBW : Hid (Below w.heap.size w (W8.setRow b9 #[.slice xa8 n8 xc8, .slice la8 q8 lc8])) := hide (below_rowS (unhide HB8) hb9 _)
          have HPW := hide ((unhide HP8).keepTy hkr (fun q cs t e hh => by rw [hSt q cs t e hh]; decide))
          have HWW : Hid (Bx (W8.setRow b9 #[.slice xa8 n8 xc8, .slice la8 q8 lc8]) wb4 66 #[.int .i64 (at8_ : Int), .slice wha wA.length whc, .int .i64 (at8_ : Int), .slice wfa wC.length wfc]) := hide ((unhide HW8).keepB hkr (fun e => ty_ne (unhide HW8) (unhide HX8) (by decide) e))
          clear HP8 HW8
          clear hkr hSt
          go_upto_region 14 with (refine wpList_store_row rfl 28 _ _ rfl b9 #[.slice xa8 n8 xc8, .slice la8 q8 lc8] rfl rfl 28 #[.slice xa n1 xc, .slice la n2 lc] (unhide HX8) (by kernel_rfl) rfl (by simp [Value.oneCell']) ?_)
          clear HX8 HD8 HB8 HO8 HY8 z0 z1
          generalize (W8.setRow b9 #[.slice xa8 n8 xc8, .slice la8 q8 lc8]) = W9 at HXW HOW HDW HBW HPW HWW ⊢
          go_wp2_with fail
          go_loopw [62] (fun i wr => ∃ (j : Nat) (sv : Value), j ≤ 2 ∧ i = .int .i64 j ∧ Hid (OwI wr w.heap.size w.heap.size iv8 kv8 (.slice xa8 n8 xc8) (.slice la8 q8 lc8) I8 K8 L8 sp sv (its ++ ([.slice wha wA.length whc, .slice wfa wC.length wfc] : List Value).take j)) ∧ Hid (Pend wr w.heap.size iv8 (.slice xa8 n8 xc8) L8 its [.slice wha wA.length whc, .slice wfa wC.length wfc]) ∧ Hid (Bx wr b9 28 #[.slice xa8 n8 xc8, .slice la8 q8 lc8]) ∧ Hid (Bx wr bd 31 #[.int .i64 x.op, .string x.nm, .slice x.ba x.bs.length x.bc]) ∧ Hid (Bx wr wb4 66 #[.int .i64 (at8_ : Int), .slice wha wA.length whc, .int .i64 (at8_ : Int), .slice wfa wC.length wfc]) ∧ Hid (Below w.heap.size w wr)) (fun i _ => 2 - (intOf i).toNat)
          case atStart => exact ⟨0, _, by omega, rfl, by rw [List.take_zero, List.append_nil]; exact HOW, HPW, HXW, HDW, HWW, HBW⟩
          case round =>
            clear HOW HPW HXW HDW HWW HBW
            obtain ⟨j, svj, hj, rfl, HOj, HPj, HXj, HDj, HWj, HBj⟩ := hrel
            by_cases hlj : j < 2
            · have i1 : ((j : Nat) : Int) < 2 := by omega
              rcases (show j = 0 ∨ j = 1 by omega) with rfl | rfl
              · have z0 := (unhide HWj).c 0 rfl
                have z1 := (unhide HWj).c 1 rfl
                go_upto_region 17 with fail
                have hal : Below wr.heap.size wr (wr.alloc (.cells #[.int .i64 (at8_ : Int), .slice wha wA.length whc] 66)) := (Below.refl _ _).alloc (Nat.le_refl _) _
                have HZ : Hid (Bx (wr.alloc (.cells #[.int .i64 (at8_ : Int), .slice wha wA.length whc] 66)) wr.heap.size 66 #[.int .i64 (at8_ : Int), .slice wha wA.length whc]) := hide (heap_alloc_new wr _)
                have HO1 := hide ((unhide HOj).below hal)
                have HP1 := hide ((unhide HPj).below hal)
                have HX1 := hide ((unhide HXj).below hal)
                have HD1 := hide ((unhide HDj).below hal)
                have HW1 := hide ((unhide HWj).below hal)
                have HB1 := hide ((unhide HBj).trans (hal.mono (unhide HBj).size))
                clear hal z0 z1 HOj HPj HXj HDj HWj HBj
                generalize (wr.alloc (.cells #[.int .i64 (at8_ : Int), .slice wha wA.length whc] 66)) = V1 at HZ HO1 HP1 HX1 HD1 HW1 HB1 ⊢
                generalize wr.heap.size = bz at HZ ⊢
                have z1 := (unhide HZ).c 1 rfl
                have HSB := hide (ShBytes (unhide HO1).sh wha wA.length whc (by have h1 := unhide HLN; have h2 := (unhide HO1).tw.big; have h3 := unhide HTL; rw [List.length_append]; simp; omega))
                go_wp2_with fail
                refine (unhide HSB).mono ?_
                rintro e V2 ⟨rfl, sv2, hs2, hk2, hf2⟩
                have HO2 : Hid (OwI V2 w.heap.size w.heap.size iv8 kv8 (.slice xa8 n8 xc8) (.slice la8 q8 lc8) I8 K8 L8 sp sv2 (its ++ ([.slice wha wA.length whc, .slice wfa wC.length wfc]).take (0 + 1))) := hide (by
                  obtain ⟨lu, hou, hlu⟩ := (unhide HP1).ow 0 _ rfl
                  have := (unhide HO1).push hk2 hs2 hf2 hou hlu ((unhide HP1).free (j := 0) rfl)
                  simpa using this)
                have HP2 := hide ((unhide HP1).keepTy hk2 (fun q cs t e hh => ((unhide HO1).shS q cs t e hh).2.1))
                have HX2 := hide ((unhide HX1).keepSh (unhide HO1) hk2 (by decide))
                have HD2 := hide ((unhide HD1).keepSh (unhide HO1) hk2 (by decide))
                have HW2 := hide ((unhide HW1).keepSh (unhide HO1) hk2 (by decide))
                have HB2 := hide ((unhide HO1).shBelow hk2 (unhide HB1))
                clear hs2 hk2 hf2 HSB HO1 HP1 HX1 HD1 HW1 HB1 z1 HZ
                go_wp2
                go_roundw
                case rel => exact ⟨0 + 1, sv2, by omega, by go_num, HO2, HP2, HX2, HD2, HW2, HB2⟩
                case measure => simp [intOf]
              · have z0 := (unhide HWj).c 2 rfl
                have z1 := (unhide HWj).c 3 rfl
                go_upto_region 17 with fail
                have hal : Below wr.heap.size wr (wr.alloc (.cells #[.int .i64 (at8_ : Int), .slice wfa wC.length wfc] 66)) := (Below.refl _ _).alloc (Nat.le_refl _) _
                have HZ : Hid (Bx (wr.alloc (.cells #[.int .i64 (at8_ : Int), .slice wfa wC.length wfc] 66)) wr.heap.size 66 #[.int .i64 (at8_ : Int), .slice wfa wC.length wfc]) := hide (heap_alloc_new wr _)
                have HO1 := hide ((unhide HOj).below hal)
                have HP1 := hide ((unhide HPj).below hal)
                have HX1 := hide ((unhide HXj).below hal)
                have HD1 := hide ((unhide HDj).below hal)
                have HW1 := hide ((unhide HWj).below hal)
                have HB1 := hide ((unhide HBj).trans (hal.mono (unhide HBj).size))
                clear hal z0 z1 HOj HPj HXj HDj HWj HBj
                generalize (wr.alloc (.cells #[.int .i64 (at8_ : Int), .slice wfa wC.length wfc] 66)) = V1 at HZ HO1 HP1 HX1 HD1 HW1 HB1 ⊢
                generalize wr.heap.size = bz at HZ ⊢
                have z1 := (unhide HZ).c 1 rfl
                have HSB := hide (ShBytes (unhide HO1).sh wfa wC.length wfc (by have h1 := unhide HLN; have h2 := (unhide HO1).tw.big; have h3 := unhide HTL; rw [List.length_append]; simp; omega))
                go_wp2_with fail
                refine (unhide HSB).mono ?_
                rintro e V2 ⟨rfl, sv2, hs2, hk2, hf2⟩
                have HO2 : Hid (OwI V2 w.heap.size w.heap.size iv8 kv8 (.slice xa8 n8 xc8) (.slice la8 q8 lc8) I8 K8 L8 sp sv2 (its ++ ([.slice wha wA.length whc, .slice wfa wC.length wfc]).take (1 + 1))) := hide (by
                  obtain ⟨lu, hou, hlu⟩ := (unhide HP1).ow 1 _ rfl
                  have := (unhide HO1).push hk2 hs2 hf2 hou hlu ((unhide HP1).free (j := 1) rfl)
                  simpa using this)
                have HP2 := hide ((unhide HP1).keepTy hk2 (fun q cs t e hh => ((unhide HO1).shS q cs t e hh).2.1))
                have HX2 := hide ((unhide HX1).keepSh (unhide HO1) hk2 (by decide))
                have HD2 := hide ((unhide HD1).keepSh (unhide HO1) hk2 (by decide))
                have HW2 := hide ((unhide HW1).keepSh (unhide HO1) hk2 (by decide))
                have HB2 := hide ((unhide HO1).shBelow hk2 (unhide HB1))
                clear hs2 hk2 hf2 HSB HO1 HP1 HX1 HD1 HW1 HB1 z1 HZ
                go_wp2
                go_roundw
                case rel => exact ⟨1 + 1, sv2, by omega, by go_num, HO2, HP2, HX2, HD2, HW2, HB2⟩
                case measure => simp [intOf]
            · have i1 : ¬ ((j : Nat) : Int) < 2 := by omega
              have hj2 : j = 2 := by omega
              have HOW := HOj
              rw [hj2] at HOW
              have HXW := HXj
              have HDW := HDj
              have HBW := HBj
              obtain ⟨itw, hitw⟩ : ∃ itw, itw = its ++ ([.slice wha wA.length whc, .slice wfa wC.length wfc] : List Value).take 2 := ⟨_, rfl⟩
              rw [← hitw] at HOW
              have HLN2 : Hid (itw.length * 5 ≤ 10 * k + 2 * I8.length) := hide (by have := unhide HLN; rw [hitw, List.length_append]; simp; omega)
              clear HLN HOj HPj HXj HDj HWj HBj hitw hj2 hj hlj
              have HLN := HLN2
              clear HLN2
              have HBG : Hid (itw.length * 5 ≤ 10 * k + 2 * I8.length) := HLN
              clear HLN
              go_wp2_with fail
              go_loopw [71] (fun i wr => ∃ (j : Nat) (sv : Value) (itn : List Value), j ≤ 2 ∧ i = .int .i64 j ∧ Hid (OwI wr w.heap.size w.heap.size iv8 kv8 (.slice xa8 n8 xc8) (.slice la8 q8 lc8) I8 K8 L8 sp sv itn) ∧ Hid (Bx wr b9 28 #[.slice xa8 n8 xc8, .slice la8 q8 lc8]) ∧ Hid (Bx wr bd 31 #[.int .i64 x.op, .string x.nm, .slice x.ba x.bs.length x.bc]) ∧ Hid (Below w.heap.size w wr) ∧ Hid (itn.length * 5 ≤ 10 * k + 5 * j + 2 * I8.length)) (fun i _ => 2 - (intOf i).toNat)
              case atStart => exact ⟨0, _, itw, by omega, rfl, HOW, HXW, HDW, HBW, HBG⟩
              case round =>
                clear HOW HXW HDW HBW HBG
                obtain ⟨j, svj, itn, hj, rfl, HO, HX, HD, HB, HN⟩ := hrel
                by_cases hlj : j < 2
                · have i1 : ((j : Nat) : Int) < 2 := by omega
                  have HG := hide (GetS_pk (unhide HO).tw.st (unhide HO).tw.big (unhide HO).tw.ok (unhide HO).tw.en x.nm (unhide HNM))
                  have HGL : Hid ((getB (pkV I8 K8) x.nm).length ≤ 4096) := hide (getB_len (unhide HO).tw.en x.nm)
                  obtain ⟨gb, hgb⟩ : ∃ gb, gb = getB (pkV I8 K8) x.nm := ⟨_, rfl⟩
                  obtain ⟨ge, hge⟩ : ∃ ge, ge = getE (pkV I8 K8) x.nm := ⟨_, rfl⟩
                  rw [← hgb, ← hge] at HG
                  rw [← hgb] at HGL
                  clear hgb hge
                  have d1 := (unhide HD).c 1 rfl
                  go_wp2_with fail
                  refine (unhide HG).mono ?_
                  rintro e V1 ⟨v1, rfl, hO1, hb1⟩
                  obtain ⟨a1, c1, rfl, -, -, -⟩ := hO1.atN
                  have HO1 := hide ((unhide HO).below hb1)
                  have HF1 := hide ((unhide HO).free hO1)
                  have HR1 := hide (hO1.mono (Nat.zero_le _))
                  have HX1 := hide ((unhide HX).below hb1)
                  have HD1 := hide ((unhide HD).below hb1)
                  have HB1 := hide ((unhide HB).trans (hb1.mono (unhide HB).size))
                  have HSB := hide (ShBytes (unhide HO1).sh a1 gb.length c1 (by have h1 := unhide HN; have h2 := (unhide HO1).tw.big; have h3 := unhide HTL; omega))
                  clear hO1 hb1 HG HO HX HD HB d1
                  go_wp2_with fail
                  refine (unhide HSB).mono ?_
                  rintro e V2 ⟨rfl, sv2, hs2, hk2, hf2⟩
                  have HO2 := hide ((unhide HO1).push hk2 hs2 hf2 (unhide HR1) (by have := unhide HGL; omega) (unhide HF1))
                  have HX2 := hide ((unhide HX1).keepSh (unhide HO1) hk2 (by decide))
                  have HD2 := hide ((unhide HD1).keepSh (unhide HO1) hk2 (by decide))
                  have HB2 := hide ((unhide HO1).shBelow hk2 (unhide HB1))
                  have HN2 : Hid ((itn ++ [Value.slice a1 gb.length c1]).length * 5 ≤ 10 * k + 5 * (j + 1) + 2 * I8.length) := hide (by have := unhide HN; rw [List.length_append]; simp; omega)
                  clear hs2 hk2 hf2 HSB HO1 HX1 HD1 HB1 HN HR1 HF1 HGL
                  go_wp2
                  go_roundw
                  case rel => exact ⟨j + 1, sv2, _, by omega, by go_num, HO2, HX2, HD2, HB2, HN2⟩
                  case measure => simp [intOf]; omega
                · have i1 : ¬ ((j : Nat) : Int) < 2 := by omega
                  have HN2 : Hid (itn.length * 5 ≤ 10 * (k + 1) + 2 * I8.length) := hide (by have := unhide HN; omega)
                  clear HN
                  go_wp2
                  go_roundw
                  case rel => exact ⟨k + 1, iv8, kv8, xa8, n8, xc8, la8, q8, lc8, I8, K8, L8, svj, itn, by omega, by go_num, HO, HX, HB, HN2⟩
                  case measure => simp [intOf]; omega
    · have i1 : ¬ ((k : Nat) : Int) < ((T.length : Nat) : Int) := by omega
      have HO0 := HOr
      have HXq := HXr
      have HBq := HBr
      clear HOr HXr HBr
      have HIm := hide (ImageS_any (unhide HO0).tw.st (unhide HO0).tw.big)
      go_wp2_with fail
      refine (unhide HIm).mono ?_
      rintro e W3 ⟨v3, rfl, hO3, hb3⟩
      obtain ⟨a3, c3, hv3, -, -, -⟩ := hO3.atN
      subst hv3
      have HO3 := hide ((unhide HO0).below hb3)
      have HF3 := hide ((unhide HO0).free hO3)
      have HR3 := hide (hO3.mono (Nat.zero_le _))
      have HX3 := hide ((unhide HXq).below hb3)
      have HB3 := hide ((unhide HBq).trans (hb3.mono (unhide HBq).size))
      have HSB := hide (ShBytes (unhide HO3).sh a3 I.length c3 (by have h1 := unhide HLr; have h2 := (unhide HO0).tw.big; have h3 := unhide HTL; omega))
      clear hO3 hb3 HIm HO0 HXq HBq
      go_wp2_with fail
      refine (unhide HSB).mono ?_
      rintro e W4 ⟨rfl, sv1, hs2, hk2, hf2⟩
      have HO0 := hide ((unhide HO3).push hk2 hs2 hf2 (unhide HR3) (by have := (unhide HO3).tw.big; omega) (unhide HF3))
      have HXq := hide ((unhide HX3).keepSh (unhide HO3) hk2 (by decide))
      have HBq := hide ((unhide HO3).shBelow hk2 (unhide HB3))
      obtain ⟨it1, hit1⟩ : ∃ z, z = its ++ [Value.slice a3 I.length c3] := ⟨_, rfl⟩
      rw [← hit1] at HO0
      have HI1 : Hid (0 < it1.length ∧ it1.length ≤ 5899999999999) := hide (by rw [hit1, List.length_append]; have h1 := unhide HLr; have h2 := (unhide HO3).tw.big; have h3 := unhide HTL; simp; omega)
      clear hs2 hk2 hf2 HSB HO3 HX3 HB3 HR3 HF3 hit1
      have HIm := hide (ImageS_any (unhide HO0).tw.st (unhide HO0).tw.big)
      go_wp2_with fail
      refine (unhide HIm).mono ?_
      rintro e W3 ⟨v3, rfl, hO3, hb3⟩
      obtain ⟨a3, c3, hv3, -, -, -⟩ := hO3.atN
      subst hv3
      have HO3 := hide ((unhide HO0).below hb3)
      have HF3 := hide ((unhide HO0).free hO3)
      have HR3 := hide (hO3.mono (Nat.zero_le _))
      have HX3 := hide ((unhide HXq).below hb3)
      have HB3 := hide ((unhide HBq).trans (hb3.mono (unhide HBq).size))
      have HSB := hide (ShBytes (unhide HO3).sh a3 I.length c3 (by have h1 := (unhide HI1).2; omega))
      clear hO3 hb3 HIm HO0 HXq HBq
      go_wp2_with fail
      refine (unhide HSB).mono ?_
      rintro e W4 ⟨rfl, sv2, hs2, hk2, hf2⟩
      have HO0 := hide ((unhide HO3).push hk2 hs2 hf2 (unhide HR3) (by have := (unhide HO3).tw.big; omega) (unhide HF3))
      have HXq := hide ((unhide HX3).keepSh (unhide HO3) hk2 (by decide))
      have HBq := hide ((unhide HO3).shBelow hk2 (unhide HB3))
      obtain ⟨it2, hit2⟩ : ∃ z, z = it1 ++ [Value.slice a3 I.length c3] := ⟨_, rfl⟩
      rw [← hit2] at HO0
      have HI2 : Hid (0 < it2.length ∧ it2.length ≤ 5900000000000) := hide (by rw [hit2, List.length_append]; have h1 := unhide HI1; simp; omega)
      clear hs2 hk2 hf2 HSB HO3 HX3 HB3 HR3 HF3 hit2
      have HNa := hide (NamesS_any (unhide HO0).tw.st (unhide HO0).tw.ok)
      have hK16 : K.length ≤ 16 := (unhide HO0).tw.ok.few
      go_wp2_with fail
      refine (unhide HNa).mono ?_
      rintro e W5 ⟨v5, rfl, hO5, hb5⟩
      obtain ⟨a5, c5, hv5, -⟩ := hO5.at
      subst hv5
      have HO5 := hide ((unhide HO0).below hb5)
      have HX5 := hide ((unhide HXq).below hb5)
      have HB5 := hide ((unhide HBq).trans (hb5.mono (unhide HBq).size))
      have HBW : Hid (w.heap.size ≤ W4.heap.size) := hide (unhide HBq).size
      have HT5 : Hid (∃ N, N.length = (kNm K).length ∧ OwnT W5 W4.heap.size (.slice a5 (kNm K).length c5) N) := hide ⟨_, rfl, hO5⟩
      have hnl : (kNm K).length ≤ 16 := by rw [kNm_len]; exact hK16
      obtain ⟨nn, hnn⟩ : ∃ nn, nn = (kNm K).length := ⟨_, rfl⟩
      rw [← hnn] at HT5 hnl ⊢
      clear hO5 hb5 hnn HNa HO0 HXq HBq
      go_wp2_with fail
      go_loopw [97] (fun i wr => ∃ (j : Nat), j ≤ nn ∧ i = .int .i64 j ∧ Hid (OwI wr w.heap.size w.heap.size iv kv (.slice xa n1 xc) (.slice la n2 lc) I K L sp sv2 it2) ∧ Hid (Bx wr b9 28 #[.slice xa n1 xc, .slice la n2 lc]) ∧ Hid (Below w.heap.size w wr) ∧ Hid (∃ N, N.length = nn ∧ OwnT wr W4.heap.size (.slice a5 nn c5) N)) (fun i _ => nn - (intOf i).toNat)
      case atStart => exact ⟨0, by omega, rfl, HO5, HX5, HB5, HT5⟩
      case round =>
        clear HO5 HX5 HB5 HT5
        obtain ⟨j, hj, rfl, HO, HX, HB, HT⟩ := hrel
        by_cases hlj : j < nn
        · have i1 : ((j : Nat) : Int) < ((nn : Nat) : Int) := by omega
          obtain ⟨N, hN, hTN⟩ := unhide HT
          obtain ⟨gb, hag, hgb, hty, ⟨s0, c0⟩, f0⟩ := hTN.cellS (hN.symm ▸ hlj)
          subst hag
          have hgn : ∀ q cs t, q = gb → wr.heap[q]? = some (.cells cs t (0, 0)) → t = 9 := fun q cs t e hh => by
            obtain ⟨cur, hc⟩ := hty
            rw [e, hc] at hh
            injection hh with hh
            injection hh with _ hh _
            exact hh.symm
          have hkd : Kept (fun q => q = gb) wr (wr.setCell ⟨gb, j, none⟩ (.string ⟨#[33]⟩)) := kept_setCell wr ⟨gb, j, none⟩ (.string ⟨#[33]⟩)
          have HO2 := hide ((unhide HO).keepTy hkd (fun q cs t e hh => by rw [hgn q cs t e hh]; decide))
          have HX2 := hide ((unhide HX).keepB hkd (fun e => absurd (hgn b9 _ _ e (unhide HX)) (by decide)))
          have HB2 : Hid (Below w.heap.size w (wr.setCell ⟨gb, j, none⟩ (.string ⟨#[33]⟩))) := hide ((unhide HB).setCell (p := ⟨gb, j, none⟩) (Nat.le_trans (unhide HBW) hgb) _)
          have HT2 : Hid (∃ N, N.length = nn ∧ OwnT (wr.setCell ⟨gb, j, none⟩ (.string ⟨#[33]⟩)) W4.heap.size (.slice (some ⟨gb, 0, none⟩) nn c5) N) := hide ⟨N.set j ⟨#[33]⟩, by rw [List.length_set]; exact hN, hTN.storeS hN j ⟨#[33]⟩⟩
          clear hTN hN hgn hkd HO HX HB HT hty
          go_wp2
          go_roundw
          case rel => exact ⟨j + 1, by omega, by go_num, HO2, HX2, HB2, HT2⟩
          case measure => simp [intOf]; omega
        · have i1 : ¬ ((j : Nat) : Int) < ((nn : Nat) : Int) := by omega
          have HOw := hide (Own_yes (unhide HO).sh (unhide HO).it (unhide HO).ap (unhide HI2).1 (unhide HI2).2)
          clear HT
          go_wp2_with fail
          refine (unhide HOw).mono ?_
          rintro e W7 ⟨rfl, hk7⟩
          have HT7 := hide ((unhide HO).tw.keepQ hk7 (fun e => (by obtain ⟨c, hc⟩ := ((unhide HO).lt e).2; exact ty_ne hc (unhide HO).tw.st.row (by decide) rfl)) (fun q e e2 => ((unhide HO).se q e2).2.1 e) (fun q e e2 => (by obtain ⟨c, hc⟩ := ((unhide HO).lt e2).2; obtain ⟨cur, hh⟩ := (unhide HO).tw.st.kty _ e; exact ty_ne hc hh (by decide) rfl)) (fun q e e2 => ((unhide HO).se q e2).2.2.1 e) (fun q e e2 => (by obtain ⟨c, hc⟩ := ((unhide HO).lt e2).2; obtain ⟨cur, hh⟩ := own_tyR (unhide HO).tw.lo e; exact ty_ne hc hh (by decide) rfl)) (fun x hx q e e2 => ((unhide HO).se q e2).2.2.2 x hx e))
          have HX7 := hide ((unhide HX).keepB hk7 (fun e => (by obtain ⟨c, hc⟩ := ((unhide HO).lt e).2; exact ty_ne hc (unhide HX) (by decide) rfl)))
          have HB7 := hide (hk7.below (unhide HB) (unhide HO).Bw (fun q e => ((unhide HO).se q e).1))
          have HA7 := hide (alike_yes (unhide HT7).st (unhide HT7).big (unhide HT7).ok (unhide HT7).en (unhide HT7).xo (unhide HT7).lo (unhide HT7).rk.ok (unhide HT7).sm)
          have x0 := (unhide HX7).c 0 rfl
          have x1 := (unhide HX7).c 1 rfl
          clear hk7 HOw HO HX HB
          go_wp2_with fail
          refine (unhide HA7).mono ?_
          rintro e W8 ⟨rfl, hb8⟩
          have HB8 := hide ((unhide HB7).trans (hb8.mono (unhide HB7).size))
          clear hb8
          go_wp2
          go_ret
          exact ⟨rfl, unhide HB8⟩
end Go.Proofs.Ytkcnkfhdbjiggaa
