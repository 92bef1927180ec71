/-
  The walk of the law StorePlays: it returns true for every script, and writes nothing that was there.
-/
import Derived.Test.YtkcnkfhdbjiggaaJSZ
namespace Go.Proofs.Ytkcnkfhdbjiggaa
open Go.RowKit
set_option maxRecDepth 20000

theorem Tw.lnN {w : World} {B g : Nat} {iv kv xi : Value} {la : Option Addr} {n c : Nat} {I : List UInt8} {K : List Ke} {L : List Rk} (h : Tw w B g iv kv xi (.slice la n c) I K L) : n = L.length := by
  obtain ⟨a, c', hv, -⟩ := h.lo.at
  injection hv with _ hv _
theorem Tw.lo2 {w : World} {B g : Nat} {iv kv xi : Value} {la : Option Addr} {n c : Nat} {I : List UInt8} {K : List Ke} {L : List Rk} (h : Tw w B g iv kv xi (.slice la n c) I K L) : OwnR w 0 (.slice la L.length c) L := by
  have := h.lo
  rw [h.lnN] at this
  exact this
set_option maxRecDepth 20000 in
set_option maxHeartbeats 4000000 in
theorem walkStorePlays {w : World} (so : Option Addr) (sc : Nat) (T : List Dn) (hT : DosAt w so T) (hTl : T.length * 48 ≤ 140737488351232) :
    Calls Try.prog 3 #[.slice so T.length sc] w fun e w' => e = .returned (.bool true) ∧ Below w.heap.size w w' := by
  have hTl2 : T.length < 9223372036854775000 := by omega
  have HDT := hide hT
  clear hT hTl
  go_enter Try.func3, Try.ntmps3
  go_wp2_with fail
  refine (NewS_any w).mono ?_
  rintro e W1 ⟨rfl, hst1, hb1⟩
  have HT1 := hide (Tw.zero hst1)
  have HB1 := hide hb1
  clear hst1 hb1
  go_upto_region 3 with fail
  have hal : Below W1.heap.size W1 (W1.alloc (.cells #[.slice none 0 0, .slice none 0 0] 28)) := (Below.refl _ _).alloc (Nat.le_refl _) _
  have HX2 : Hid (Bx (W1.alloc (.cells #[.slice none 0 0, .slice none 0 0] 28)) W1.heap.size 28 #[.slice none 0 0, .slice none 0 0]) := hide (heap_alloc_new W1 _)
  have HT2 := hide ((unhide HT1).below hal)
  have HB2 := hide ((unhide HB1).trans (hal.mono (unhide HB1).size))
  clear hal HT1
  generalize (W1.alloc (.cells #[.slice none 0 0, .slice none 0 0] 28)) = W2 at HX2 HT2 HB2 ⊢
  have hb9 : w.heap.size ≤ W1.heap.size := (unhide HB1).size
  generalize W1.heap.size = b9 at HX2 hb9 ⊢
  clear HB1
  have HA0 := hide (alike_yes (unhide HT2).st (unhide HT2).big (unhide HT2).ok (unhide HT2).en (unhide HT2).xo (unhide HT2).lo (unhide HT2).rk.ok (unhide HT2).sm)
  have x0 := (unhide HX2).c 0 rfl
  have x1 := (unhide HX2).c 1 rfl
  go_wp2_with fail
  refine (unhide HA0).mono ?_
  rintro e W0 ⟨rfl, hb0⟩
  have HT0 := hide ((unhide HT2).below hb0)
  have HX0 := hide ((unhide HX2).below hb0)
  have HB0 := hide ((unhide HB2).trans (hb0.mono (unhide HB2).size))
  clear hb0 HA0 x0 x1 HT2 HX2 HB2
  go_wp2_with fail
  go_loopw [3, 24] (fun p i wr => ∃ (k g : Nat) (iv kv : Value) (xa : Option Addr) (n1 xc : Nat) (la : Option Addr) (n2 lc : Nat) (I : List UInt8) (K : List Ke) (L : List Rk), k ≤ T.length ∧ i = .int .i64 k ∧ p = .pointer (some ⟨g, 0, none⟩) ∧ Hid (Tw wr w.heap.size g iv kv (.slice xa n1 xc) (.slice la n2 lc) I K L ∧ ImK I K) ∧ Hid (Bx wr b9 28 #[.slice xa n1 xc, .slice la n2 lc]) ∧ Hid (Below w.heap.size w wr)) (fun _ i _ => T.length - (intOf i).toNat)
  case atStart => exact ⟨0, _, _, _, _, _, _, _, _, _, _, _, _, by omega, rfl, rfl, hide ⟨unhide HT0, ImK.zero⟩, HX0, HB0⟩
  case round =>
    clear HX0 HT0 HB0
    obtain ⟨k, g, iv, kv, xa, n1, xc, la, n2, lc, I, K, L, hk, rfl, rfl, HTL, HXr, HBr⟩ := hrel
    by_cases hlt : k < T.length
    · have i1 : ((k : Nat) : Int) < ((T.length : Nat) : Int) := by omega
      have hx := List.getElem?_eq_getElem hlt
      obtain ⟨b, off, rfl, hxa0⟩ := unhide HDT k _ hx
      generalize T[k] = x at hx hxa0
      have HLO := hide hxa0.lows
      have hxa := hxa0.keep (unhide HBr) hxa0.lows.1 hxa0.lows.2
      have c0 := hxa.c0
      have c1 := hxa.c1
      have c2 := hxa.c2
      have HXA := hide hxa0
      clear hx hxa0 hxa
      go_upto_region 8 with fail
      have hal : Below wr.heap.size wr (wr.alloc (.cells #[.int .i64 x.op, .string x.nm, .slice x.ba x.bs.length x.bc] 31)) := (Below.refl _ _).alloc (Nat.le_refl _) _
      have HXd : Hid (Bx (wr.alloc (.cells #[.int .i64 x.op, .string x.nm, .slice x.ba x.bs.length x.bc] 31)) wr.heap.size 31 #[.int .i64 x.op, .string x.nm, .slice x.ba x.bs.length x.bc]) := hide (heap_alloc_new wr _)
      have HTL2 := hide (And.intro ((unhide HTL).1.below hal) (unhide HTL).2)
      have HXr2 := hide ((unhide HXr).below hal)
      have HBr2 := hide ((unhide HBr).trans (hal.mono (unhide HBr).size))
      have HLD : Hid (w.heap.size ≤ wr.heap.size ∧ b9 < wr.heap.size) := hide ⟨(unhide HBr).size, (unhide HXr).lt⟩
      clear hal c0 c1 c2 HTL HXr
      generalize (wr.alloc (.cells #[.int .i64 x.op, .string x.nm, .slice x.ba x.bs.length x.bc] 31)) = wa at HXd HTL2 HXr2 HBr2 ⊢
      generalize wr.heap.size = bd at HXd HLD ⊢
      have d0 := (unhide HXd).c 0 rfl
      have d1 := (unhide HXd).c 1 rfl
      have d2 := (unhide HXd).c 2 rfl
      go_upto_region 9 with fail
      obtain ⟨r, hre, hr⟩ := u64rem6 x.op
      rw [hre]
      clear hre
      rcases hr with rfl | rfl | rfl | rfl | rfl | rfl
      · have hkd := kept_setCell wa ⟨bd, 0, none⟩ (.int .i64 0)
        have f0 := (unhide HXd).f 0
        have HXe : Hid (Bx (wa.setCell ⟨bd, 0, none⟩ (.int .i64 0)) bd 31 #[.int .i64 0, .string x.nm, .slice x.ba x.bs.length x.bc]) := hide ((unhide HXd).set 0 (.int .i64 0) rfl)
        have HTb := hide (And.intro ((unhide HTL2).1.keepT (unhide HXd) hkd) (unhide HTL2).2)
        have HXb := hide ((unhide HXr2).other ⟨bd, 0, none⟩ (.int .i64 0) (by have := (unhide HLD).2; show b9 ≠ bd; omega))
        have HBb : Hid (Below w.heap.size w (wa.setCell ⟨bd, 0, none⟩ (.int .i64 0))) := hide ((unhide HBr2).setCell (p := ⟨bd, 0, none⟩) (unhide HLD).1 _)
        clear hkd HTL2 HXr2 HBr2
        go_upto_region 15 with fail
        clear HXd f0 d0 d1 d2
        generalize (wa.setCell ⟨bd, 0, none⟩ (.int .i64 0)) = wb at HXe HTb HXb HBb ⊢
        have d0 := (unhide HXe).c 0 rfl
        have d1 := (unhide HXe).c 1 rfl
        have d2 := (unhide HXe).c 2 rfl
        have HDA := hide ((unhide HXA).keep (unhide HBb) (unhide HLO).1 (unhide HLO).2)
        have HDo := hide (doPut_any x.nm x.ba x.bc x.bs (unhide HTb).1 (by have := (unhide HDA).nml; unfold maxLen; omega) (unhide HDA).by_ (unhide HDA).nil_ (unhide HDA).fit (unhide HLO).2)
        have y0 := (unhide HXb).c 0 rfl
        have y1 := (unhide HXb).c 1 rfl
        go_wp2_with fail
        refine (unhide HDo).mono ?_
        intro e W8 h8
        obtain ⟨hk8, xi8, lv8, v8, iv8, kv8, I8, K8, L8, rfl, ht8, hl8⟩ := (unhide HTb).2.done (fun hc => (unhide HTb).2.put hc (unhide HTb).1.en) h8
        obtain ⟨xa8, xc8, rfl, -⟩ := ht8.xo.at
        obtain ⟨la8, lc8, rfl, -⟩ := ht8.lo.at
        have HX8 := hide ((unhide HXb).keepSA (unhide HTb).1.st hk8 (by decide) (by decide) (by decide))
        have HB8 := hide ((unhide HBb).trans (below_SA (unhide HTb).1.st hk8))
        have HT8 := hide (And.intro ht8 hl8)
        obtain ⟨n8, hn8⟩ : ∃ n8, n8 = I8.length := ⟨_, rfl⟩
        obtain ⟨q8, hq8⟩ : ∃ q8, q8 = L8.length := ⟨_, rfl⟩
        rw [← hn8, ← hq8] at HT8 ⊢
        clear hk8 ht8 hl8 HDo h8 HTb HXb HBb y0 y1 d0 d1 d2 hn8 hq8
        go_upto_region 16 with fail
        have hal8 : Below W8.heap.size W8 (W8.alloc (.cells #[.slice xa8 n8 xc8, .slice la8 q8 lc8] 28)) := (Below.refl _ _).alloc (Nat.le_refl _) _
        have HY9 : Hid (Bx (W8.alloc (.cells #[.slice xa8 n8 xc8, .slice la8 q8 lc8] 28)) W8.heap.size 28 #[.slice xa8 n8 xc8, .slice la8 q8 lc8]) := hide (heap_alloc_new W8 _)
        have HX9 := hide ((unhide HX8).below hal8)
        have HB9 := hide ((unhide HB8).trans (hal8.mono (unhide HB8).size))
        have HT9 := hide (And.intro ((unhide HT8).1.below hal8) (unhide HT8).2)
        clear hal8 HX8 HB8 HT8
        generalize (W8.alloc (.cells #[.slice xa8 n8 xc8, .slice la8 q8 lc8] 28)) = W9 at HY9 HX9 HB9 HT9 ⊢
        generalize W8.heap.size = b14 at HY9 ⊢
        have z0 := (unhide HY9).c 0 rfl
        have z1 := (unhide HY9).c 1 rfl
        have HXA9 : Hid (Bx (W9.setRow b9 #[.slice xa8 n8 xc8, .slice la8 q8 lc8]) b9 28 #[.slice xa8 n8 xc8, .slice la8 q8 lc8]) := hide (setRow_heap _ _ _ _ _ _ (unhide HX9))
        have HTA9 : Hid (Tw (W9.setRow b9 #[.slice xa8 n8 xc8, .slice la8 q8 lc8]) w.heap.size g iv8 kv8 (.slice xa8 n8 xc8) (.slice la8 q8 lc8) I8 K8 L8 ∧ ImK I8 K8) := hide ⟨(unhide HT9).1.keepS (unhide HX9) (kept_row W9 b9 _), (unhide HT9).2⟩
        have HBA9 : Hid (Below w.heap.size w (W9.setRow b9 #[.slice xa8 n8 xc8, .slice la8 q8 lc8])) := hide (below_rowS (unhide HB9) hb9 _)
        go_wp2_with (refine wpList_store_row rfl 28 _ _ rfl b9 #[.slice xa8 n8 xc8, .slice la8 q8 lc8] rfl rfl 28 #[.slice xa n1 xc, .slice la n2 lc] (unhide HX9) (by kernel_rfl) rfl (by simp [Value.oneCell']) ?_)
        go_roundw
        case rel => exact ⟨k + 1, g, iv8, kv8, xa8, n8, xc8, la8, q8, lc8, I8, K8, L8, by omega, by go_num, rfl, HTA9, HXA9, HBA9⟩
        case measure => simp [intOf]; omega
      · have hkd := kept_setCell wa ⟨bd, 0, none⟩ (.int .i64 1)
        have f0 := (unhide HXd).f 0
        have HXe : Hid (Bx (wa.setCell ⟨bd, 0, none⟩ (.int .i64 1)) bd 31 #[.int .i64 1, .string x.nm, .slice x.ba x.bs.length x.bc]) := hide ((unhide HXd).set 0 (.int .i64 1) rfl)
        have HTb := hide (And.intro ((unhide HTL2).1.keepT (unhide HXd) hkd) (unhide HTL2).2)
        have HXb := hide ((unhide HXr2).other ⟨bd, 0, none⟩ (.int .i64 1) (by have := (unhide HLD).2; show b9 ≠ bd; omega))
        have HBb : Hid (Below w.heap.size w (wa.setCell ⟨bd, 0, none⟩ (.int .i64 1))) := hide ((unhide HBr2).setCell (p := ⟨bd, 0, none⟩) (unhide HLD).1 _)
        clear hkd HTL2 HXr2 HBr2
        go_upto_region 15 with fail
        clear HXd f0 d0 d1 d2
        generalize (wa.setCell ⟨bd, 0, none⟩ (.int .i64 1)) = wb at HXe HTb HXb HBb ⊢
        have d0 := (unhide HXe).c 0 rfl
        have d1 := (unhide HXe).c 1 rfl
        have d2 := (unhide HXe).c 2 rfl
        have HDA := hide ((unhide HXA).keep (unhide HBb) (unhide HLO).1 (unhide HLO).2)
        have HDo := hide (doDrop_any x.nm x.ba x.bs.length x.bc (unhide HTb).1 (by have := (unhide HDA).nml; unfold maxLen; omega))
        have y0 := (unhide HXb).c 0 rfl
        have y1 := (unhide HXb).c 1 rfl
        go_wp2_with fail
        refine (unhide HDo).mono ?_
        intro e W8 h8
        obtain ⟨hk8, xi8, lv8, v8, iv8, kv8, I8, K8, L8, rfl, ht8, hl8⟩ := (unhide HTb).2.done (fun hc => (unhide HTb).2.drop hc) h8
        obtain ⟨xa8, xc8, rfl, -⟩ := ht8.xo.at
        obtain ⟨la8, lc8, rfl, -⟩ := ht8.lo.at
        have HX8 := hide ((unhide HXb).keepSA (unhide HTb).1.st hk8 (by decide) (by decide) (by decide))
        have HB8 := hide ((unhide HBb).trans (below_SA (unhide HTb).1.st hk8))
        have HT8 := hide (And.intro ht8 hl8)
        obtain ⟨n8, hn8⟩ : ∃ n8, n8 = I8.length := ⟨_, rfl⟩
        obtain ⟨q8, hq8⟩ : ∃ q8, q8 = L8.length := ⟨_, rfl⟩
        rw [← hn8, ← hq8] at HT8 ⊢
        clear hk8 ht8 hl8 HDo h8 HTb HXb HBb y0 y1 d0 d1 d2 hn8 hq8
        go_upto_region 16 with fail
        have hal8 : Below W8.heap.size W8 (W8.alloc (.cells #[.slice xa8 n8 xc8, .slice la8 q8 lc8] 28)) := (Below.refl _ _).alloc (Nat.le_refl _) _
        have HY9 : Hid (Bx (W8.alloc (.cells #[.slice xa8 n8 xc8, .slice la8 q8 lc8] 28)) W8.heap.size 28 #[.slice xa8 n8 xc8, .slice la8 q8 lc8]) := hide (heap_alloc_new W8 _)
        have HX9 := hide ((unhide HX8).below hal8)
        have HB9 := hide ((unhide HB8).trans (hal8.mono (unhide HB8).size))
        have HT9 := hide (And.intro ((unhide HT8).1.below hal8) (unhide HT8).2)
        clear hal8 HX8 HB8 HT8
        generalize (W8.alloc (.cells #[.slice xa8 n8 xc8, .slice la8 q8 lc8] 28)) = W9 at HY9 HX9 HB9 HT9 ⊢
        generalize W8.heap.size = b14 at HY9 ⊢
        have z0 := (unhide HY9).c 0 rfl
        have z1 := (unhide HY9).c 1 rfl
        have HXA9 : Hid (Bx (W9.setRow b9 #[.slice xa8 n8 xc8, .slice la8 q8 lc8]) b9 28 #[.slice xa8 n8 xc8, .slice la8 q8 lc8]) := hide (setRow_heap _ _ _ _ _ _ (unhide HX9))
        have HTA9 : Hid (Tw (W9.setRow b9 #[.slice xa8 n8 xc8, .slice la8 q8 lc8]) w.heap.size g iv8 kv8 (.slice xa8 n8 xc8) (.slice la8 q8 lc8) I8 K8 L8 ∧ ImK I8 K8) := hide ⟨(unhide HT9).1.keepS (unhide HX9) (kept_row W9 b9 _), (unhide HT9).2⟩
        have HBA9 : Hid (Below w.heap.size w (W9.setRow b9 #[.slice xa8 n8 xc8, .slice la8 q8 lc8])) := hide (below_rowS (unhide HB9) hb9 _)
        go_wp2_with (refine wpList_store_row rfl 28 _ _ rfl b9 #[.slice xa8 n8 xc8, .slice la8 q8 lc8] rfl rfl 28 #[.slice xa n1 xc, .slice la n2 lc] (unhide HX9) (by kernel_rfl) rfl (by simp [Value.oneCell']) ?_)
        go_roundw
        case rel => exact ⟨k + 1, g, iv8, kv8, xa8, n8, xc8, la8, q8, lc8, I8, K8, L8, by omega, by go_num, rfl, HTA9, HXA9, HBA9⟩
        case measure => simp [intOf]; omega
      · have HT0 := hide (unhide HTL2).1
        have HDA := hide ((unhide HXA).keep (unhide HBr2) (unhide HLO).1 (unhide HLO).2)
        have hnl : x.nm.size ≤ maxLen := by have := (unhide HDA).nml; unfold maxLen; omega
        have HG1 := hide (GetS_pk (unhide HT0).st (unhide HT0).big (unhide HT0).ok (unhide HT0).en x.nm hnl)
        obtain ⟨V, hV⟩ : ∃ V, V = pkV I K := ⟨_, rfl⟩
        have HVL : Hid ((getB V x.nm).length ≤ 4096) := hide (by rw [hV]; exact getB_len (unhide HT0).en x.nm)
        rw [← hV] at HG1
        obtain ⟨ge, hge⟩ : ∃ ge, ge = getE V x.nm := ⟨_, rfl⟩
        obtain ⟨gb, hgb⟩ : ∃ gb, gb = getB V x.nm := ⟨_, rfl⟩
        rw [← hge, ← hgb] at HG1
        rw [← hgb] at HVL
        have HV := hide hV
        have HGE := hide hge
        have HGB := hide hgb
        clear hge hgb hV
        go_wp2_with fail
        refine (unhide HG1).mono ?_
        rintro e W3 ⟨v3, rfl, hO3, hb3⟩
        obtain ⟨a3, c3, rfl, hB3, -, -⟩ := hO3.atN
        have HT3 := hide (And.intro ((unhide HTL2).1.below hb3) (unhide HTL2).2)
        have HX3 := hide ((unhide HXr2).below hb3)
        have HD3 := hide ((unhide HXd).below hb3)
        have HB3 := hide ((unhide HBr2).trans (hb3.mono (unhide HBr2).size))
        have HBa := hide hB3
        have d1 := (unhide HD3).c 1 rfl
        have e0 := (unhide HX3).c 0 rfl
        have e1 := (unhide HX3).c 1 rfl
        have HG2 := hide (refGet_pk (xa := xa) (xn := n1) (xc := xc) x.nm (unhide HT3).1.lo2 (unhide HT3).1.rk (unhide HT3).1.lenL hnl ((unhide HT3).1.sm.pk.trans (unhide HV).symm))
        rw [← unhide HGE, ← unhide HGB, ← (unhide HT3).1.lnN] at HG2
        clear hO3 hb3 hB3 HT0 HG1 HXd HTL2 HXr2 HBr2 d0 d2
        go_wp2_with fail
        refine (unhide HG2).mono ?_
        rintro e W4 ⟨a4, c4, rfl, hB4, hb4⟩
        have HT4 := hide (And.intro ((unhide HT3).1.below hb4) (unhide HT3).2)
        have HX4 := hide ((unhide HX3).below hb4)
        have HB4 := hide ((unhide HB3).trans (hb4.mono (unhide HB3).size))
        have HEq := hide (Equal_any a3 a4 c3 c4 gb gb W4 ((unhide HBa).below' hb4) hB4 (by have := unhide HVL; unfold maxLen; omega) (by have := unhide HVL; unfold maxLen; omega))
        rw [beq_self_eq_true] at HEq
        have hqe : (ge != ge) = false := by simp
        clear hB4 hb4 HT3 HX3 HB3 HD3 HBa HG2 d1 e0 e1
        go_wp2_with fail
        refine (unhide HEq).mono ?_
        rintro e W5 ⟨rfl, j5, hw5⟩
        have hb5 : Below W4.heap.size W4 W5 := by rw [hw5]; exact belowD (Below.refl _ _) j5
        have HT5 := hide (And.intro ((unhide HT4).1.below hb5) (unhide HT4).2)
        have HX5 := hide ((unhide HX4).below hb5)
        have HB5 := hide ((unhide HB4).trans (hb5.mono (unhide HB4).size))
        clear hw5 hb5 HEq HT4 HX4 HB4
        go_wp2
        go_roundw
        case rel => exact ⟨k + 1, g, iv, kv, xa, n1, xc, la, n2, lc, I, K, L, by omega, by go_num, rfl, HT5, HX5, HB5⟩
        case measure => simp [intOf]; omega
      · have HPk := hide (PackS_any (unhide HTL2).1.st (unhide HTL2).1.big (unhide HTL2).1.ok (unhide HTL2).1.en)
        clear d0 d1 d2
        go_wp2_with fail
        refine (unhide HPk).mono ?_
        rintro e W3 ⟨gp, ip, kp, I', K', rfl, hst3, hpk, hb3⟩
        have HX3 := hide ((unhide HXr2).below hb3)
        have HB3 := hide ((unhide HBr2).trans (hb3.mono (unhide HBr2).size))
        have e0 := (unhide HX3).c 0 rfl
        have e1 := (unhide HX3).c 1 rfl
        have HT3 := hide ((unhide HTL2).1.below hb3)
        have HRP := hide (refPack_any (xa := xa) (xn := n1) (xc := xc) (unhide HT3).lo2 (unhide HT3).rk (unhide HT3).lenL (unhide HT3).sms)
        rw [← (unhide HT3).lnN] at HRP
        have HS3 := hide hst3
        have HPK := hide hpk
        have HB30 := hide hb3
        clear hst3 hpk hb3 HXr2 HBr2 HXd HPk
        go_wp2_with fail
        refine (unhide HRP).mono ?_
        rintro e W4 ⟨xi4, rfl, hO4, hb4⟩
        have HT4 := hide (And.intro ((unhide HTL2).1.pack (unhide HS3) (unhide HPK) (unhide HB30) hb4 hO4) (unhide HPK).im)
        have HX4 := hide ((unhide HX3).below hb4)
        have HB4 := hide ((unhide HB3).trans (hb4.mono (unhide HB3).size))
        obtain ⟨xa4, n4, xc4, rfl⟩ : ∃ a n c, xi4 = .slice a n c := by
          obtain ⟨a, c, h, -⟩ := hO4.atN
          exact ⟨a, _, c, h⟩
        clear hO4 hb4 HX3 HB3 HT3 HRP HS3 HPK HB30 HTL2 e0 e1
        have HXA9 : Hid (Bx (W4.setRow b9 #[.slice xa4 n4 xc4, .slice la n2 lc]) b9 28 #[.slice xa4 n4 xc4, .slice la n2 lc]) := hide (setRow_heap _ _ _ _ _ _ (unhide HX4))
        have HTA9 : Hid (Tw (W4.setRow b9 #[.slice xa4 n4 xc4, .slice la n2 lc]) w.heap.size gp ip kp (.slice xa4 n4 xc4) (.slice la n2 lc) I' K' L ∧ ImK I' K') := hide ⟨(unhide HT4).1.keepS (unhide HX4) (kept_row W4 b9 _), (unhide HT4).2⟩
        have HBA9 : Hid (Below w.heap.size w (W4.setRow b9 #[.slice xa4 n4 xc4, .slice la n2 lc])) := hide (below_rowS (unhide HB4) hb9 _)
        go_wp2_with (refine wpList_store_row rfl 28 _ _ rfl b9 #[.slice xa4 n4 xc4, .slice la n2 lc] rfl rfl 28 #[.slice xa n1 xc, .slice la n2 lc] (unhide HX4) (by kernel_rfl) rfl (by simp [Value.oneCell']) ?_)
        go_roundw
        case rel => exact ⟨k + 1, gp, ip, kp, xa4, n4, xc4, la, n2, lc, I', K', L, by omega, by go_num, rfl, HTA9, HXA9, HBA9⟩
        case measure => simp [intOf]; omega
      · have HImg := hide (ImageS_any (unhide HTL2).1.st (unhide HTL2).1.big)
        clear d0 d1 d2
        go_wp2_with fail
        refine (unhide HImg).mono ?_
        rintro e W3 ⟨v3, rfl, hO3, hb3⟩
        obtain ⟨a3, c3, rfl, hB3, hn3, hc3⟩ := hO3.atN
        have HT3 := hide (And.intro ((unhide HTL2).1.below hb3) (unhide HTL2).2)
        have HX3 := hide ((unhide HXr2).below hb3)
        have HB3 := hide ((unhide HBr2).trans (hb3.mono (unhide HBr2).size))
        have HOp := hide (OpenS_im (unhide HT3).2 a3 c3 W3 hB3 hn3 (unhide HT3).1.big hc3)
        clear hO3 hb3 hB3 hn3 hc3 HTL2 HXr2 HBr2 HXd HImg
        go_wp2_with fail
        refine (unhide HOp).mono ?_
        rintro e W4 ⟨gt, it, kt, rfl, hst4, hb4⟩
        have HT4 := hide (And.intro ((unhide HT3).1.opened hst4 (Nat.le_refl _) hb4) (unhide HT3).2)
        have HX4 := hide ((unhide HX3).below hb4)
        have HB4 := hide ((unhide HB3).trans (hb4.mono (unhide HB3).size))
        clear hst4 hb4 HT3 HX3 HB3 HOp
        go_wp2
        go_roundw
        case rel => exact ⟨k + 1, gt, it, kt, xa, n1, xc, la, n2, lc, I, K, L, by omega, by go_num, rfl, HT4, HX4, HB4⟩
        case measure => simp [intOf]; omega
      · have HT0 := hide (unhide HTL2).1
        have HA1 := hide (alike_yes (unhide HT0).st (unhide HT0).big (unhide HT0).ok (unhide HT0).en (unhide HT0).xo (unhide HT0).lo (unhide HT0).rk.ok (unhide HT0).sm)
        have x0 := (unhide HXr2).c 0 rfl
        have x1 := (unhide HXr2).c 1 rfl
        clear d0 d1 d2 HT0
        go_wp2_with fail
        refine (unhide HA1).mono ?_
        rintro e W3 ⟨rfl, hb3⟩
        have HT3 := hide (And.intro ((unhide HTL2).1.below hb3) (unhide HTL2).2)
        have HX3 := hide ((unhide HXr2).below hb3)
        have HB3 := hide ((unhide HBr2).trans (hb3.mono (unhide HBr2).size))
        clear hb3 HA1 x0 x1 HTL2 HXr2 HBr2 HXd
        go_wp2
        go_roundw
        case rel => exact ⟨k + 1, g, iv, kv, xa, n1, xc, la, n2, lc, I, K, L, by omega, by go_num, rfl, HT3, HX3, HB3⟩
        case measure => simp [intOf]; omega
    · have i1 : ¬ ((k : Nat) : Int) < ((T.length : Nat) : Int) := by omega
      have HT0 := hide (unhide HTL).1
      have HA1 := hide (alike_yes (unhide HT0).st (unhide HT0).big (unhide HT0).ok (unhide HT0).en (unhide HT0).xo (unhide HT0).lo (unhide HT0).rk.ok (unhide HT0).sm)
      have x0 := (unhide HXr).c 0 rfl
      have x1 := (unhide HXr).c 1 rfl
      clear HT0
      go_wp2_with fail
      refine (unhide HA1).mono ?_
      rintro e W3 ⟨rfl, hb3⟩
      have HB3 := hide ((unhide HBr).trans (hb3.mono (unhide HBr).size))
      clear hb3 HA1 x0 x1
      go_wp2
      go_ret
      exact ⟨rfl, unhide HB3⟩
end Go.Proofs.Ytkcnkfhdbjiggaa
