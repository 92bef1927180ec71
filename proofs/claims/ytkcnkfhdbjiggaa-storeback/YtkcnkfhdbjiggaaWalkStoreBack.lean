/-
  The walk of the law StoreBack: it returns true for every script and name, and writes nothing that was there.
-/
import Derived.Test.YtkcnkfhdbjiggaaSu18
namespace Go.Proofs.Ytkcnkfhdbjiggaa
open Go.RowKit
set_option maxRecDepth 20000

set_option maxRecDepth 20000 in
set_option maxHeartbeats 2000000 in
theorem walkStoreBack {w : World} (so : Option Addr) (sc : Nat) (T : List Dn) (hT : DosAt w so T) (hTl : T.length * 48 ≤ 140737488351232) (s : ByteArray) (hsm : s.size ≤ maxLen) (_hs : s.size ≤ 140737488351232) :
    Calls Try.prog 5 #[.slice so T.length sc, .string s] w fun e w' => e = .returned (.bool true) ∧ Below w.heap.size w w' := by
  have hTl2 : T.length < 9223372036854775000 := by omega
  have HDT := hide hT
  clear hT hTl _hs
  go_enter Try.func5, Try.ntmps5
  go_wp2_with fail
  refine (NewS_any w).mono ?_
  rintro e W1 ⟨rfl, hst1, hb1⟩
  have HT1 := hide (Tw.zero hst1)
  have HB1 := hide hb1
  clear hst1 hb1
  go_upto_region 5 with fail
  have hal : Below W1.heap.size W1 (W1.alloc (.cells #[.slice none 0 0, .slice none 0 0] 28)) := (Below.refl _ _).alloc (Nat.le_refl _) _
  have HX2 : Hid (Bx (W1.alloc (.cells #[.slice none 0 0, .slice none 0 0] 28)) W1.heap.size 28 #[.slice none 0 0, .slice none 0 0]) := hide (heap_alloc_new W1 _)
  have HT2 := hide ((unhide HT1).below hal)
  have HB2 := hide ((unhide HB1).trans (hal.mono (unhide HB1).size))
  clear hal HT1
  generalize (W1.alloc (.cells #[.slice none 0 0, .slice none 0 0] 28)) = W2 at HX2 HT2 HB2 ⊢
  have hb9 : w.heap.size ≤ W1.heap.size := (unhide HB1).size
  generalize W1.heap.size = b9 at HX2 hb9 ⊢
  clear HB1
  go_wp2_with fail
  go_loopw [25] (fun i wr => ∃ (k : Nat) (iv kv : Value) (xa : Option Addr) (n1 xc : Nat) (la : Option Addr) (n2 lc : Nat) (I : List UInt8) (K : List Ke) (L : List Rk), k ≤ T.length ∧ i = .int .i64 k ∧ Hid (Tw wr w.heap.size w.heap.size iv kv (.slice xa n1 xc) (.slice la n2 lc) I K L ∧ ImK I K) ∧ Hid (Bx wr b9 28 #[.slice xa n1 xc, .slice la n2 lc]) ∧ Hid (Below w.heap.size w wr)) (fun i _ => T.length - (intOf i).toNat)
  case atStart => exact ⟨0, _, _, _, _, _, _, _, _, _, _, _, by omega, rfl, hide ⟨unhide HT2, ImK.zero⟩, HX2, HB2⟩
  case round =>
    clear HX2 HT2 HB2
    obtain ⟨k, iv, kv, xa, n1, xc, la, n2, lc, I, K, L, hk, rfl, HTL, HXr, HBr⟩ := hrel
    by_cases hlt : k < T.length
    · have i1 : ((k : Nat) : Int) < ((T.length : Nat) : Int) := by omega
      have hx := List.getElem?_eq_getElem hlt
      obtain ⟨b, off, rfl, hxa0⟩ := unhide HDT k _ hx
      generalize T[k] = x at hx hxa0
      have HLO := hide hxa0.lows
      have hxa := hxa0.keep (unhide HBr) hxa0.lows.1 hxa0.lows.2
      have c0 := hxa.c0
      have c1 := hxa.c1
      have c2 := hxa.c2
      have HXA := hide hxa0
      clear hx hxa0 hxa
      go_upto_region 8 with fail
      have hal : Below wr.heap.size wr (wr.alloc (.cells #[.int .i64 x.op, .string x.nm, .slice x.ba x.bs.length x.bc] 31)) := (Below.refl _ _).alloc (Nat.le_refl _) _
      have HXd : Hid (Bx (wr.alloc (.cells #[.int .i64 x.op, .string x.nm, .slice x.ba x.bs.length x.bc] 31)) wr.heap.size 31 #[.int .i64 x.op, .string x.nm, .slice x.ba x.bs.length x.bc]) := hide (heap_alloc_new wr _)
      have HTL2 := hide (And.intro ((unhide HTL).1.below hal) (unhide HTL).2)
      have HXr2 := hide ((unhide HXr).below hal)
      have HBr2 := hide ((unhide HBr).trans (hal.mono (unhide HBr).size))
      have HLD : Hid (w.heap.size ≤ wr.heap.size ∧ b9 < wr.heap.size) := hide ⟨(unhide HBr).size, (unhide HXr).lt⟩
      clear hal c0 c1 c2 HTL HXr
      generalize (wr.alloc (.cells #[.int .i64 x.op, .string x.nm, .slice x.ba x.bs.length x.bc] 31)) = wa at HXd HTL2 HXr2 HBr2 ⊢
      generalize wr.heap.size = bd at HXd HLD ⊢
      have d0 := (unhide HXd).c 0 rfl
      have d1 := (unhide HXd).c 1 rfl
      have d2 := (unhide HXd).c 2 rfl
      have f0 := (unhide HXd).f 0
      go_upto_region 9 with fail
      have hr := u64rem2 x.op
      generalize wrap64 ((IntKind.u64.wrap x.op).tmod 2) = r at hr ⊢
      have hkd := kept_setCell wa ⟨bd, 0, none⟩ (.int .i64 r)
      have HXe : Hid (Bx (wa.setCell ⟨bd, 0, none⟩ (.int .i64 r)) bd 31 #[.int .i64 r, .string x.nm, .slice x.ba x.bs.length x.bc]) := hide ((unhide HXd).set 0 (.int .i64 r) rfl)
      have HTb := hide (And.intro ((unhide HTL2).1.keepT (unhide HXd) hkd) (unhide HTL2).2)
      have HXb := hide ((unhide HXr2).other ⟨bd, 0, none⟩ (.int .i64 r) (by have := (unhide HLD).2; show b9 ≠ bd; omega))
      have HBb : Hid (Below w.heap.size w (wa.setCell ⟨bd, 0, none⟩ (.int .i64 r))) := hide ((unhide HBr2).setCell (p := ⟨bd, 0, none⟩) (unhide HLD).1 _)
      clear hkd HTL2 HXr2 HBr2 d0 d1 d2 f0 HXd
      generalize (wa.setCell ⟨bd, 0, none⟩ (.int .i64 r)) = wb at HXe HTb HXb HBb ⊢
      have d0 := (unhide HXe).c 0 rfl
      have d1 := (unhide HXe).c 1 rfl
      have d2 := (unhide HXe).c 2 rfl
      have HDA := hide ((unhide HXA).keep (unhide HBb) (unhide HLO).1 (unhide HLO).2)
      rcases hr with rfl | rfl
      · have HDo := hide (doPut_any x.nm x.ba x.bc x.bs (unhide HTb).1 (by have := (unhide HDA).nml; unfold maxLen; omega) (unhide HDA).by_ (unhide HDA).nil_ (unhide HDA).fit (unhide HLO).2)
        have y0 := (unhide HXb).c 0 rfl
        have y1 := (unhide HXb).c 1 rfl
        go_wp2_with fail
        refine (unhide HDo).mono ?_
        intro e W8 h8
        obtain ⟨hk8, xi8, lv8, v8, iv8, kv8, I8, K8, L8, rfl, ht8, hl8⟩ := (unhide HTb).2.done (fun hc => (unhide HTb).2.put hc (unhide HTb).1.en) h8
        obtain ⟨xa8, xc8, rfl, -⟩ := ht8.xo.at
        obtain ⟨la8, lc8, rfl, -⟩ := ht8.lo.at
        have HX8 := hide ((unhide HXb).keepSA (unhide HTb).1.st hk8 (by decide) (by decide) (by decide))
        have HB8 := hide ((unhide HBb).trans (below_SA (unhide HTb).1.st hk8))
        have HT8 := hide (And.intro ht8 hl8)
        obtain ⟨n8, hn8⟩ : ∃ n8, n8 = I8.length := ⟨_, rfl⟩
        obtain ⟨q8, hq8⟩ : ∃ q8, q8 = L8.length := ⟨_, rfl⟩
        rw [← hn8, ← hq8] at HT8 ⊢
        clear hk8 ht8 hl8 HDo h8 HTb HXb HBb y0 y1 d0 d1 d2 hn8 hq8
        go_upto_region 10 with fail
        have hal8 : Below W8.heap.size W8 (W8.alloc (.cells #[.slice xa8 n8 xc8, .slice la8 q8 lc8] 28)) := (Below.refl _ _).alloc (Nat.le_refl _) _
        have HY9 : Hid (Bx (W8.alloc (.cells #[.slice xa8 n8 xc8, .slice la8 q8 lc8] 28)) W8.heap.size 28 #[.slice xa8 n8 xc8, .slice la8 q8 lc8]) := hide (heap_alloc_new W8 _)
        have HX9 := hide ((unhide HX8).below hal8)
        have HB9 := hide ((unhide HB8).trans (hal8.mono (unhide HB8).size))
        have HT9 := hide (And.intro ((unhide HT8).1.below hal8) (unhide HT8).2)
        clear hal8 HX8 HB8 HT8
        generalize (W8.alloc (.cells #[.slice xa8 n8 xc8, .slice la8 q8 lc8] 28)) = W9 at HY9 HX9 HB9 HT9 ⊢
        generalize W8.heap.size = b14 at HY9 ⊢
        have z0 := (unhide HY9).c 0 rfl
        have z1 := (unhide HY9).c 1 rfl
        have HXA9 : Hid (Bx (W9.setRow b9 #[.slice xa8 n8 xc8, .slice la8 q8 lc8]) b9 28 #[.slice xa8 n8 xc8, .slice la8 q8 lc8]) := hide (setRow_heap _ _ _ _ _ _ (unhide HX9))
        have HTA9 : Hid (Tw (W9.setRow b9 #[.slice xa8 n8 xc8, .slice la8 q8 lc8]) w.heap.size w.heap.size iv8 kv8 (.slice xa8 n8 xc8) (.slice la8 q8 lc8) I8 K8 L8 ∧ ImK I8 K8) := hide ⟨(unhide HT9).1.keepS (unhide HX9) (kept_row W9 b9 _), (unhide HT9).2⟩
        have HBA9 : Hid (Below w.heap.size w (W9.setRow b9 #[.slice xa8 n8 xc8, .slice la8 q8 lc8])) := hide (below_rowS (unhide HB9) hb9 _)
        go_wp2_with (refine wpList_store_row rfl 28 _ _ rfl b9 #[.slice xa8 n8 xc8, .slice la8 q8 lc8] rfl rfl 28 #[.slice xa n1 xc, .slice la n2 lc] (unhide HX9) (by kernel_rfl) rfl (by simp [Value.oneCell']) ?_)
        go_roundw
        case rel => exact ⟨k + 1, iv8, kv8, xa8, n8, xc8, la8, q8, lc8, I8, K8, L8, by omega, by go_num, HTA9, HXA9, HBA9⟩
        case measure => simp [intOf]; omega
      · have HDo := hide (doDrop_any x.nm x.ba x.bs.length x.bc (unhide HTb).1 (by have := (unhide HDA).nml; unfold maxLen; omega))
        have y0 := (unhide HXb).c 0 rfl
        have y1 := (unhide HXb).c 1 rfl
        go_wp2_with fail
        refine (unhide HDo).mono ?_
        intro e W8 h8
        obtain ⟨hk8, xi8, lv8, v8, iv8, kv8, I8, K8, L8, rfl, ht8, hl8⟩ := (unhide HTb).2.done (fun hc => (unhide HTb).2.drop hc) h8
        obtain ⟨xa8, xc8, rfl, -⟩ := ht8.xo.at
        obtain ⟨la8, lc8, rfl, -⟩ := ht8.lo.at
        have HX8 := hide ((unhide HXb).keepSA (unhide HTb).1.st hk8 (by decide) (by decide) (by decide))
        have HB8 := hide ((unhide HBb).trans (below_SA (unhide HTb).1.st hk8))
        have HT8 := hide (And.intro ht8 hl8)
        obtain ⟨n8, hn8⟩ : ∃ n8, n8 = I8.length := ⟨_, rfl⟩
        obtain ⟨q8, hq8⟩ : ∃ q8, q8 = L8.length := ⟨_, rfl⟩
        rw [← hn8, ← hq8] at HT8 ⊢
        clear hk8 ht8 hl8 HDo h8 HTb HXb HBb y0 y1 d0 d1 d2 hn8 hq8
        go_upto_region 10 with fail
        have hal8 : Below W8.heap.size W8 (W8.alloc (.cells #[.slice xa8 n8 xc8, .slice la8 q8 lc8] 28)) := (Below.refl _ _).alloc (Nat.le_refl _) _
        have HY9 : Hid (Bx (W8.alloc (.cells #[.slice xa8 n8 xc8, .slice la8 q8 lc8] 28)) W8.heap.size 28 #[.slice xa8 n8 xc8, .slice la8 q8 lc8]) := hide (heap_alloc_new W8 _)
        have HX9 := hide ((unhide HX8).below hal8)
        have HB9 := hide ((unhide HB8).trans (hal8.mono (unhide HB8).size))
        have HT9 := hide (And.intro ((unhide HT8).1.below hal8) (unhide HT8).2)
        clear hal8 HX8 HB8 HT8
        generalize (W8.alloc (.cells #[.slice xa8 n8 xc8, .slice la8 q8 lc8] 28)) = W9 at HY9 HX9 HB9 HT9 ⊢
        generalize W8.heap.size = b14 at HY9 ⊢
        have z0 := (unhide HY9).c 0 rfl
        have z1 := (unhide HY9).c 1 rfl
        have HXA9 : Hid (Bx (W9.setRow b9 #[.slice xa8 n8 xc8, .slice la8 q8 lc8]) b9 28 #[.slice xa8 n8 xc8, .slice la8 q8 lc8]) := hide (setRow_heap _ _ _ _ _ _ (unhide HX9))
        have HTA9 : Hid (Tw (W9.setRow b9 #[.slice xa8 n8 xc8, .slice la8 q8 lc8]) w.heap.size w.heap.size iv8 kv8 (.slice xa8 n8 xc8) (.slice la8 q8 lc8) I8 K8 L8 ∧ ImK I8 K8) := hide ⟨(unhide HT9).1.keepS (unhide HX9) (kept_row W9 b9 _), (unhide HT9).2⟩
        have HBA9 : Hid (Below w.heap.size w (W9.setRow b9 #[.slice xa8 n8 xc8, .slice la8 q8 lc8])) := hide (below_rowS (unhide HB9) hb9 _)
        go_wp2_with (refine wpList_store_row rfl 28 _ _ rfl b9 #[.slice xa8 n8 xc8, .slice la8 q8 lc8] rfl rfl 28 #[.slice xa n1 xc, .slice la n2 lc] (unhide HX9) (by kernel_rfl) rfl (by simp [Value.oneCell']) ?_)
        go_roundw
        case rel => exact ⟨k + 1, iv8, kv8, xa8, n8, xc8, la8, q8, lc8, I8, K8, L8, by omega, by go_num, HTA9, HXA9, HBA9⟩
        case measure => simp [intOf]; omega
    · have i1 : ¬ ((k : Nat) : Int) < ((T.length : Nat) : Int) := by omega
      have HT0 := hide (unhide HTL).1
      have HI0 := hide (unhide HTL).2
      have hIl : I.length ≤ 1048576 := (unhide HT0).big
      have HImg := hide (ImageS_any (unhide HT0).st hIl)
      clear HTL hk hlt
      go_wp2_with fail
      refine (unhide HImg).mono ?_
      rintro e W3 ⟨v3, rfl, hO3, hb3⟩
      obtain ⟨a3, c3, rfl, hB3, hn3, hc3⟩ := hO3.atN
      have HT3 := hide ((unhide HT0).below hb3)
      have HX3 := hide ((unhide HXr).below hb3)
      have HB3 := hide ((unhide HBr).trans (hb3.mono (unhide HBr).size))
      have HOp := hide (OpenS_im (unhide HI0) a3 c3 W3 hB3 hn3 hIl hc3)
      clear hO3 hb3 hB3 hn3 hc3 HT0 HXr HBr HImg
      go_wp2_with fail
      refine (unhide HOp).mono ?_
      rintro e W4 ⟨gt, it, kt, rfl, hst4, hb4⟩
      have HT4 := hide ((unhide HT3).below hb4)
      have HX4 := hide ((unhide HX3).below hb4)
      have HB4 := hide ((unhide HB3).trans (hb4.mono (unhide HB3).size))
      have HS4 := hide hst4
      have HPk := hide (PackS_any (unhide HT4).st hIl (unhide HT4).ok (unhide HT4).en)
      clear hst4 hb4 HT3 HX3 HB3 HOp
      go_wp2_with fail
      refine (unhide HPk).mono ?_
      rintro e W5 ⟨gp, ip, kp, I', K', rfl, hst5, hpk, hb5⟩
      have HT5 := hide ((unhide HT4).below hb5)
      have HX5 := hide ((unhide HX4).below hb5)
      have HB5 := hide ((unhide HB4).trans (hb5.mono (unhide HB4).size))
      have HS5 := hide ((unhide HS4).below hb5)
      have HP5 := hide hst5
      have HPK := hide hpk
      have hle : I'.length ≤ I.length := by rw [hpk.ln]; exact (unhide HI0).wt
      have hIl' : I'.length ≤ 1048576 := by omega
      have HIm1 := hide (ImageS_any (unhide HP5) hIl')
      clear hst5 hpk hb5 HT4 HX4 HB4 HS4 HPk
      go_wp2_with fail
      refine (unhide HIm1).mono ?_
      rintro e W6 ⟨v6, rfl, hO6, hb6⟩
      obtain ⟨a6, c6, rfl, -, -, -⟩ := hO6.atN
      have HT6 := hide ((unhide HT5).below hb6)
      have HX6 := hide ((unhide HX5).below hb6)
      have HB6 := hide ((unhide HB5).trans (hb6.mono (unhide HB5).size))
      have HS6 := hide ((unhide HS5).below hb6)
      have HP6 := hide ((unhide HP5).below hb6)
      have HIm2 := hide (ImageS_any (unhide HT6).st hIl)
      clear hO6 hb6 HT5 HX5 HB5 HS5 HP5 HIm1
      go_wp2_with fail
      refine (unhide HIm2).mono ?_
      rintro e W7 ⟨v7, rfl, hO7, hb7⟩
      obtain ⟨a7, c7, rfl, -, -, -⟩ := hO7.atN
      have HT7 := hide ((unhide HT6).below hb7)
      have HX7 := hide ((unhide HX6).below hb7)
      have HB7 := hide ((unhide HB6).trans (hb7.mono (unhide HB6).size))
      have HS7 := hide ((unhide HS6).below hb7)
      have HP7 := hide ((unhide HP6).below hb7)
      have hgt : ¬ ((I'.length : Nat) : Int) > ((I.length : Nat) : Int) := by omega
      have hgt2 : ¬ ((I.length : Nat) : Int) < ((I'.length : Nat) : Int) := by omega
      have HG1 := hide (GetS_pk (unhide HT7).st hIl (unhide HT7).ok (unhide HT7).en s hsm)
      obtain ⟨V, hV⟩ : ∃ V, V = pkV I K := ⟨_, rfl⟩
      have hV' : pkV I' K' = V := by rw [hV]; exact (unhide HPK).sm
      have HVL : Hid ((getB V s).length ≤ 4096) := hide (by rw [hV]; exact getB_len (unhide HT7).en s)
      rw [← hV] at HG1
      have HV := hide hV
      have HV' := hide hV'
      clear hO7 hb7 HT6 HX6 HB6 HS6 HP6 HIm2 hV hV'
      obtain ⟨ge, hge⟩ : ∃ ge, ge = getE V s := ⟨_, rfl⟩
      obtain ⟨gb, hgb⟩ : ∃ gb, gb = getB V s := ⟨_, rfl⟩
      rw [← hge, ← hgb] at HG1
      rw [← hgb] at HVL
      have HGE := hide hge
      have HGB := hide hgb
      clear hge hgb
      go_wp2_with fail
      refine (unhide HG1).mono ?_
      rintro e W8 ⟨v8, rfl, hO8, hb8⟩
      obtain ⟨a8, c8, rfl, hB8, -, -⟩ := hO8.atN
      have HT8 := hide ((unhide HT7).below hb8)
      have HX8 := hide ((unhide HX7).below hb8)
      have HB8 := hide ((unhide HB7).trans (hb8.mono (unhide HB7).size))
      have HS8 := hide ((unhide HS7).below hb8)
      have HP8 := hide ((unhide HP7).below hb8)
      have HBa := hide hB8
      have HG2 := hide (GetS_pk (unhide HS8) hIl (unhide HT8).ok (unhide HT8).en s hsm)
      rw [← unhide HV, ← unhide HGE, ← unhide HGB] at HG2
      clear hO8 hB8 hb8 HT7 HX7 HB7 HS7 HP7 HG1
      go_wp2_with fail
      refine (unhide HG2).mono ?_
      rintro e W9 ⟨v9, rfl, hO9, hb9'⟩
      obtain ⟨a9, c9, rfl, hB9, -, -⟩ := hO9.atN
      have HT9 := hide ((unhide HT8).below hb9')
      have HX9 := hide ((unhide HX8).below hb9')
      have HB9 := hide ((unhide HB8).trans (hb9'.mono (unhide HB8).size))
      have HS9 := hide ((unhide HS8).below hb9')
      have HP9 := hide ((unhide HP8).below hb9')
      have HBa9 := hide ((unhide HBa).below' hb9')
      have HBb9 := hide hB9
      have HG3 := hide (GetS_pk (unhide HP9) hIl' (unhide HPK).ok (unhide HPK).en s hsm)
      rw [unhide HV', ← unhide HGE, ← unhide HGB] at HG3
      clear hO9 hB9 hb9' HT8 HX8 HB8 HS8 HP8 HG2 HBa
      go_wp2_with fail
      refine (unhide HG3).mono ?_
      rintro e W10 ⟨v10, rfl, hO10, hb10⟩
      obtain ⟨a10, c10, rfl, hB10, -, -⟩ := hO10.atN
      have HT10 := hide ((unhide HT9).below hb10)
      have HX10 := hide ((unhide HX9).below hb10)
      have HB10 := hide ((unhide HB9).trans (hb10.mono (unhide HB9).size))
      have HS10 := hide ((unhide HS9).below hb10)
      have HP10 := hide ((unhide HP9).below hb10)
      have HBa10 := hide ((unhide HBa9).below' hb10)
      have HBb10 := hide ((unhide HBb9).below' hb10)
      have HBc10 := hide hB10
      have hqe : (ge == ge) = true := beq_self_eq_true _
      clear hO10 hB10 hb10 HT9 HX9 HB9 HS9 HP9 HG3 HBa9 HBb9
      have HE1 := hide (Equal_any a8 a9 c8 c9 gb gb W10 (unhide HBa10) (unhide HBb10) (by have := unhide HVL; unfold maxLen; omega) (by have := unhide HVL; unfold maxLen; omega))
      rw [beq_self_eq_true] at HE1
      go_wp2_with fail
      refine (unhide HE1).mono ?_
      rintro e W11 ⟨rfl, j11, hw11⟩
      have hb11 : Below W10.heap.size W10 W11 := by rw [hw11]; exact belowD (Below.refl _ _) j11
      have HT11 := hide ((unhide HT10).below hb11)
      have HX11 := hide ((unhide HX10).below hb11)
      have HB11 := hide ((unhide HB10).trans (hb11.mono (unhide HB10).size))
      have HS11 := hide ((unhide HS10).below hb11)
      have HP11 := hide ((unhide HP10).below hb11)
      have HE2 := hide (Equal_any a8 a10 c8 c10 gb gb W11 ((unhide HBa10).below' hb11) ((unhide HBc10).below' hb11) (by have := unhide HVL; unfold maxLen; omega) (by have := unhide HVL; unfold maxLen; omega))
      rw [beq_self_eq_true] at HE2
      clear hw11 hb11 HT10 HX10 HB10 HS10 HP10 HE1 HBa10 HBb10 HBc10
      go_wp2_with fail
      refine (unhide HE2).mono ?_
      rintro e W12 ⟨rfl, j12, hw12⟩
      have hb12 : Below W11.heap.size W11 W12 := by rw [hw12]; exact belowD (Below.refl _ _) j12
      have HT12 := hide ((unhide HT11).below hb12)
      have HX12 := hide ((unhide HX11).below hb12)
      have HB12 := hide ((unhide HB11).trans (hb12.mono (unhide HB11).size))
      have HS12 := hide ((unhide HS11).below hb12)
      have HP12 := hide ((unhide HP11).below hb12)
      clear hw12 hb12 HT11 HX11 HB11 HS11 HP11 HE2
      have HA1 := hide (alike_yes (unhide HS12) hIl (unhide HT12).ok (unhide HT12).en (unhide HT12).xo (unhide HT12).lo (unhide HT12).rk.ok (unhide HT12).sm)
      have x0 := (unhide HX12).c 0 rfl
      have x1 := (unhide HX12).c 1 rfl
      go_wp2_with fail
      refine (unhide HA1).mono ?_
      rintro e W13 ⟨rfl, hb13⟩
      have HT13 := hide ((unhide HT12).below hb13)
      have HX13 := hide ((unhide HX12).below hb13)
      have HB13 := hide ((unhide HB12).trans (hb13.mono (unhide HB12).size))
      have HP13 := hide ((unhide HP12).below hb13)
      have HN1 := hide (NamesS_any (unhide HP13) (unhide HPK).ok)
      clear hb13 HT12 HX12 HB12 HS12 HP12 HA1 x0 x1
      go_wp2_with fail
      refine (unhide HN1).mono ?_
      rintro e W14 ⟨v14, rfl, hO14, hb14⟩
      have HT14 := hide ((unhide HT13).below hb14)
      have HX14 := hide ((unhide HX13).below hb14)
      have HB14 := hide ((unhide HB13).trans (hb14.mono (unhide HB13).size))
      rw [(unhide HPK).nm] at hO14
      have HO14 := hide hO14
      have HN2 := hide (NamesS_any (unhide HT14).st (unhide HT14).ok)
      obtain ⟨a14, c14, rfl, -⟩ := hO14.at
      clear hO14 hb14 HT13 HX13 HB13 HP13 HN1
      go_wp2_with fail
      refine (unhide HN2).mono ?_
      rintro e W15 ⟨v15, rfl, hO15, hb15⟩
      obtain ⟨a15, c15, rfl, -⟩ := hO15.at
      have HT15 := hide ((unhide HT14).below hb15)
      have HX15 := hide ((unhide HX14).below hb15)
      have HB15 := hide ((unhide HB14).trans (hb15.mono (unhide HB14).size))
      have HE3 := hide (EqualT_same ((unhide HO14).below hb15) hO15 (by rw [kNm_len]; have := (unhide HT15).ok.few; omega))
      clear hO15 hb15 HT14 HX14 HB14 HO14 HN2
      go_wp2_with fail
      refine (unhide HE3).mono ?_
      rintro e W16 ⟨rfl, j16, hw16⟩
      have hb16 : Below W15.heap.size W15 W16 := by rw [hw16]; exact belowD (Below.refl _ _) j16
      have HT16 := hide ((unhide HT15).below hb16)
      have HX16 := hide ((unhide HX15).below hb16)
      have HB16 := hide ((unhide HB15).trans (hb16.mono (unhide HB15).size))
      have HA2 := hide (alike_yes (unhide HT16).st hIl (unhide HT16).ok (unhide HT16).en (unhide HT16).xo (unhide HT16).lo (unhide HT16).rk.ok (unhide HT16).sm)
      have x0 := (unhide HX16).c 0 rfl
      have x1 := (unhide HX16).c 1 rfl
      clear hw16 hb16 HT15 HX15 HB15 HE3
      go_wp2_with fail
      refine (unhide HA2).mono ?_
      rintro e W17 ⟨rfl, hb17⟩
      have HB17 := hide ((unhide HB16).trans (hb17.mono (unhide HB16).size))
      clear hb17
      go_wp2
      go_ret
      exact ⟨rfl, unhide HB17⟩
end Go.Proofs.Ytkcnkfhdbjiggaa
