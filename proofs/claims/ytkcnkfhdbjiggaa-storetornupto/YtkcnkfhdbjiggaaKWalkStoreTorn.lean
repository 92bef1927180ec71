/-
  The walk of the law StoreTorn: it returns true for every script and cuts, and writes nothing that was there.
-/
import Derived.Test.YtkcnkfhdbjiggaaJST
namespace Go.Proofs.Ytkcnkfhdbjiggaa
open Go.RowKit
set_option maxRecDepth 20000

theorem below_cellC {w w1 : World} {b o : Nat} {v : Value} (h : Below w.heap.size w w1) (hc : w.cell? ⟨b, o, none⟩ = some v) : w1.cell? ⟨b, o, none⟩ = some v := by
  have hb : b < w.heap.size := World.block_lt_of_cell? w _ hc
  rw [World.cell?_of_block (h.block b hb)]
  exact hc
set_option maxRecDepth 20000 in
set_option maxHeartbeats 4000000 in
theorem walkStoreTorn {w : World} (so : Option Addr) (sc : Nat) (T : List Dn) (hT : DosAt w so T) (hTl : T.length * 48 ≤ 140737488351232) (co : Option Addr) (cc : Nat) (CU : List Int) (hCU : CuAt w co CU) (hCl : CU.length * 8 ≤ 140737488351232) :
    Calls Try.prog 4 #[.slice so T.length sc, .slice co CU.length cc] w fun e w' => e = .returned (.bool true) ∧ Below w.heap.size w w' := by
  have hTl2 : T.length < 9223372036854775000 := by omega
  have hCl2 : CU.length < 9223372036854775000 := by omega
  have HDT := hide hT
  have HCU := hide hCU
  clear hT hTl hCU hCl
  go_enter Try.func4, Try.ntmps4
  go_wp2_with fail
  refine (NewS_any w).mono ?_
  rintro e W1 ⟨rfl, hst1, hb1⟩
  have HT1 := hide (Tw.zero hst1)
  have HB1 := hide hb1
  clear hst1 hb1
  go_upto_region 6 with fail
  have hal : Below W1.heap.size W1 (W1.alloc (.cells #[.slice none 0 0, .slice none 0 0] 28)) := (Below.refl _ _).alloc (Nat.le_refl _) _
  have HX2 : Hid (Bx (W1.alloc (.cells #[.slice none 0 0, .slice none 0 0] 28)) W1.heap.size 28 #[.slice none 0 0, .slice none 0 0]) := hide (heap_alloc_new W1 _)
  have HT2 := hide ((unhide HT1).below hal)
  have HB2 := hide ((unhide HB1).trans (hal.mono (unhide HB1).size))
  clear hal HT1
  generalize (W1.alloc (.cells #[.slice none 0 0, .slice none 0 0] 28)) = W2 at HX2 HT2 HB2 ⊢
  have hb9 : w.heap.size ≤ W1.heap.size := (unhide HB1).size
  generalize W1.heap.size = b9 at HX2 hb9 ⊢
  clear HB1
  go_wp2_with fail
  go_loopw [5, 7, 22] (fun p dv i wr => ∃ (k g : Nat) (iv kv : Value) (xa : Option Addr) (n1 xc : Nat) (la : Option Addr) (n2 lc : Nat) (I : List UInt8) (K : List Ke) (L : List Rk) (da : Option Addr) (dn dc : Nat) (D : List UInt8), k ≤ T.length ∧ i = .int .i64 k ∧ p = .pointer (some ⟨g, 0, none⟩) ∧ dv = .slice da dn dc ∧ Hid (Tw wr w.heap.size g iv kv (.slice xa n1 xc) (.slice la n2 lc) I K L) ∧ Hid (Dsk D I K) ∧ Hid (OwnB wr w.heap.size (.slice da dn dc) D ∧ ∀ z, iv.ownBlock = some z → (Value.slice da dn dc).ownBlock ≠ some z) ∧ Hid (Bx wr b9 28 #[.slice xa n1 xc, .slice la n2 lc]) ∧ Hid (Below w.heap.size w wr)) (fun _ _ i _ => T.length - (intOf i).toNat)
  case atStart => exact ⟨0, _, _, _, _, _, _, _, _, _, _, _, _, none, 0, 0, [], by omega, rfl, rfl, rfl, HT2, hide Dsk.zero, hide ⟨⟨rfl, Or.inl ⟨rfl, rfl⟩⟩, fun z e => (by cases e)⟩, HX2, HB2⟩
  case round =>
    clear HX2 HT2 HB2
    obtain ⟨k, g, iv, kv, xa, n1, xc, la, n2, lc, I, K, L, da, dn, dc, D, hk, rfl, rfl, rfl, HTL, HDK0, HODr, HXr, HBr⟩ := hrel
    by_cases hlt : k < T.length
    · have i1 : ((k : Nat) : Int) < ((T.length : Nat) : Int) := by omega
      have hx := List.getElem?_eq_getElem hlt
      obtain ⟨b, off, rfl, hxa0⟩ := unhide HDT k _ hx
      generalize T[k] = x at hx hxa0
      have HLO := hide hxa0.lows
      have hxa := hxa0.keep (unhide HBr) hxa0.lows.1 hxa0.lows.2
      have c0 := hxa.c0
      have c1 := hxa.c1
      have c2 := hxa.c2
      have HXA := hide hxa0
      clear hx hxa0 hxa
      go_upto_region 9 with fail
      have hal : Below wr.heap.size wr (wr.alloc (.cells #[.int .i64 x.op, .string x.nm, .slice x.ba x.bs.length x.bc] 31)) := (Below.refl _ _).alloc (Nat.le_refl _) _
      have HXd : Hid (Bx (wr.alloc (.cells #[.int .i64 x.op, .string x.nm, .slice x.ba x.bs.length x.bc] 31)) wr.heap.size 31 #[.int .i64 x.op, .string x.nm, .slice x.ba x.bs.length x.bc]) := hide (heap_alloc_new wr _)
      have HTL2 := hide ((unhide HTL).below hal)
      have HOD2 := hide (And.intro ((unhide HODr).1.below hal) (unhide HODr).2)
      have HXr2 := hide ((unhide HXr).below hal)
      have HBr2 := hide ((unhide HBr).trans (hal.mono (unhide HBr).size))
      have HLD : Hid (w.heap.size ≤ wr.heap.size ∧ b9 < wr.heap.size) := hide ⟨(unhide HBr).size, (unhide HXr).lt⟩
      clear hal c0 c1 c2 HTL HXr HODr
      generalize (wr.alloc (.cells #[.int .i64 x.op, .string x.nm, .slice x.ba x.bs.length x.bc] 31)) = wa at HXd HTL2 HXr2 HBr2 HOD2 ⊢
      generalize wr.heap.size = bd at HXd HLD ⊢
      have d0 := (unhide HXd).c 0 rfl
      have d1 := (unhide HXd).c 1 rfl
      have d2 := (unhide HXd).c 2 rfl
      have f0 := (unhide HXd).f 0
      go_upto_region 10 with fail
      have hr := u64rem2 x.op
      generalize wrap64 ((IntKind.u64.wrap x.op).tmod 2) = r at hr ⊢
      have hkd := kept_setCell wa ⟨bd, 0, none⟩ (.int .i64 r)
      have HXe : Hid (Bx (wa.setCell ⟨bd, 0, none⟩ (.int .i64 r)) bd 31 #[.int .i64 r, .string x.nm, .slice x.ba x.bs.length x.bc]) := hide ((unhide HXd).set 0 (.int .i64 r) rfl)
      have HTb := hide ((unhide HTL2).keepT (unhide HXd) hkd)
      have HODb := hide (And.intro ((unhide HOD2).1.keepBx (unhide HXd) hkd (by decide)) (unhide HOD2).2)
      have HXb := hide ((unhide HXr2).other ⟨bd, 0, none⟩ (.int .i64 r) (by have := (unhide HLD).2; show b9 ≠ bd; omega))
      have HBb : Hid (Below w.heap.size w (wa.setCell ⟨bd, 0, none⟩ (.int .i64 r))) := hide ((unhide HBr2).setCell (p := ⟨bd, 0, none⟩) (unhide HLD).1 _)
      clear hkd HTL2 HXr2 HBr2 HOD2 d0 d1 d2 f0 HXd
      generalize (wa.setCell ⟨bd, 0, none⟩ (.int .i64 r)) = wb at HXe HTb HXb HBb HODb ⊢
      have d0 := (unhide HXe).c 0 rfl
      have d1 := (unhide HXe).c 1 rfl
      have d2 := (unhide HXe).c 2 rfl
      have HDA := hide ((unhide HXA).keep (unhide HBb) (unhide HLO).1 (unhide HLO).2)
      rcases hr with rfl | rfl
      · have HDo := hide (doPut_any x.nm x.ba x.bc x.bs (unhide HTb) (by have := (unhide HDA).nml; unfold maxLen; omega) (unhide HDA).by_ (unhide HDA).nil_ (unhide HDA).fit (unhide HLO).2)
        have y0 := (unhide HXb).c 0 rfl
        have y1 := (unhide HXb).c 1 rfl
        go_wp2_with fail
        refine (unhide HDo).mono ?_
        intro e W8 h8
        obtain ⟨hk8, xi8, lv8, v8, iv8, kv8, I8, K8, L8, rfl, ht8, hT8⟩ := h8.torn (fun hc => torn_put (unhide HDK0).im (unhide HTb).en hc)
        obtain ⟨xa8, xc8, hx8, -⟩ := ht8.xo.at
        obtain ⟨la8, lc8, hl8, -⟩ := ht8.lo.at
        subst hx8 hl8
        have HX6 := hide ((unhide HXb).keepSA (unhide HTb).st hk8 (by decide) (by decide) (by decide))
        have HB6 := hide ((unhide HBb).trans (below_SA (unhide HTb).st hk8))
        have HT6 := hide ht8
        have HOL6 := hide ((unhide HTb).stands hk8)
        have HSM0 := hide (unhide HTb).sm
        have HOD6 : Hid (OwnB W8 w.heap.size (.slice da dn dc) D) := hide ((unhide HODb).1.keep hk8 (fun z e e2 => by
          obtain ⟨cur, hh⟩ := own_tyB (unhide HODb).1 e
          rcases e2 with e2 | e2 | e2
          · exact ty_ne hh (unhide HTb).st.row (by decide) e2
          · exact (unhide HODb).2 z e2 e
          · obtain ⟨cur2, hh2⟩ := (unhide HTb).st.kty _ e2
            exact ty_ne hh hh2 (by decide) rfl))
        obtain ⟨n8, hn8⟩ : ∃ n8, n8 = I8.length := ⟨_, rfl⟩
        obtain ⟨q8, hq8⟩ : ∃ q8, q8 = L8.length := ⟨_, rfl⟩
        rw [← hn8, ← hq8] at HT6 ⊢
        have HN8 := hide (And.intro hn8 hq8)
        clear hk8 ht8 HDo h8 HTb HXb HBb HODb y0 y1 d0 d1 d2 hn8 hq8
        have hT8' := hide hT8
        clear hT8
        obtain ⟨v8a, v8n, v8c, hv8s⟩ : ∃ a n c, v8 = .slice a n c := by
          rcases unhide hT8' with ⟨-, -, h⟩ | ⟨R, -, -, -, -, -, hw⟩
          · exact ⟨_, _, _, h⟩
          · obtain ⟨wb, -, -, -, -, h, -⟩ := hw
            exact ⟨_, _, _, h⟩
        subst hv8s
        go_upto_region 11 with fail
        have hal8q : Below W8.heap.size W8 (W8.alloc (.cells #[.slice xa8 n8 xc8, .slice la8 q8 lc8] 28)) := (Below.refl _ _).alloc (Nat.le_refl _) _
        have HY7 : Hid (Bx (W8.alloc (.cells #[.slice xa8 n8 xc8, .slice la8 q8 lc8] 28)) W8.heap.size 28 #[.slice xa8 n8 xc8, .slice la8 q8 lc8]) := hide (heap_alloc_new W8 _)
        have HX7 := hide ((unhide HX6).below hal8q)
        have HB7 := hide ((unhide HB6).trans (hal8q.mono (unhide HB6).size))
        have HT7 := hide ((unhide HT6).below hal8q)
        have HOD7 := hide ((unhide HOD6).below hal8q)
        have HOL7 := hide (And.intro ((unhide HOL6).1.below hal8q) (And.intro ((unhide HOL6).2.1.below hal8q) (fun x hx => ((unhide HOL6).2.2 x hx).below hal8q : RkO _ L)))
        clear HX6 HB6 HT6 HOD6 HOL6
        rcases unhide hT8' with ⟨hI8, hK8, hv8⟩ | hT8
        · injection hv8 with hva hvn hvc
          subst hva hvn hvc
          clear hT8'
          generalize (W8.alloc (.cells #[.slice xa8 n8 xc8, .slice la8 q8 lc8] 28)) = WX at HY7 HX7 HB7 HT7 HOD7 HOL7 hal8q ⊢
          generalize W8.heap.size = b14 at HY7 ⊢
          clear hal8q
          obtain ⟨W8, hWX⟩ : ∃ W8, W8 = WX := ⟨_, rfl⟩
          rw [← hWX] at HY7 HX7 HB7 HT7 HOD7 HOL7 ⊢
          clear hWX
          subst hI8 hK8
          have HTo := hide (total_nil W8)
          go_wp2_with fail
          refine (unhide HTo).mono ?_
          rintro e W9 ⟨rfl, hb9'⟩
          have HT8 := hide ((unhide HT7).below hb9')
          have HX8 := hide ((unhide HX7).below hb9')
          have HB8 := hide ((unhide HB7).trans (hb9'.mono (unhide HB7).size))
          have HY8 := hide ((unhide HY7).below hb9')
          have HOD8 := hide ((unhide HOD7).below hb9')
          have HOLD := hide (And.intro ((unhide HOL7).1.below hb9') (And.intro ((unhide HOL7).2.1.below hb9') (fun x hx => ((unhide HOL7).2.2 x hx).below hb9' : RkO W9 L)))
          clear hb9' HTo HT7 HX7 HB7 HY7 HOD7 HOL7
          obtain ⟨da', dc', hvd, hBd, hnd, hcd⟩ := (unhide HOD8).atN
          injection hvd with e1 e2 e3
          subst e1 e2 e3
          have HLyN := hide (fun (n : Int) => lay_nil da dc D hBd hnd (unhide HDK0).ln n)
          clear hBd hnd hcd
          have hq0 : ((0 : Int) == 0) = true := rfl
          by_cases hkc : k < CU.length
          · have i3 : ((k : Nat) : Int) < ((CU.length : Nat) : Int) := by omega
            obtain ⟨cb, coff, rfl, hcc0⟩ := unhide HCU k _ (List.getElem?_eq_getElem hkc)
            have cc1 : W9.cell? ⟨cb, coff + k, none⟩ = some (.int .i64 CU[k]) := below_cellC (unhide HB8) hcc0
            generalize CU[k] = cval at cc1 hcc0
            clear hcc0
            go_upto_region 17 with fail
            obtain ⟨r, hre, hrl⟩ := u64remN cval 1 (by omega) (by omega)
            obtain rfl : r = 0 := by omega
            have hre' : wrap64 ((IntKind.u64.wrap cval).tmod 1) = 0 := hre
            try rw [hre']
            clear hre hre' hrl cc1
            have HLy := hide (unhide HLyN 0)
            clear HOD8
            go_wp2_with fail
            refine (unhide HLy).mono ?_
            rintro e WM ⟨vM, rfl, hOM, hbM⟩
            have HODM := hide (hOM.mono (unhide HB8).size)
            have HTM := hide ((unhide HT8).below hbM)
            have HXM := hide ((unhide HX8).below hbM)
            have HBM := hide ((unhide HB8).trans (hbM.mono (unhide HB8).size))
            have HY9 := hide ((unhide HY8).below hbM)
            have HOLDM := hide (And.intro ((unhide HOLD).1.below hbM) (And.intro ((unhide HOLD).2.1.below hbM) (fun x hx => ((unhide HOLD).2.2 x hx).below hbM : RkO WM L)))
            obtain ⟨vMa, vMn, vMc, hvM⟩ : ∃ a n c, vM = .slice a n c := by
              obtain ⟨a, c, h, -⟩ := hOM.at
              exact ⟨a, _, c, h⟩
            subst hvM
            clear hOM hbM HLy HT8 HX8 HB8 HY8 HOLD
            have HDK := HDK0
            obtain ⟨DN, hDN⟩ : ∃ DN, DN = D := ⟨_, rfl⟩
            rw [← hDN] at HDK
            rw [← hDN] at HODM
            clear hDN
            have z0 := (unhide HY9).c 0 rfl
            have z1 := (unhide HY9).c 1 rfl
            have HXL : Hid (Bx (WM.setRow b9 #[.slice xa8 n8 xc8, .slice la8 q8 lc8]) b9 28 #[.slice xa8 n8 xc8, .slice la8 q8 lc8]) := hide (setRow_heap _ _ _ _ _ _ (unhide HXM))
            have HTL9 := hide ((unhide HTM).keepS (unhide HXM) (kept_row WM b9 #[.slice xa8 n8 xc8, .slice la8 q8 lc8]))
            have HBL : Hid (Below w.heap.size w (WM.setRow b9 #[.slice xa8 n8 xc8, .slice la8 q8 lc8])) := hide (below_rowS (unhide HBM) hb9 _)
            have HOD := hide ((unhide HODM).keepBx (unhide HXM) (kept_row WM b9 #[.slice xa8 n8 xc8, .slice la8 q8 lc8]) (by decide))
            have HXO := hide (unhide HTL9).xo
            have HLO2 := hide (unhide HTL9).lo
            have HRO := hide (unhide HTL9).rk
            have HSM := hide (unhide HTL9).sm
            go_upto_region 20 with (refine wpList_store_row rfl 28 _ _ rfl b9 #[.slice xa8 n8 xc8, .slice la8 q8 lc8] rfl rfl 28 #[.slice xa n1 xc, .slice la n2 lc] (unhide HXM) (by kernel_rfl) rfl (by simp [Value.oneCell']) ?_)
            clear z0 z1 HXM HTM HBM HODM HY9 HTL9
            generalize (WM.setRow b9 #[.slice xa8 n8 xc8, .slice la8 q8 lc8]) = WL at HXL HBL HOD HXO HLO2 HRO ⊢
            obtain ⟨va, vc, hvd, hBd, hnd, hcd⟩ := (unhide HOD).atN
            have HCl := hide (Clone_any va vc DN WL hBd hnd (by have := (unhide HDK).ln; omega))
            obtain ⟨vn, hvn⟩ : ∃ vn, vn = DN.length := ⟨_, rfl⟩
            rw [← hvn] at hvd HCl
            injection hvd with e1 e2 e3
            have f1 := e1.symm
            have f2 := e2.symm
            have f3 := e3.symm
            clear e1 e2 e3
            subst f1 f2 f3
            have HVN := hide hvn
            clear hvn hBd hnd hcd
            go_wp2_with fail
            refine (unhide HCl).mono ?_
            rintro e WC ⟨v3, rfl, hO3, hb3, -⟩
            obtain ⟨a3, c3, hv3, hB3, hn3, hc3⟩ := hO3.atN
            subst hv3
            have HOD3 := hide ((unhide HOD).below hb3)
            have HX3 := hide ((unhide HXL).below hb3)
            have HB3 := hide ((unhide HBL).trans (hb3.mono (unhide HBL).size))
            have HST3 := hide (And.intro ((unhide HXO).below hb3) (And.intro ((unhide HLO2).below hb3) (fun x hx => ((unhide HRO) x hx).below hb3 : RkO WC L8)))
            have HOp := hide (OpenS_disk (unhide HDK) a3 c3 WC hB3 hn3 hc3)
            clear hO3 hb3 hB3 hn3 hc3 HCl HOD HXL HBL HXO HLO2 HRO
            go_wp2_with fail
            refine (unhide HOp).mono ?_
            rintro e WE ⟨gt, it, kt, rfl, hst, hok, hen, hbo⟩
            have HT4 := hide (Tw.from (B := w.heap.size) (unhide HST3).1 (unhide HST3).2.1 (unhide HST3).2.2 (unhide HSM) hst hok hen (Nat.le_trans (unhide HDK).le (unhide HDK).ln) (Nat.le_refl _) (unhide HB3).size hbo)
            have HOD4 := hide ((unhide HOD3).below hbo)
            have HSP4 : Hid (∀ z, it.ownBlock = some z → (Value.slice va vn vc).ownBlock ≠ some z) := hide (fun z e e2 => by
              have h1 := (World.ownsRow.lt hst.img z e).1
              have h2 := (World.ownsRow.lt (unhide HOD3) z e2).2
              omega)
            have HX4 := hide ((unhide HX3).below hbo)
            have HB4 := hide ((unhide HB3).trans (hbo.mono (unhide HB3).size))
            clear hst hok hen hbo HOp HOD3 HX3 HB3 HST3 HSM
            have HA := hide (alike_yes (unhide HT4).st (unhide HT4).big (unhide HT4).ok (unhide HT4).en (unhide HT4).xo (unhide HT4).lo (unhide HT4).rk.ok (unhide HT4).sm)
            have x0 := (unhide HX4).c 0 rfl
            have x1 := (unhide HX4).c 1 rfl
            go_wp2_with fail
            refine (unhide HA).mono ?_
            rintro e WF ⟨rfl, hbf⟩
            have HT5 := hide ((unhide HT4).below hbf)
            have HOD5 := hide (And.intro ((unhide HOD4).below hbf) (unhide HSP4))
            have HX5 := hide ((unhide HX4).below hbf)
            have HB5 := hide ((unhide HB4).trans (hbf.mono (unhide HB4).size))
            clear hbf HA HT4 HOD4 HSP4 HX4 HB4 x0 x1
            go_wp2
            go_roundw
            case rel => exact ⟨k + 1, gt, it, kt, xa8, n8, xc8, la8, q8, lc8, I8, K8, L8, va, vn, vc, DN, by omega, by go_num, rfl, rfl, HT5, HDK, HOD5, HX5, HB5⟩
            case measure => simp [intOf]; omega
          · have i3 : ¬ ((k : Nat) : Int) < ((CU.length : Nat) : Int) := by omega
            go_upto_region 17 with fail
            have HLy := hide (unhide HLyN 0)
            clear HOD8
            go_wp2_with fail
            refine (unhide HLy).mono ?_
            rintro e WM ⟨vM, rfl, hOM, hbM⟩
            have HODM := hide (hOM.mono (unhide HB8).size)
            have HTM := hide ((unhide HT8).below hbM)
            have HXM := hide ((unhide HX8).below hbM)
            have HBM := hide ((unhide HB8).trans (hbM.mono (unhide HB8).size))
            have HY9 := hide ((unhide HY8).below hbM)
            have HOLDM := hide (And.intro ((unhide HOLD).1.below hbM) (And.intro ((unhide HOLD).2.1.below hbM) (fun x hx => ((unhide HOLD).2.2 x hx).below hbM : RkO WM L)))
            obtain ⟨vMa, vMn, vMc, hvM⟩ : ∃ a n c, vM = .slice a n c := by
              obtain ⟨a, c, h, -⟩ := hOM.at
              exact ⟨a, _, c, h⟩
            subst hvM
            clear hOM hbM HLy HT8 HX8 HB8 HY8 HOLD
            have HDK := HDK0
            obtain ⟨DN, hDN⟩ : ∃ DN, DN = D := ⟨_, rfl⟩
            rw [← hDN] at HDK
            rw [← hDN] at HODM
            clear hDN
            have z0 := (unhide HY9).c 0 rfl
            have z1 := (unhide HY9).c 1 rfl
            have HXL : Hid (Bx (WM.setRow b9 #[.slice xa8 n8 xc8, .slice la8 q8 lc8]) b9 28 #[.slice xa8 n8 xc8, .slice la8 q8 lc8]) := hide (setRow_heap _ _ _ _ _ _ (unhide HXM))
            have HTL9 := hide ((unhide HTM).keepS (unhide HXM) (kept_row WM b9 #[.slice xa8 n8 xc8, .slice la8 q8 lc8]))
            have HBL : Hid (Below w.heap.size w (WM.setRow b9 #[.slice xa8 n8 xc8, .slice la8 q8 lc8])) := hide (below_rowS (unhide HBM) hb9 _)
            have HOD := hide ((unhide HODM).keepBx (unhide HXM) (kept_row WM b9 #[.slice xa8 n8 xc8, .slice la8 q8 lc8]) (by decide))
            have HXO := hide (unhide HTL9).xo
            have HLO2 := hide (unhide HTL9).lo
            have HRO := hide (unhide HTL9).rk
            have HSM := hide (unhide HTL9).sm
            go_upto_region 20 with (refine wpList_store_row rfl 28 _ _ rfl b9 #[.slice xa8 n8 xc8, .slice la8 q8 lc8] rfl rfl 28 #[.slice xa n1 xc, .slice la n2 lc] (unhide HXM) (by kernel_rfl) rfl (by simp [Value.oneCell']) ?_)
            clear z0 z1 HXM HTM HBM HODM HY9 HTL9
            generalize (WM.setRow b9 #[.slice xa8 n8 xc8, .slice la8 q8 lc8]) = WL at HXL HBL HOD HXO HLO2 HRO ⊢
            obtain ⟨va, vc, hvd, hBd, hnd, hcd⟩ := (unhide HOD).atN
            have HCl := hide (Clone_any va vc DN WL hBd hnd (by have := (unhide HDK).ln; omega))
            obtain ⟨vn, hvn⟩ : ∃ vn, vn = DN.length := ⟨_, rfl⟩
            rw [← hvn] at hvd HCl
            injection hvd with e1 e2 e3
            have f1 := e1.symm
            have f2 := e2.symm
            have f3 := e3.symm
            clear e1 e2 e3
            subst f1 f2 f3
            have HVN := hide hvn
            clear hvn hBd hnd hcd
            go_wp2_with fail
            refine (unhide HCl).mono ?_
            rintro e WC ⟨v3, rfl, hO3, hb3, -⟩
            obtain ⟨a3, c3, hv3, hB3, hn3, hc3⟩ := hO3.atN
            subst hv3
            have HOD3 := hide ((unhide HOD).below hb3)
            have HX3 := hide ((unhide HXL).below hb3)
            have HB3 := hide ((unhide HBL).trans (hb3.mono (unhide HBL).size))
            have HST3 := hide (And.intro ((unhide HXO).below hb3) (And.intro ((unhide HLO2).below hb3) (fun x hx => ((unhide HRO) x hx).below hb3 : RkO WC L8)))
            have HOp := hide (OpenS_disk (unhide HDK) a3 c3 WC hB3 hn3 hc3)
            clear hO3 hb3 hB3 hn3 hc3 HCl HOD HXL HBL HXO HLO2 HRO
            go_wp2_with fail
            refine (unhide HOp).mono ?_
            rintro e WE ⟨gt, it, kt, rfl, hst, hok, hen, hbo⟩
            have HT4 := hide (Tw.from (B := w.heap.size) (unhide HST3).1 (unhide HST3).2.1 (unhide HST3).2.2 (unhide HSM) hst hok hen (Nat.le_trans (unhide HDK).le (unhide HDK).ln) (Nat.le_refl _) (unhide HB3).size hbo)
            have HOD4 := hide ((unhide HOD3).below hbo)
            have HSP4 : Hid (∀ z, it.ownBlock = some z → (Value.slice va vn vc).ownBlock ≠ some z) := hide (fun z e e2 => by
              have h1 := (World.ownsRow.lt hst.img z e).1
              have h2 := (World.ownsRow.lt (unhide HOD3) z e2).2
              omega)
            have HX4 := hide ((unhide HX3).below hbo)
            have HB4 := hide ((unhide HB3).trans (hbo.mono (unhide HB3).size))
            clear hst hok hen hbo HOp HOD3 HX3 HB3 HST3 HSM
            have HA := hide (alike_yes (unhide HT4).st (unhide HT4).big (unhide HT4).ok (unhide HT4).en (unhide HT4).xo (unhide HT4).lo (unhide HT4).rk.ok (unhide HT4).sm)
            have x0 := (unhide HX4).c 0 rfl
            have x1 := (unhide HX4).c 1 rfl
            go_wp2_with fail
            refine (unhide HA).mono ?_
            rintro e WF ⟨rfl, hbf⟩
            have HT5 := hide ((unhide HT4).below hbf)
            have HOD5 := hide (And.intro ((unhide HOD4).below hbf) (unhide HSP4))
            have HX5 := hide ((unhide HX4).below hbf)
            have HB5 := hide ((unhide HB4).trans (hbf.mono (unhide HB4).size))
            clear hbf HA HT4 HOD4 HSP4 HX4 HB4 x0 x1
            go_wp2
            go_roundw
            case rel => exact ⟨k + 1, gt, it, kt, xa8, n8, xc8, la8, q8, lc8, I8, K8, L8, va, vn, vc, DN, by omega, by go_num, rfl, rfl, HT5, HDK, HOD5, HX5, HB5⟩
            case measure => simp [intOf]; omega
        · clear hT8'
          obtain ⟨WX, hWX⟩ : ∃ WX, WX = (W8.alloc (.cells #[.slice xa8 n8 xc8, .slice la8 q8 lc8] 28)) := ⟨_, rfl⟩
          rw [← hWX] at HY7 HX7 HB7 HT7 HOD7 HOL7 hal8q ⊢
          clear hWX
          obtain ⟨R, hI8, him8, hR2, hR5, hRb, hW8⟩ := hT8
          subst hI8
          have hhl : (hidB R).length = R.length + 1 := by simp [hidB]; omega
          have HWR := hide ((hW8.below hal8q))
          have HIM := hide him8
          obtain ⟨A, hA⟩ : ∃ A, A = hidB R := ⟨_, rfl⟩
          obtain ⟨C, hC⟩ : ∃ C, C = [R.getD 0 0] := ⟨_, rfl⟩
          rw [← hA, ← hC] at HWR
          have hAl : A.length ≤ 10000 := by rw [hA]; omega
          have hCl : C.length = 1 := by rw [hC]; rfl
          have HTo := hide (total_two (unhide HWR) hAl (by omega))
          obtain ⟨al, hal1⟩ : ∃ al, al = A.length + C.length := ⟨_, rfl⟩
          rw [← hal1] at HTo
          have HAL := hide hal1
          have hall : al ≤ 10001 := by omega
          have HAC := hide (And.intro hA hC)
          have HAl2 := hide hAl
          have HCl2 := hide hCl
          have HRR := hide (And.intro hR2 hRb)
          obtain ⟨wbv, -, -, -, -, hvv, -⟩ := unhide HWR
          injection hvv with hv1 hv2 hv3
          subst hv1 hv2 hv3
          clear hal1 hA hC hAl hCl hhl hW8 him8 hR2 hR5 hRb
          go_wp2_with fail
          refine (unhide HTo).mono ?_
          rintro e W9 ⟨rfl, hb9'⟩
          have HT8 := hide ((unhide HT7).below hb9')
          have HX8 := hide ((unhide HX7).below hb9')
          have HB8 := hide ((unhide HB7).trans (hb9'.mono (unhide HB7).size))
          have HY8 := hide ((unhide HY7).below hb9')
          have HOD8 := hide ((unhide HOD7).below hb9')
          have HWR8 := hide ((unhide HWR).below hb9')
          have HOLD := hide (And.intro ((unhide HOL7).1.below hb9') (And.intro ((unhide HOL7).2.1.below hb9') (fun x hx => ((unhide HOL7).2.2 x hx).below hb9' : RkO W9 L)))
          clear hb9' HTo HT7 HX7 HB7 HY7 HOD7 HOL7 HWR
          obtain ⟨da', dc', hvd, hBd, hnd, hcd⟩ := (unhide HOD8).atN
          injection hvd with e1 e2 e3
          subst e1 e2 e3
          have HLyN := hide (fun (n : Nat) (hn : n ≤ A.length + C.length) => lay_two da dc D n hBd hnd (unhide HDK0).ln (unhide HWR8) (unhide HAl2) (by have := unhide HCl2; omega) (unhide HDK0).le hn)
          clear hBd hnd hcd
          by_cases hkc : k < CU.length
          · have i3 : ((k : Nat) : Int) < ((CU.length : Nat) : Int) := by omega
            obtain ⟨cb, coff, rfl, hcc0⟩ := unhide HCU k _ (List.getElem?_eq_getElem hkc)
            have cc1 : W9.cell? ⟨cb, coff + k, none⟩ = some (.int .i64 CU[k]) := below_cellC (unhide HB8) hcc0
            generalize CU[k] = cval at cc1 hcc0
            clear hcc0
            have HU : Hid (IntKind.u64.wrap (((al : Nat) : Int) + 1) = ((al + 1 : Nat) : Int)) := hide (by simp [IntKind.wrap, IntKind.bits, IntKind.signed]; omega)
            go_upto_region 17 with fail
            obtain ⟨r, hre, hrl⟩ := u64remN cval (al + 1) (by omega) (by omega)
            have hre2 : wrap64 ((IntKind.u64.wrap cval).tmod (((al : Nat) : Int) + 1)) = (r : Int) := by
              have h9 : ((al + 1 : Nat) : Int) = ((al : Nat) : Int) + 1 := by omega
              rw [← h9]
              exact hre
            rw [hre2]
            clear hre2
            clear hre cc1 HU
            by_cases hra : r = al
            · subst hra
              have hq0 : ((((r : Nat) : Int)) == ((r : Nat) : Int)) = true := beq_self_eq_true _
              have HLy := hide (unhide HLyN r (by have := unhide HAL; omega))
              clear HOD8
              go_wp2_with fail
              refine (unhide HLy).mono ?_
              rintro e WM ⟨vM, rfl, hOM, hbM⟩
              have HODM := hide (hOM.mono (unhide HB8).size)
              have HTM := hide ((unhide HT8).below hbM)
              have HXM := hide ((unhide HX8).below hbM)
              have HBM := hide ((unhide HB8).trans (hbM.mono (unhide HB8).size))
              have HY9 := hide ((unhide HY8).below hbM)
              have HOLDM := hide (And.intro ((unhide HOLD).1.below hbM) (And.intro ((unhide HOLD).2.1.below hbM) (fun x hx => ((unhide HOLD).2.2 x hx).below hbM : RkO WM L)))
              obtain ⟨vMa, vMn, vMc, hvM⟩ : ∃ a n c, vM = .slice a n c := by
                obtain ⟨a, c, h, -⟩ := hOM.at
                exact ⟨a, _, c, h⟩
              subst hvM
              clear hOM hbM HLy HT8 HX8 HB8 HY8 HOLD
              have HDK : Hid (Dsk (layD D I.length A C r) (I ++ R) K8) := hide (by
                have h1 := (unhide HDK0).whole (unhide HIM) (unhide HRR).1 (unhide HRR).2
                rw [← (unhide HAC).1, ← (unhide HAC).2] at h1
                have h2 : r = A.length + 1 := by have := unhide HAL; have := unhide HCl2; omega
                rw [h2]
                exact h1)
              obtain ⟨DN, hDN⟩ : ∃ DN, DN = layD D I.length A C r := ⟨_, rfl⟩
              rw [← hDN] at HDK HODM
              clear hDN
              obtain ⟨IQ, hIQ⟩ : ∃ IQ, IQ = I ++ R := ⟨_, rfl⟩
              rw [← hIQ] at HDK HTM
              clear hIQ
              have z0 := (unhide HY9).c 0 rfl
              have z1 := (unhide HY9).c 1 rfl
              have HXL : Hid (Bx (WM.setRow b9 #[.slice xa8 n8 xc8, .slice la8 q8 lc8]) b9 28 #[.slice xa8 n8 xc8, .slice la8 q8 lc8]) := hide (setRow_heap _ _ _ _ _ _ (unhide HXM))
              have HTL9 := hide ((unhide HTM).keepS (unhide HXM) (kept_row WM b9 #[.slice xa8 n8 xc8, .slice la8 q8 lc8]))
              have HBL : Hid (Below w.heap.size w (WM.setRow b9 #[.slice xa8 n8 xc8, .slice la8 q8 lc8])) := hide (below_rowS (unhide HBM) hb9 _)
              have HOD := hide ((unhide HODM).keepBx (unhide HXM) (kept_row WM b9 #[.slice xa8 n8 xc8, .slice la8 q8 lc8]) (by decide))
              have HXO := hide (unhide HTL9).xo
              have HLO2 := hide (unhide HTL9).lo
              have HRO := hide (unhide HTL9).rk
              have HSM := hide (unhide HTL9).sm
              go_upto_region 20 with (refine wpList_store_row rfl 28 _ _ rfl b9 #[.slice xa8 n8 xc8, .slice la8 q8 lc8] rfl rfl 28 #[.slice xa n1 xc, .slice la n2 lc] (unhide HXM) (by kernel_rfl) rfl (by simp [Value.oneCell']) ?_)
              clear z0 z1 HXM HTM HBM HODM HY9 HTL9
              generalize (WM.setRow b9 #[.slice xa8 n8 xc8, .slice la8 q8 lc8]) = WL at HXL HBL HOD HXO HLO2 HRO ⊢
              obtain ⟨va, vc, hvd, hBd, hnd, hcd⟩ := (unhide HOD).atN
              have HCl := hide (Clone_any va vc DN WL hBd hnd (by have := (unhide HDK).ln; omega))
              obtain ⟨vn, hvn⟩ : ∃ vn, vn = DN.length := ⟨_, rfl⟩
              rw [← hvn] at hvd HCl
              injection hvd with e1 e2 e3
              have f1 := e1.symm
              have f2 := e2.symm
              have f3 := e3.symm
              clear e1 e2 e3
              subst f1 f2 f3
              have HVN := hide hvn
              clear hvn hBd hnd hcd
              go_wp2_with fail
              refine (unhide HCl).mono ?_
              rintro e WC ⟨v3, rfl, hO3, hb3, -⟩
              obtain ⟨a3, c3, hv3, hB3, hn3, hc3⟩ := hO3.atN
              subst hv3
              have HOD3 := hide ((unhide HOD).below hb3)
              have HX3 := hide ((unhide HXL).below hb3)
              have HB3 := hide ((unhide HBL).trans (hb3.mono (unhide HBL).size))
              have HST3 := hide (And.intro ((unhide HXO).below hb3) (And.intro ((unhide HLO2).below hb3) (fun x hx => ((unhide HRO) x hx).below hb3 : RkO WC L8)))
              have HOp := hide (OpenS_disk (unhide HDK) a3 c3 WC hB3 hn3 hc3)
              clear hO3 hb3 hB3 hn3 hc3 HCl HOD HXL HBL HXO HLO2 HRO
              go_wp2_with fail
              refine (unhide HOp).mono ?_
              rintro e WE ⟨gt, it, kt, rfl, hst, hok, hen, hbo⟩
              have HT4 := hide (Tw.from (B := w.heap.size) (unhide HST3).1 (unhide HST3).2.1 (unhide HST3).2.2 (unhide HSM) hst hok hen (Nat.le_trans (unhide HDK).le (unhide HDK).ln) (Nat.le_refl _) (unhide HB3).size hbo)
              have HOD4 := hide ((unhide HOD3).below hbo)
              have HSP4 : Hid (∀ z, it.ownBlock = some z → (Value.slice va vn vc).ownBlock ≠ some z) := hide (fun z e e2 => by
                have h1 := (World.ownsRow.lt hst.img z e).1
                have h2 := (World.ownsRow.lt (unhide HOD3) z e2).2
                omega)
              have HX4 := hide ((unhide HX3).below hbo)
              have HB4 := hide ((unhide HB3).trans (hbo.mono (unhide HB3).size))
              clear hst hok hen hbo HOp HOD3 HX3 HB3 HST3 HSM
              have HA := hide (alike_yes (unhide HT4).st (unhide HT4).big (unhide HT4).ok (unhide HT4).en (unhide HT4).xo (unhide HT4).lo (unhide HT4).rk.ok (unhide HT4).sm)
              have x0 := (unhide HX4).c 0 rfl
              have x1 := (unhide HX4).c 1 rfl
              go_wp2_with fail
              refine (unhide HA).mono ?_
              rintro e WF ⟨rfl, hbf⟩
              have HT5 := hide ((unhide HT4).below hbf)
              have HOD5 := hide (And.intro ((unhide HOD4).below hbf) (unhide HSP4))
              have HX5 := hide ((unhide HX4).below hbf)
              have HB5 := hide ((unhide HB4).trans (hbf.mono (unhide HB4).size))
              clear hbf HA HT4 HOD4 HSP4 HX4 HB4 x0 x1
              go_wp2
              go_roundw
              case rel => exact ⟨k + 1, gt, it, kt, xa8, n8, xc8, la8, q8, lc8, IQ, K8, L8, va, vn, vc, DN, by omega, by go_num, rfl, rfl, HT5, HDK, HOD5, HX5, HB5⟩
              case measure => simp [intOf]; omega
            · have hq0 : ((((r : Nat) : Int)) == ((al : Nat) : Int)) = false := by rw [beq_eq_false_iff_ne]; omega
              have HLy := hide (unhide HLyN r (by have := unhide HAL; omega))
              clear HOD8
              go_wp2_with fail
              refine (unhide HLy).mono ?_
              rintro e WM ⟨vM, rfl, hOM, hbM⟩
              have HODM := hide (hOM.mono (unhide HB8).size)
              have HTM := hide ((unhide HT8).below hbM)
              have HXM := hide ((unhide HX8).below hbM)
              have HBM := hide ((unhide HB8).trans (hbM.mono (unhide HB8).size))
              have HY9 := hide ((unhide HY8).below hbM)
              have HOLDM := hide (And.intro ((unhide HOLD).1.below hbM) (And.intro ((unhide HOLD).2.1.below hbM) (fun x hx => ((unhide HOLD).2.2 x hx).below hbM : RkO WM L)))
              obtain ⟨vMa, vMn, vMc, hvM⟩ : ∃ a n c, vM = .slice a n c := by
                obtain ⟨a, c, h, -⟩ := hOM.at
                exact ⟨a, _, c, h⟩
              subst hvM
              clear hOM hbM HLy HT8 HX8 HB8 HY8 HOLD
              have HDK : Hid (Dsk (layD D I.length A C r) I K) := hide (by
                have h1 := (unhide HDK0).laid (R := R) (unhide HRR).1 (unhide HRR).2 (n := r) (by rw [← (unhide HAC).1]; have := unhide HAL; have := unhide HCl2; omega)
                rw [← (unhide HAC).1, ← (unhide HAC).2] at h1
                exact h1)
              obtain ⟨DN, hDN⟩ : ∃ DN, DN = layD D I.length A C r := ⟨_, rfl⟩
              rw [← hDN] at HDK HODM
              clear hDN
              have HXL := HXM
              have HBL := HBM
              have HOD := HODM
              have HXO := hide (unhide HOLDM).1
              have HLO2 := hide (unhide HOLDM).2.1
              have HRO := hide (unhide HOLDM).2.2
              have HSM := HSM0
              clear HXM HBM HODM HOLDM HTM HY9
              go_upto_region 20 with fail
              obtain ⟨WL, hWL⟩ : ∃ WL, WL = WM := ⟨_, rfl⟩
              rw [← hWL] at HXL HBL HOD HXO HLO2 HRO ⊢
              clear hWL
              obtain ⟨va, vc, hvd, hBd, hnd, hcd⟩ := (unhide HOD).atN
              have HCl := hide (Clone_any va vc DN WL hBd hnd (by have := (unhide HDK).ln; omega))
              obtain ⟨vn, hvn⟩ : ∃ vn, vn = DN.length := ⟨_, rfl⟩
              rw [← hvn] at hvd HCl
              injection hvd with e1 e2 e3
              have f1 := e1.symm
              have f2 := e2.symm
              have f3 := e3.symm
              clear e1 e2 e3
              subst f1 f2 f3
              have HVN := hide hvn
              clear hvn hBd hnd hcd
              go_wp2_with fail
              refine (unhide HCl).mono ?_
              rintro e WC ⟨v3, rfl, hO3, hb3, -⟩
              obtain ⟨a3, c3, hv3, hB3, hn3, hc3⟩ := hO3.atN
              subst hv3
              have HOD3 := hide ((unhide HOD).below hb3)
              have HX3 := hide ((unhide HXL).below hb3)
              have HB3 := hide ((unhide HBL).trans (hb3.mono (unhide HBL).size))
              have HST3 := hide (And.intro ((unhide HXO).below hb3) (And.intro ((unhide HLO2).below hb3) (fun x hx => ((unhide HRO) x hx).below hb3 : RkO WC L)))
              have HOp := hide (OpenS_disk (unhide HDK) a3 c3 WC hB3 hn3 hc3)
              clear hO3 hb3 hB3 hn3 hc3 HCl HOD HXL HBL HXO HLO2 HRO
              go_wp2_with fail
              refine (unhide HOp).mono ?_
              rintro e WE ⟨gt, it, kt, rfl, hst, hok, hen, hbo⟩
              have HT4 := hide (Tw.from (B := w.heap.size) (unhide HST3).1 (unhide HST3).2.1 (unhide HST3).2.2 (unhide HSM) hst hok hen (Nat.le_trans (unhide HDK).le (unhide HDK).ln) (Nat.le_refl _) (unhide HB3).size hbo)
              have HOD4 := hide ((unhide HOD3).below hbo)
              have HSP4 : Hid (∀ z, it.ownBlock = some z → (Value.slice va vn vc).ownBlock ≠ some z) := hide (fun z e e2 => by
                have h1 := (World.ownsRow.lt hst.img z e).1
                have h2 := (World.ownsRow.lt (unhide HOD3) z e2).2
                omega)
              have HX4 := hide ((unhide HX3).below hbo)
              have HB4 := hide ((unhide HB3).trans (hbo.mono (unhide HB3).size))
              clear hst hok hen hbo HOp HOD3 HX3 HB3 HST3 HSM
              have HA := hide (alike_yes (unhide HT4).st (unhide HT4).big (unhide HT4).ok (unhide HT4).en (unhide HT4).xo (unhide HT4).lo (unhide HT4).rk.ok (unhide HT4).sm)
              have x0 := (unhide HX4).c 0 rfl
              have x1 := (unhide HX4).c 1 rfl
              go_wp2_with fail
              refine (unhide HA).mono ?_
              rintro e WF ⟨rfl, hbf⟩
              have HT5 := hide ((unhide HT4).below hbf)
              have HOD5 := hide (And.intro ((unhide HOD4).below hbf) (unhide HSP4))
              have HX5 := hide ((unhide HX4).below hbf)
              have HB5 := hide ((unhide HB4).trans (hbf.mono (unhide HB4).size))
              clear hbf HA HT4 HOD4 HSP4 HX4 HB4 x0 x1
              go_wp2
              go_roundw
              case rel => exact ⟨k + 1, gt, it, kt, xa, n1, xc, la, n2, lc, I, K, L, va, vn, vc, DN, by omega, by go_num, rfl, rfl, HT5, HDK, HOD5, HX5, HB5⟩
              case measure => simp [intOf]; omega
          · have i3 : ¬ ((k : Nat) : Int) < ((CU.length : Nat) : Int) := by omega
            have hq0 : ((((al : Nat) : Int)) == ((al : Nat) : Int)) = true := beq_self_eq_true _
            go_upto_region 17 with fail
            have HLy := hide (unhide HLyN al (by have := unhide HAL; omega))
            clear HOD8
            go_wp2_with fail
            refine (unhide HLy).mono ?_
            rintro e WM ⟨vM, rfl, hOM, hbM⟩
            have HODM := hide (hOM.mono (unhide HB8).size)
            have HTM := hide ((unhide HT8).below hbM)
            have HXM := hide ((unhide HX8).below hbM)
            have HBM := hide ((unhide HB8).trans (hbM.mono (unhide HB8).size))
            have HY9 := hide ((unhide HY8).below hbM)
            have HOLDM := hide (And.intro ((unhide HOLD).1.below hbM) (And.intro ((unhide HOLD).2.1.below hbM) (fun x hx => ((unhide HOLD).2.2 x hx).below hbM : RkO WM L)))
            obtain ⟨vMa, vMn, vMc, hvM⟩ : ∃ a n c, vM = .slice a n c := by
              obtain ⟨a, c, h, -⟩ := hOM.at
              exact ⟨a, _, c, h⟩
            subst hvM
            clear hOM hbM HLy HT8 HX8 HB8 HY8 HOLD
            have HDK : Hid (Dsk (layD D I.length A C al) (I ++ R) K8) := hide (by
              have h1 := (unhide HDK0).whole (unhide HIM) (unhide HRR).1 (unhide HRR).2
              rw [← (unhide HAC).1, ← (unhide HAC).2] at h1
              have h2 : al = A.length + 1 := by have := unhide HAL; have := unhide HCl2; omega
              rw [h2]
              exact h1)
            obtain ⟨DN, hDN⟩ : ∃ DN, DN = layD D I.length A C al := ⟨_, rfl⟩
            rw [← hDN] at HDK HODM
            clear hDN
            obtain ⟨IQ, hIQ⟩ : ∃ IQ, IQ = I ++ R := ⟨_, rfl⟩
            rw [← hIQ] at HDK HTM
            clear hIQ
            have z0 := (unhide HY9).c 0 rfl
            have z1 := (unhide HY9).c 1 rfl
            have HXL : Hid (Bx (WM.setRow b9 #[.slice xa8 n8 xc8, .slice la8 q8 lc8]) b9 28 #[.slice xa8 n8 xc8, .slice la8 q8 lc8]) := hide (setRow_heap _ _ _ _ _ _ (unhide HXM))
            have HTL9 := hide ((unhide HTM).keepS (unhide HXM) (kept_row WM b9 #[.slice xa8 n8 xc8, .slice la8 q8 lc8]))
            have HBL : Hid (Below w.heap.size w (WM.setRow b9 #[.slice xa8 n8 xc8, .slice la8 q8 lc8])) := hide (below_rowS (unhide HBM) hb9 _)
            have HOD := hide ((unhide HODM).keepBx (unhide HXM) (kept_row WM b9 #[.slice xa8 n8 xc8, .slice la8 q8 lc8]) (by decide))
            have HXO := hide (unhide HTL9).xo
            have HLO2 := hide (unhide HTL9).lo
            have HRO := hide (unhide HTL9).rk
            have HSM := hide (unhide HTL9).sm
            go_upto_region 20 with (refine wpList_store_row rfl 28 _ _ rfl b9 #[.slice xa8 n8 xc8, .slice la8 q8 lc8] rfl rfl 28 #[.slice xa n1 xc, .slice la n2 lc] (unhide HXM) (by kernel_rfl) rfl (by simp [Value.oneCell']) ?_)
            clear z0 z1 HXM HTM HBM HODM HY9 HTL9
            generalize (WM.setRow b9 #[.slice xa8 n8 xc8, .slice la8 q8 lc8]) = WL at HXL HBL HOD HXO HLO2 HRO ⊢
            obtain ⟨va, vc, hvd, hBd, hnd, hcd⟩ := (unhide HOD).atN
            have HCl := hide (Clone_any va vc DN WL hBd hnd (by have := (unhide HDK).ln; omega))
            obtain ⟨vn, hvn⟩ : ∃ vn, vn = DN.length := ⟨_, rfl⟩
            rw [← hvn] at hvd HCl
            injection hvd with e1 e2 e3
            have f1 := e1.symm
            have f2 := e2.symm
            have f3 := e3.symm
            clear e1 e2 e3
            subst f1 f2 f3
            have HVN := hide hvn
            clear hvn hBd hnd hcd
            go_wp2_with fail
            refine (unhide HCl).mono ?_
            rintro e WC ⟨v3, rfl, hO3, hb3, -⟩
            obtain ⟨a3, c3, hv3, hB3, hn3, hc3⟩ := hO3.atN
            subst hv3
            have HOD3 := hide ((unhide HOD).below hb3)
            have HX3 := hide ((unhide HXL).below hb3)
            have HB3 := hide ((unhide HBL).trans (hb3.mono (unhide HBL).size))
            have HST3 := hide (And.intro ((unhide HXO).below hb3) (And.intro ((unhide HLO2).below hb3) (fun x hx => ((unhide HRO) x hx).below hb3 : RkO WC L8)))
            have HOp := hide (OpenS_disk (unhide HDK) a3 c3 WC hB3 hn3 hc3)
            clear hO3 hb3 hB3 hn3 hc3 HCl HOD HXL HBL HXO HLO2 HRO
            go_wp2_with fail
            refine (unhide HOp).mono ?_
            rintro e WE ⟨gt, it, kt, rfl, hst, hok, hen, hbo⟩
            have HT4 := hide (Tw.from (B := w.heap.size) (unhide HST3).1 (unhide HST3).2.1 (unhide HST3).2.2 (unhide HSM) hst hok hen (Nat.le_trans (unhide HDK).le (unhide HDK).ln) (Nat.le_refl _) (unhide HB3).size hbo)
            have HOD4 := hide ((unhide HOD3).below hbo)
            have HSP4 : Hid (∀ z, it.ownBlock = some z → (Value.slice va vn vc).ownBlock ≠ some z) := hide (fun z e e2 => by
              have h1 := (World.ownsRow.lt hst.img z e).1
              have h2 := (World.ownsRow.lt (unhide HOD3) z e2).2
              omega)
            have HX4 := hide ((unhide HX3).below hbo)
            have HB4 := hide ((unhide HB3).trans (hbo.mono (unhide HB3).size))
            clear hst hok hen hbo HOp HOD3 HX3 HB3 HST3 HSM
            have HA := hide (alike_yes (unhide HT4).st (unhide HT4).big (unhide HT4).ok (unhide HT4).en (unhide HT4).xo (unhide HT4).lo (unhide HT4).rk.ok (unhide HT4).sm)
            have x0 := (unhide HX4).c 0 rfl
            have x1 := (unhide HX4).c 1 rfl
            go_wp2_with fail
            refine (unhide HA).mono ?_
            rintro e WF ⟨rfl, hbf⟩
            have HT5 := hide ((unhide HT4).below hbf)
            have HOD5 := hide (And.intro ((unhide HOD4).below hbf) (unhide HSP4))
            have HX5 := hide ((unhide HX4).below hbf)
            have HB5 := hide ((unhide HB4).trans (hbf.mono (unhide HB4).size))
            clear hbf HA HT4 HOD4 HSP4 HX4 HB4 x0 x1
            go_wp2
            go_roundw
            case rel => exact ⟨k + 1, gt, it, kt, xa8, n8, xc8, la8, q8, lc8, IQ, K8, L8, va, vn, vc, DN, by omega, by go_num, rfl, rfl, HT5, HDK, HOD5, HX5, HB5⟩
            case measure => simp [intOf]; omega
      · have HDo := hide (doDrop_any x.nm x.ba x.bs.length x.bc (unhide HTb) (by have := (unhide HDA).nml; unfold maxLen; omega))
        have y0 := (unhide HXb).c 0 rfl
        have y1 := (unhide HXb).c 1 rfl
        go_wp2_with fail
        refine (unhide HDo).mono ?_
        intro e W8 h8
        obtain ⟨hk8, xi8, lv8, v8, iv8, kv8, I8, K8, L8, rfl, ht8, hT8⟩ := h8.torn (fun hc => torn_drop (unhide HDK0).im hc)
        obtain ⟨xa8, xc8, hx8, -⟩ := ht8.xo.at
        obtain ⟨la8, lc8, hl8, -⟩ := ht8.lo.at
        subst hx8 hl8
        have HX6 := hide ((unhide HXb).keepSA (unhide HTb).st hk8 (by decide) (by decide) (by decide))
        have HB6 := hide ((unhide HBb).trans (below_SA (unhide HTb).st hk8))
        have HT6 := hide ht8
        have HOL6 := hide ((unhide HTb).stands hk8)
        have HSM0 := hide (unhide HTb).sm
        have HOD6 : Hid (OwnB W8 w.heap.size (.slice da dn dc) D) := hide ((unhide HODb).1.keep hk8 (fun z e e2 => by
          obtain ⟨cur, hh⟩ := own_tyB (unhide HODb).1 e
          rcases e2 with e2 | e2 | e2
          · exact ty_ne hh (unhide HTb).st.row (by decide) e2
          · exact (unhide HODb).2 z e2 e
          · obtain ⟨cur2, hh2⟩ := (unhide HTb).st.kty _ e2
            exact ty_ne hh hh2 (by decide) rfl))
        obtain ⟨n8, hn8⟩ : ∃ n8, n8 = I8.length := ⟨_, rfl⟩
        obtain ⟨q8, hq8⟩ : ∃ q8, q8 = L8.length := ⟨_, rfl⟩
        rw [← hn8, ← hq8] at HT6 ⊢
        have HN8 := hide (And.intro hn8 hq8)
        clear hk8 ht8 HDo h8 HTb HXb HBb HODb y0 y1 d0 d1 d2 hn8 hq8
        have hT8' := hide hT8
        clear hT8
        obtain ⟨v8a, v8n, v8c, hv8s⟩ : ∃ a n c, v8 = .slice a n c := by
          rcases unhide hT8' with ⟨-, -, h⟩ | ⟨R, -, -, -, -, -, hw⟩
          · exact ⟨_, _, _, h⟩
          · obtain ⟨wb, -, -, -, -, h, -⟩ := hw
            exact ⟨_, _, _, h⟩
        subst hv8s
        go_upto_region 11 with fail
        have hal8q : Below W8.heap.size W8 (W8.alloc (.cells #[.slice xa8 n8 xc8, .slice la8 q8 lc8] 28)) := (Below.refl _ _).alloc (Nat.le_refl _) _
        have HY7 : Hid (Bx (W8.alloc (.cells #[.slice xa8 n8 xc8, .slice la8 q8 lc8] 28)) W8.heap.size 28 #[.slice xa8 n8 xc8, .slice la8 q8 lc8]) := hide (heap_alloc_new W8 _)
        have HX7 := hide ((unhide HX6).below hal8q)
        have HB7 := hide ((unhide HB6).trans (hal8q.mono (unhide HB6).size))
        have HT7 := hide ((unhide HT6).below hal8q)
        have HOD7 := hide ((unhide HOD6).below hal8q)
        have HOL7 := hide (And.intro ((unhide HOL6).1.below hal8q) (And.intro ((unhide HOL6).2.1.below hal8q) (fun x hx => ((unhide HOL6).2.2 x hx).below hal8q : RkO _ L)))
        clear HX6 HB6 HT6 HOD6 HOL6
        rcases unhide hT8' with ⟨hI8, hK8, hv8⟩ | hT8
        · injection hv8 with hva hvn hvc
          subst hva hvn hvc
          clear hT8'
          generalize (W8.alloc (.cells #[.slice xa8 n8 xc8, .slice la8 q8 lc8] 28)) = WX at HY7 HX7 HB7 HT7 HOD7 HOL7 hal8q ⊢
          generalize W8.heap.size = b14 at HY7 ⊢
          clear hal8q
          obtain ⟨W8, hWX⟩ : ∃ W8, W8 = WX := ⟨_, rfl⟩
          rw [← hWX] at HY7 HX7 HB7 HT7 HOD7 HOL7 ⊢
          clear hWX
          subst hI8 hK8
          have HTo := hide (total_nil W8)
          go_wp2_with fail
          refine (unhide HTo).mono ?_
          rintro e W9 ⟨rfl, hb9'⟩
          have HT8 := hide ((unhide HT7).below hb9')
          have HX8 := hide ((unhide HX7).below hb9')
          have HB8 := hide ((unhide HB7).trans (hb9'.mono (unhide HB7).size))
          have HY8 := hide ((unhide HY7).below hb9')
          have HOD8 := hide ((unhide HOD7).below hb9')
          have HOLD := hide (And.intro ((unhide HOL7).1.below hb9') (And.intro ((unhide HOL7).2.1.below hb9') (fun x hx => ((unhide HOL7).2.2 x hx).below hb9' : RkO W9 L)))
          clear hb9' HTo HT7 HX7 HB7 HY7 HOD7 HOL7
          obtain ⟨da', dc', hvd, hBd, hnd, hcd⟩ := (unhide HOD8).atN
          injection hvd with e1 e2 e3
          subst e1 e2 e3
          have HLyN := hide (fun (n : Int) => lay_nil da dc D hBd hnd (unhide HDK0).ln n)
          clear hBd hnd hcd
          have hq0 : ((0 : Int) == 0) = true := rfl
          by_cases hkc : k < CU.length
          · have i3 : ((k : Nat) : Int) < ((CU.length : Nat) : Int) := by omega
            obtain ⟨cb, coff, rfl, hcc0⟩ := unhide HCU k _ (List.getElem?_eq_getElem hkc)
            have cc1 : W9.cell? ⟨cb, coff + k, none⟩ = some (.int .i64 CU[k]) := below_cellC (unhide HB8) hcc0
            generalize CU[k] = cval at cc1 hcc0
            clear hcc0
            go_upto_region 17 with fail
            obtain ⟨r, hre, hrl⟩ := u64remN cval 1 (by omega) (by omega)
            obtain rfl : r = 0 := by omega
            have hre' : wrap64 ((IntKind.u64.wrap cval).tmod 1) = 0 := hre
            try rw [hre']
            clear hre hre' hrl cc1
            have HLy := hide (unhide HLyN 0)
            clear HOD8
            go_wp2_with fail
            refine (unhide HLy).mono ?_
            rintro e WM ⟨vM, rfl, hOM, hbM⟩
            have HODM := hide (hOM.mono (unhide HB8).size)
            have HTM := hide ((unhide HT8).below hbM)
            have HXM := hide ((unhide HX8).below hbM)
            have HBM := hide ((unhide HB8).trans (hbM.mono (unhide HB8).size))
            have HY9 := hide ((unhide HY8).below hbM)
            have HOLDM := hide (And.intro ((unhide HOLD).1.below hbM) (And.intro ((unhide HOLD).2.1.below hbM) (fun x hx => ((unhide HOLD).2.2 x hx).below hbM : RkO WM L)))
            obtain ⟨vMa, vMn, vMc, hvM⟩ : ∃ a n c, vM = .slice a n c := by
              obtain ⟨a, c, h, -⟩ := hOM.at
              exact ⟨a, _, c, h⟩
            subst hvM
            clear hOM hbM HLy HT8 HX8 HB8 HY8 HOLD
            have HDK := HDK0
            obtain ⟨DN, hDN⟩ : ∃ DN, DN = D := ⟨_, rfl⟩
            rw [← hDN] at HDK
            rw [← hDN] at HODM
            clear hDN
            have z0 := (unhide HY9).c 0 rfl
            have z1 := (unhide HY9).c 1 rfl
            have HXL : Hid (Bx (WM.setRow b9 #[.slice xa8 n8 xc8, .slice la8 q8 lc8]) b9 28 #[.slice xa8 n8 xc8, .slice la8 q8 lc8]) := hide (setRow_heap _ _ _ _ _ _ (unhide HXM))
            have HTL9 := hide ((unhide HTM).keepS (unhide HXM) (kept_row WM b9 #[.slice xa8 n8 xc8, .slice la8 q8 lc8]))
            have HBL : Hid (Below w.heap.size w (WM.setRow b9 #[.slice xa8 n8 xc8, .slice la8 q8 lc8])) := hide (below_rowS (unhide HBM) hb9 _)
            have HOD := hide ((unhide HODM).keepBx (unhide HXM) (kept_row WM b9 #[.slice xa8 n8 xc8, .slice la8 q8 lc8]) (by decide))
            have HXO := hide (unhide HTL9).xo
            have HLO2 := hide (unhide HTL9).lo
            have HRO := hide (unhide HTL9).rk
            have HSM := hide (unhide HTL9).sm
            go_upto_region 20 with (refine wpList_store_row rfl 28 _ _ rfl b9 #[.slice xa8 n8 xc8, .slice la8 q8 lc8] rfl rfl 28 #[.slice xa n1 xc, .slice la n2 lc] (unhide HXM) (by kernel_rfl) rfl (by simp [Value.oneCell']) ?_)
            clear z0 z1 HXM HTM HBM HODM HY9 HTL9
            generalize (WM.setRow b9 #[.slice xa8 n8 xc8, .slice la8 q8 lc8]) = WL at HXL HBL HOD HXO HLO2 HRO ⊢
            obtain ⟨va, vc, hvd, hBd, hnd, hcd⟩ := (unhide HOD).atN
            have HCl := hide (Clone_any va vc DN WL hBd hnd (by have := (unhide HDK).ln; omega))
            obtain ⟨vn, hvn⟩ : ∃ vn, vn = DN.length := ⟨_, rfl⟩
            rw [← hvn] at hvd HCl
            injection hvd with e1 e2 e3
            have f1 := e1.symm
            have f2 := e2.symm
            have f3 := e3.symm
            clear e1 e2 e3
            subst f1 f2 f3
            have HVN := hide hvn
            clear hvn hBd hnd hcd
            go_wp2_with fail
            refine (unhide HCl).mono ?_
            rintro e WC ⟨v3, rfl, hO3, hb3, -⟩
            obtain ⟨a3, c3, hv3, hB3, hn3, hc3⟩ := hO3.atN
            subst hv3
            have HOD3 := hide ((unhide HOD).below hb3)
            have HX3 := hide ((unhide HXL).below hb3)
            have HB3 := hide ((unhide HBL).trans (hb3.mono (unhide HBL).size))
            have HST3 := hide (And.intro ((unhide HXO).below hb3) (And.intro ((unhide HLO2).below hb3) (fun x hx => ((unhide HRO) x hx).below hb3 : RkO WC L8)))
            have HOp := hide (OpenS_disk (unhide HDK) a3 c3 WC hB3 hn3 hc3)
            clear hO3 hb3 hB3 hn3 hc3 HCl HOD HXL HBL HXO HLO2 HRO
            go_wp2_with fail
            refine (unhide HOp).mono ?_
            rintro e WE ⟨gt, it, kt, rfl, hst, hok, hen, hbo⟩
            have HT4 := hide (Tw.from (B := w.heap.size) (unhide HST3).1 (unhide HST3).2.1 (unhide HST3).2.2 (unhide HSM) hst hok hen (Nat.le_trans (unhide HDK).le (unhide HDK).ln) (Nat.le_refl _) (unhide HB3).size hbo)
            have HOD4 := hide ((unhide HOD3).below hbo)
            have HSP4 : Hid (∀ z, it.ownBlock = some z → (Value.slice va vn vc).ownBlock ≠ some z) := hide (fun z e e2 => by
              have h1 := (World.ownsRow.lt hst.img z e).1
              have h2 := (World.ownsRow.lt (unhide HOD3) z e2).2
              omega)
            have HX4 := hide ((unhide HX3).below hbo)
            have HB4 := hide ((unhide HB3).trans (hbo.mono (unhide HB3).size))
            clear hst hok hen hbo HOp HOD3 HX3 HB3 HST3 HSM
            have HA := hide (alike_yes (unhide HT4).st (unhide HT4).big (unhide HT4).ok (unhide HT4).en (unhide HT4).xo (unhide HT4).lo (unhide HT4).rk.ok (unhide HT4).sm)
            have x0 := (unhide HX4).c 0 rfl
            have x1 := (unhide HX4).c 1 rfl
            go_wp2_with fail
            refine (unhide HA).mono ?_
            rintro e WF ⟨rfl, hbf⟩
            have HT5 := hide ((unhide HT4).below hbf)
            have HOD5 := hide (And.intro ((unhide HOD4).below hbf) (unhide HSP4))
            have HX5 := hide ((unhide HX4).below hbf)
            have HB5 := hide ((unhide HB4).trans (hbf.mono (unhide HB4).size))
            clear hbf HA HT4 HOD4 HSP4 HX4 HB4 x0 x1
            go_wp2
            go_roundw
            case rel => exact ⟨k + 1, gt, it, kt, xa8, n8, xc8, la8, q8, lc8, I8, K8, L8, va, vn, vc, DN, by omega, by go_num, rfl, rfl, HT5, HDK, HOD5, HX5, HB5⟩
            case measure => simp [intOf]; omega
          · have i3 : ¬ ((k : Nat) : Int) < ((CU.length : Nat) : Int) := by omega
            go_upto_region 17 with fail
            have HLy := hide (unhide HLyN 0)
            clear HOD8
            go_wp2_with fail
            refine (unhide HLy).mono ?_
            rintro e WM ⟨vM, rfl, hOM, hbM⟩
            have HODM := hide (hOM.mono (unhide HB8).size)
            have HTM := hide ((unhide HT8).below hbM)
            have HXM := hide ((unhide HX8).below hbM)
            have HBM := hide ((unhide HB8).trans (hbM.mono (unhide HB8).size))
            have HY9 := hide ((unhide HY8).below hbM)
            have HOLDM := hide (And.intro ((unhide HOLD).1.below hbM) (And.intro ((unhide HOLD).2.1.below hbM) (fun x hx => ((unhide HOLD).2.2 x hx).below hbM : RkO WM L)))
            obtain ⟨vMa, vMn, vMc, hvM⟩ : ∃ a n c, vM = .slice a n c := by
              obtain ⟨a, c, h, -⟩ := hOM.at
              exact ⟨a, _, c, h⟩
            subst hvM
            clear hOM hbM HLy HT8 HX8 HB8 HY8 HOLD
            have HDK := HDK0
            obtain ⟨DN, hDN⟩ : ∃ DN, DN = D := ⟨_, rfl⟩
            rw [← hDN] at HDK
            rw [← hDN] at HODM
            clear hDN
            have z0 := (unhide HY9).c 0 rfl
            have z1 := (unhide HY9).c 1 rfl
            have HXL : Hid (Bx (WM.setRow b9 #[.slice xa8 n8 xc8, .slice la8 q8 lc8]) b9 28 #[.slice xa8 n8 xc8, .slice la8 q8 lc8]) := hide (setRow_heap _ _ _ _ _ _ (unhide HXM))
            have HTL9 := hide ((unhide HTM).keepS (unhide HXM) (kept_row WM b9 #[.slice xa8 n8 xc8, .slice la8 q8 lc8]))
            have HBL : Hid (Below w.heap.size w (WM.setRow b9 #[.slice xa8 n8 xc8, .slice la8 q8 lc8])) := hide (below_rowS (unhide HBM) hb9 _)
            have HOD := hide ((unhide HODM).keepBx (unhide HXM) (kept_row WM b9 #[.slice xa8 n8 xc8, .slice la8 q8 lc8]) (by decide))
            have HXO := hide (unhide HTL9).xo
            have HLO2 := hide (unhide HTL9).lo
            have HRO := hide (unhide HTL9).rk
            have HSM := hide (unhide HTL9).sm
            go_upto_region 20 with (refine wpList_store_row rfl 28 _ _ rfl b9 #[.slice xa8 n8 xc8, .slice la8 q8 lc8] rfl rfl 28 #[.slice xa n1 xc, .slice la n2 lc] (unhide HXM) (by kernel_rfl) rfl (by simp [Value.oneCell']) ?_)
            clear z0 z1 HXM HTM HBM HODM HY9 HTL9
            generalize (WM.setRow b9 #[.slice xa8 n8 xc8, .slice la8 q8 lc8]) = WL at HXL HBL HOD HXO HLO2 HRO ⊢
            obtain ⟨va, vc, hvd, hBd, hnd, hcd⟩ := (unhide HOD).atN
            have HCl := hide (Clone_any va vc DN WL hBd hnd (by have := (unhide HDK).ln; omega))
            obtain ⟨vn, hvn⟩ : ∃ vn, vn = DN.length := ⟨_, rfl⟩
            rw [← hvn] at hvd HCl
            injection hvd with e1 e2 e3
            have f1 := e1.symm
            have f2 := e2.symm
            have f3 := e3.symm
            clear e1 e2 e3
            subst f1 f2 f3
            have HVN := hide hvn
            clear hvn hBd hnd hcd
            go_wp2_with fail
            refine (unhide HCl).mono ?_
            rintro e WC ⟨v3, rfl, hO3, hb3, -⟩
            obtain ⟨a3, c3, hv3, hB3, hn3, hc3⟩ := hO3.atN
            subst hv3
            have HOD3 := hide ((unhide HOD).below hb3)
            have HX3 := hide ((unhide HXL).below hb3)
            have HB3 := hide ((unhide HBL).trans (hb3.mono (unhide HBL).size))
            have HST3 := hide (And.intro ((unhide HXO).below hb3) (And.intro ((unhide HLO2).below hb3) (fun x hx => ((unhide HRO) x hx).below hb3 : RkO WC L8)))
            have HOp := hide (OpenS_disk (unhide HDK) a3 c3 WC hB3 hn3 hc3)
            clear hO3 hb3 hB3 hn3 hc3 HCl HOD HXL HBL HXO HLO2 HRO
            go_wp2_with fail
            refine (unhide HOp).mono ?_
            rintro e WE ⟨gt, it, kt, rfl, hst, hok, hen, hbo⟩
            have HT4 := hide (Tw.from (B := w.heap.size) (unhide HST3).1 (unhide HST3).2.1 (unhide HST3).2.2 (unhide HSM) hst hok hen (Nat.le_trans (unhide HDK).le (unhide HDK).ln) (Nat.le_refl _) (unhide HB3).size hbo)
            have HOD4 := hide ((unhide HOD3).below hbo)
            have HSP4 : Hid (∀ z, it.ownBlock = some z → (Value.slice va vn vc).ownBlock ≠ some z) := hide (fun z e e2 => by
              have h1 := (World.ownsRow.lt hst.img z e).1
              have h2 := (World.ownsRow.lt (unhide HOD3) z e2).2
              omega)
            have HX4 := hide ((unhide HX3).below hbo)
            have HB4 := hide ((unhide HB3).trans (hbo.mono (unhide HB3).size))
            clear hst hok hen hbo HOp HOD3 HX3 HB3 HST3 HSM
            have HA := hide (alike_yes (unhide HT4).st (unhide HT4).big (unhide HT4).ok (unhide HT4).en (unhide HT4).xo (unhide HT4).lo (unhide HT4).rk.ok (unhide HT4).sm)
            have x0 := (unhide HX4).c 0 rfl
            have x1 := (unhide HX4).c 1 rfl
            go_wp2_with fail
            refine (unhide HA).mono ?_
            rintro e WF ⟨rfl, hbf⟩
            have HT5 := hide ((unhide HT4).below hbf)
            have HOD5 := hide (And.intro ((unhide HOD4).below hbf) (unhide HSP4))
            have HX5 := hide ((unhide HX4).below hbf)
            have HB5 := hide ((unhide HB4).trans (hbf.mono (unhide HB4).size))
            clear hbf HA HT4 HOD4 HSP4 HX4 HB4 x0 x1
            go_wp2
            go_roundw
            case rel => exact ⟨k + 1, gt, it, kt, xa8, n8, xc8, la8, q8, lc8, I8, K8, L8, va, vn, vc, DN, by omega, by go_num, rfl, rfl, HT5, HDK, HOD5, HX5, HB5⟩
            case measure => simp [intOf]; omega
        · clear hT8'
          obtain ⟨WX, hWX⟩ : ∃ WX, WX = (W8.alloc (.cells #[.slice xa8 n8 xc8, .slice la8 q8 lc8] 28)) := ⟨_, rfl⟩
          rw [← hWX] at HY7 HX7 HB7 HT7 HOD7 HOL7 hal8q ⊢
          clear hWX
          obtain ⟨R, hI8, him8, hR2, hR5, hRb, hW8⟩ := hT8
          subst hI8
          have hhl : (hidB R).length = R.length + 1 := by simp [hidB]; omega
          have HWR := hide ((hW8.below hal8q))
          have HIM := hide him8
          obtain ⟨A, hA⟩ : ∃ A, A = hidB R := ⟨_, rfl⟩
          obtain ⟨C, hC⟩ : ∃ C, C = [R.getD 0 0] := ⟨_, rfl⟩
          rw [← hA, ← hC] at HWR
          have hAl : A.length ≤ 10000 := by rw [hA]; omega
          have hCl : C.length = 1 := by rw [hC]; rfl
          have HTo := hide (total_two (unhide HWR) hAl (by omega))
          obtain ⟨al, hal1⟩ : ∃ al, al = A.length + C.length := ⟨_, rfl⟩
          rw [← hal1] at HTo
          have HAL := hide hal1
          have hall : al ≤ 10001 := by omega
          have HAC := hide (And.intro hA hC)
          have HAl2 := hide hAl
          have HCl2 := hide hCl
          have HRR := hide (And.intro hR2 hRb)
          obtain ⟨wbv, -, -, -, -, hvv, -⟩ := unhide HWR
          injection hvv with hv1 hv2 hv3
          subst hv1 hv2 hv3
          clear hal1 hA hC hAl hCl hhl hW8 him8 hR2 hR5 hRb
          go_wp2_with fail
          refine (unhide HTo).mono ?_
          rintro e W9 ⟨rfl, hb9'⟩
          have HT8 := hide ((unhide HT7).below hb9')
          have HX8 := hide ((unhide HX7).below hb9')
          have HB8 := hide ((unhide HB7).trans (hb9'.mono (unhide HB7).size))
          have HY8 := hide ((unhide HY7).below hb9')
          have HOD8 := hide ((unhide HOD7).below hb9')
          have HWR8 := hide ((unhide HWR).below hb9')
          have HOLD := hide (And.intro ((unhide HOL7).1.below hb9') (And.intro ((unhide HOL7).2.1.below hb9') (fun x hx => ((unhide HOL7).2.2 x hx).below hb9' : RkO W9 L)))
          clear hb9' HTo HT7 HX7 HB7 HY7 HOD7 HOL7 HWR
          obtain ⟨da', dc', hvd, hBd, hnd, hcd⟩ := (unhide HOD8).atN
          injection hvd with e1 e2 e3
          subst e1 e2 e3
          have HLyN := hide (fun (n : Nat) (hn : n ≤ A.length + C.length) => lay_two da dc D n hBd hnd (unhide HDK0).ln (unhide HWR8) (unhide HAl2) (by have := unhide HCl2; omega) (unhide HDK0).le hn)
          clear hBd hnd hcd
          by_cases hkc : k < CU.length
          · have i3 : ((k : Nat) : Int) < ((CU.length : Nat) : Int) := by omega
            obtain ⟨cb, coff, rfl, hcc0⟩ := unhide HCU k _ (List.getElem?_eq_getElem hkc)
            have cc1 : W9.cell? ⟨cb, coff + k, none⟩ = some (.int .i64 CU[k]) := below_cellC (unhide HB8) hcc0
            generalize CU[k] = cval at cc1 hcc0
            clear hcc0
            have HU : Hid (IntKind.u64.wrap (((al : Nat) : Int) + 1) = ((al + 1 : Nat) : Int)) := hide (by simp [IntKind.wrap, IntKind.bits, IntKind.signed]; omega)
            go_upto_region 17 with fail
            obtain ⟨r, hre, hrl⟩ := u64remN cval (al + 1) (by omega) (by omega)
            have hre2 : wrap64 ((IntKind.u64.wrap cval).tmod (((al : Nat) : Int) + 1)) = (r : Int) := by
              have h9 : ((al + 1 : Nat) : Int) = ((al : Nat) : Int) + 1 := by omega
              rw [← h9]
              exact hre
            rw [hre2]
            clear hre2
            clear hre cc1 HU
            by_cases hra : r = al
            · subst hra
              have hq0 : ((((r : Nat) : Int)) == ((r : Nat) : Int)) = true := beq_self_eq_true _
              have HLy := hide (unhide HLyN r (by have := unhide HAL; omega))
              clear HOD8
              go_wp2_with fail
              refine (unhide HLy).mono ?_
              rintro e WM ⟨vM, rfl, hOM, hbM⟩
              have HODM := hide (hOM.mono (unhide HB8).size)
              have HTM := hide ((unhide HT8).below hbM)
              have HXM := hide ((unhide HX8).below hbM)
              have HBM := hide ((unhide HB8).trans (hbM.mono (unhide HB8).size))
              have HY9 := hide ((unhide HY8).below hbM)
              have HOLDM := hide (And.intro ((unhide HOLD).1.below hbM) (And.intro ((unhide HOLD).2.1.below hbM) (fun x hx => ((unhide HOLD).2.2 x hx).below hbM : RkO WM L)))
              obtain ⟨vMa, vMn, vMc, hvM⟩ : ∃ a n c, vM = .slice a n c := by
                obtain ⟨a, c, h, -⟩ := hOM.at
                exact ⟨a, _, c, h⟩
              subst hvM
              clear hOM hbM HLy HT8 HX8 HB8 HY8 HOLD
              have HDK : Hid (Dsk (layD D I.length A C r) (I ++ R) K8) := hide (by
                have h1 := (unhide HDK0).whole (unhide HIM) (unhide HRR).1 (unhide HRR).2
                rw [← (unhide HAC).1, ← (unhide HAC).2] at h1
                have h2 : r = A.length + 1 := by have := unhide HAL; have := unhide HCl2; omega
                rw [h2]
                exact h1)
              obtain ⟨DN, hDN⟩ : ∃ DN, DN = layD D I.length A C r := ⟨_, rfl⟩
              rw [← hDN] at HDK HODM
              clear hDN
              obtain ⟨IQ, hIQ⟩ : ∃ IQ, IQ = I ++ R := ⟨_, rfl⟩
              rw [← hIQ] at HDK HTM
              clear hIQ
              have z0 := (unhide HY9).c 0 rfl
              have z1 := (unhide HY9).c 1 rfl
              have HXL : Hid (Bx (WM.setRow b9 #[.slice xa8 n8 xc8, .slice la8 q8 lc8]) b9 28 #[.slice xa8 n8 xc8, .slice la8 q8 lc8]) := hide (setRow_heap _ _ _ _ _ _ (unhide HXM))
              have HTL9 := hide ((unhide HTM).keepS (unhide HXM) (kept_row WM b9 #[.slice xa8 n8 xc8, .slice la8 q8 lc8]))
              have HBL : Hid (Below w.heap.size w (WM.setRow b9 #[.slice xa8 n8 xc8, .slice la8 q8 lc8])) := hide (below_rowS (unhide HBM) hb9 _)
              have HOD := hide ((unhide HODM).keepBx (unhide HXM) (kept_row WM b9 #[.slice xa8 n8 xc8, .slice la8 q8 lc8]) (by decide))
              have HXO := hide (unhide HTL9).xo
              have HLO2 := hide (unhide HTL9).lo
              have HRO := hide (unhide HTL9).rk
              have HSM := hide (unhide HTL9).sm
              go_upto_region 20 with (refine wpList_store_row rfl 28 _ _ rfl b9 #[.slice xa8 n8 xc8, .slice la8 q8 lc8] rfl rfl 28 #[.slice xa n1 xc, .slice la n2 lc] (unhide HXM) (by kernel_rfl) rfl (by simp [Value.oneCell']) ?_)
              clear z0 z1 HXM HTM HBM HODM HY9 HTL9
              generalize (WM.setRow b9 #[.slice xa8 n8 xc8, .slice la8 q8 lc8]) = WL at HXL HBL HOD HXO HLO2 HRO ⊢
              obtain ⟨va, vc, hvd, hBd, hnd, hcd⟩ := (unhide HOD).atN
              have HCl := hide (Clone_any va vc DN WL hBd hnd (by have := (unhide HDK).ln; omega))
              obtain ⟨vn, hvn⟩ : ∃ vn, vn = DN.length := ⟨_, rfl⟩
              rw [← hvn] at hvd HCl
              injection hvd with e1 e2 e3
              have f1 := e1.symm
              have f2 := e2.symm
              have f3 := e3.symm
              clear e1 e2 e3
              subst f1 f2 f3
              have HVN := hide hvn
              clear hvn hBd hnd hcd
              go_wp2_with fail
              refine (unhide HCl).mono ?_
              rintro e WC ⟨v3, rfl, hO3, hb3, -⟩
              obtain ⟨a3, c3, hv3, hB3, hn3, hc3⟩ := hO3.atN
              subst hv3
              have HOD3 := hide ((unhide HOD).below hb3)
              have HX3 := hide ((unhide HXL).below hb3)
              have HB3 := hide ((unhide HBL).trans (hb3.mono (unhide HBL).size))
              have HST3 := hide (And.intro ((unhide HXO).below hb3) (And.intro ((unhide HLO2).below hb3) (fun x hx => ((unhide HRO) x hx).below hb3 : RkO WC L8)))
              have HOp := hide (OpenS_disk (unhide HDK) a3 c3 WC hB3 hn3 hc3)
              clear hO3 hb3 hB3 hn3 hc3 HCl HOD HXL HBL HXO HLO2 HRO
              go_wp2_with fail
              refine (unhide HOp).mono ?_
              rintro e WE ⟨gt, it, kt, rfl, hst, hok, hen, hbo⟩
              have HT4 := hide (Tw.from (B := w.heap.size) (unhide HST3).1 (unhide HST3).2.1 (unhide HST3).2.2 (unhide HSM) hst hok hen (Nat.le_trans (unhide HDK).le (unhide HDK).ln) (Nat.le_refl _) (unhide HB3).size hbo)
              have HOD4 := hide ((unhide HOD3).below hbo)
              have HSP4 : Hid (∀ z, it.ownBlock = some z → (Value.slice va vn vc).ownBlock ≠ some z) := hide (fun z e e2 => by
                have h1 := (World.ownsRow.lt hst.img z e).1
                have h2 := (World.ownsRow.lt (unhide HOD3) z e2).2
                omega)
              have HX4 := hide ((unhide HX3).below hbo)
              have HB4 := hide ((unhide HB3).trans (hbo.mono (unhide HB3).size))
              clear hst hok hen hbo HOp HOD3 HX3 HB3 HST3 HSM
              have HA := hide (alike_yes (unhide HT4).st (unhide HT4).big (unhide HT4).ok (unhide HT4).en (unhide HT4).xo (unhide HT4).lo (unhide HT4).rk.ok (unhide HT4).sm)
              have x0 := (unhide HX4).c 0 rfl
              have x1 := (unhide HX4).c 1 rfl
              go_wp2_with fail
              refine (unhide HA).mono ?_
              rintro e WF ⟨rfl, hbf⟩
              have HT5 := hide ((unhide HT4).below hbf)
              have HOD5 := hide (And.intro ((unhide HOD4).below hbf) (unhide HSP4))
              have HX5 := hide ((unhide HX4).below hbf)
              have HB5 := hide ((unhide HB4).trans (hbf.mono (unhide HB4).size))
              clear hbf HA HT4 HOD4 HSP4 HX4 HB4 x0 x1
              go_wp2
              go_roundw
              case rel => exact ⟨k + 1, gt, it, kt, xa8, n8, xc8, la8, q8, lc8, IQ, K8, L8, va, vn, vc, DN, by omega, by go_num, rfl, rfl, HT5, HDK, HOD5, HX5, HB5⟩
              case measure => simp [intOf]; omega
            · have hq0 : ((((r : Nat) : Int)) == ((al : Nat) : Int)) = false := by rw [beq_eq_false_iff_ne]; omega
              have HLy := hide (unhide HLyN r (by have := unhide HAL; omega))
              clear HOD8
              go_wp2_with fail
              refine (unhide HLy).mono ?_
              rintro e WM ⟨vM, rfl, hOM, hbM⟩
              have HODM := hide (hOM.mono (unhide HB8).size)
              have HTM := hide ((unhide HT8).below hbM)
              have HXM := hide ((unhide HX8).below hbM)
              have HBM := hide ((unhide HB8).trans (hbM.mono (unhide HB8).size))
              have HY9 := hide ((unhide HY8).below hbM)
              have HOLDM := hide (And.intro ((unhide HOLD).1.below hbM) (And.intro ((unhide HOLD).2.1.below hbM) (fun x hx => ((unhide HOLD).2.2 x hx).below hbM : RkO WM L)))
              obtain ⟨vMa, vMn, vMc, hvM⟩ : ∃ a n c, vM = .slice a n c := by
                obtain ⟨a, c, h, -⟩ := hOM.at
                exact ⟨a, _, c, h⟩
              subst hvM
              clear hOM hbM HLy HT8 HX8 HB8 HY8 HOLD
              have HDK : Hid (Dsk (layD D I.length A C r) I K) := hide (by
                have h1 := (unhide HDK0).laid (R := R) (unhide HRR).1 (unhide HRR).2 (n := r) (by rw [← (unhide HAC).1]; have := unhide HAL; have := unhide HCl2; omega)
                rw [← (unhide HAC).1, ← (unhide HAC).2] at h1
                exact h1)
              obtain ⟨DN, hDN⟩ : ∃ DN, DN = layD D I.length A C r := ⟨_, rfl⟩
              rw [← hDN] at HDK HODM
              clear hDN
              have HXL := HXM
              have HBL := HBM
              have HOD := HODM
              have HXO := hide (unhide HOLDM).1
              have HLO2 := hide (unhide HOLDM).2.1
              have HRO := hide (unhide HOLDM).2.2
              have HSM := HSM0
              clear HXM HBM HODM HOLDM HTM HY9
              go_upto_region 20 with fail
              obtain ⟨WL, hWL⟩ : ∃ WL, WL = WM := ⟨_, rfl⟩
              rw [← hWL] at HXL HBL HOD HXO HLO2 HRO ⊢
              clear hWL
              obtain ⟨va, vc, hvd, hBd, hnd, hcd⟩ := (unhide HOD).atN
              have HCl := hide (Clone_any va vc DN WL hBd hnd (by have := (unhide HDK).ln; omega))
              obtain ⟨vn, hvn⟩ : ∃ vn, vn = DN.length := ⟨_, rfl⟩
              rw [← hvn] at hvd HCl
              injection hvd with e1 e2 e3
              have f1 := e1.symm
              have f2 := e2.symm
              have f3 := e3.symm
              clear e1 e2 e3
              subst f1 f2 f3
              have HVN := hide hvn
              clear hvn hBd hnd hcd
              go_wp2_with fail
              refine (unhide HCl).mono ?_
              rintro e WC ⟨v3, rfl, hO3, hb3, -⟩
              obtain ⟨a3, c3, hv3, hB3, hn3, hc3⟩ := hO3.atN
              subst hv3
              have HOD3 := hide ((unhide HOD).below hb3)
              have HX3 := hide ((unhide HXL).below hb3)
              have HB3 := hide ((unhide HBL).trans (hb3.mono (unhide HBL).size))
              have HST3 := hide (And.intro ((unhide HXO).below hb3) (And.intro ((unhide HLO2).below hb3) (fun x hx => ((unhide HRO) x hx).below hb3 : RkO WC L)))
              have HOp := hide (OpenS_disk (unhide HDK) a3 c3 WC hB3 hn3 hc3)
              clear hO3 hb3 hB3 hn3 hc3 HCl HOD HXL HBL HXO HLO2 HRO
              go_wp2_with fail
              refine (unhide HOp).mono ?_
              rintro e WE ⟨gt, it, kt, rfl, hst, hok, hen, hbo⟩
              have HT4 := hide (Tw.from (B := w.heap.size) (unhide HST3).1 (unhide HST3).2.1 (unhide HST3).2.2 (unhide HSM) hst hok hen (Nat.le_trans (unhide HDK).le (unhide HDK).ln) (Nat.le_refl _) (unhide HB3).size hbo)
              have HOD4 := hide ((unhide HOD3).below hbo)
              have HSP4 : Hid (∀ z, it.ownBlock = some z → (Value.slice va vn vc).ownBlock ≠ some z) := hide (fun z e e2 => by
                have h1 := (World.ownsRow.lt hst.img z e).1
                have h2 := (World.ownsRow.lt (unhide HOD3) z e2).2
                omega)
              have HX4 := hide ((unhide HX3).below hbo)
              have HB4 := hide ((unhide HB3).trans (hbo.mono (unhide HB3).size))
              clear hst hok hen hbo HOp HOD3 HX3 HB3 HST3 HSM
              have HA := hide (alike_yes (unhide HT4).st (unhide HT4).big (unhide HT4).ok (unhide HT4).en (unhide HT4).xo (unhide HT4).lo (unhide HT4).rk.ok (unhide HT4).sm)
              have x0 := (unhide HX4).c 0 rfl
              have x1 := (unhide HX4).c 1 rfl
              go_wp2_with fail
              refine (unhide HA).mono ?_
              rintro e WF ⟨rfl, hbf⟩
              have HT5 := hide ((unhide HT4).below hbf)
              have HOD5 := hide (And.intro ((unhide HOD4).below hbf) (unhide HSP4))
              have HX5 := hide ((unhide HX4).below hbf)
              have HB5 := hide ((unhide HB4).trans (hbf.mono (unhide HB4).size))
              clear hbf HA HT4 HOD4 HSP4 HX4 HB4 x0 x1
              go_wp2
              go_roundw
              case rel => exact ⟨k + 1, gt, it, kt, xa, n1, xc, la, n2, lc, I, K, L, va, vn, vc, DN, by omega, by go_num, rfl, rfl, HT5, HDK, HOD5, HX5, HB5⟩
              case measure => simp [intOf]; omega
          · have i3 : ¬ ((k : Nat) : Int) < ((CU.length : Nat) : Int) := by omega
            have hq0 : ((((al : Nat) : Int)) == ((al : Nat) : Int)) = true := beq_self_eq_true _
            go_upto_region 17 with fail
            have HLy := hide (unhide HLyN al (by have := unhide HAL; omega))
            clear HOD8
            go_wp2_with fail
            refine (unhide HLy).mono ?_
            rintro e WM ⟨vM, rfl, hOM, hbM⟩
            have HODM := hide (hOM.mono (unhide HB8).size)
            have HTM := hide ((unhide HT8).below hbM)
            have HXM := hide ((unhide HX8).below hbM)
            have HBM := hide ((unhide HB8).trans (hbM.mono (unhide HB8).size))
            have HY9 := hide ((unhide HY8).below hbM)
            have HOLDM := hide (And.intro ((unhide HOLD).1.below hbM) (And.intro ((unhide HOLD).2.1.below hbM) (fun x hx => ((unhide HOLD).2.2 x hx).below hbM : RkO WM L)))
            obtain ⟨vMa, vMn, vMc, hvM⟩ : ∃ a n c, vM = .slice a n c := by
              obtain ⟨a, c, h, -⟩ := hOM.at
              exact ⟨a, _, c, h⟩
            subst hvM
            clear hOM hbM HLy HT8 HX8 HB8 HY8 HOLD
            have HDK : Hid (Dsk (layD D I.length A C al) (I ++ R) K8) := hide (by
              have h1 := (unhide HDK0).whole (unhide HIM) (unhide HRR).1 (unhide HRR).2
              rw [← (unhide HAC).1, ← (unhide HAC).2] at h1
              have h2 : al = A.length + 1 := by have := unhide HAL; have := unhide HCl2; omega
              rw [h2]
              exact h1)
            obtain ⟨DN, hDN⟩ : ∃ DN, DN = layD D I.length A C al := ⟨_, rfl⟩
            rw [← hDN] at HDK HODM
            clear hDN
            obtain ⟨IQ, hIQ⟩ : ∃ IQ, IQ = I ++ R := ⟨_, rfl⟩
            rw [← hIQ] at HDK HTM
            clear hIQ
            have z0 := (unhide HY9).c 0 rfl
            have z1 := (unhide HY9).c 1 rfl
            have HXL : Hid (Bx (WM.setRow b9 #[.slice xa8 n8 xc8, .slice la8 q8 lc8]) b9 28 #[.slice xa8 n8 xc8, .slice la8 q8 lc8]) := hide (setRow_heap _ _ _ _ _ _ (unhide HXM))
            have HTL9 := hide ((unhide HTM).keepS (unhide HXM) (kept_row WM b9 #[.slice xa8 n8 xc8, .slice la8 q8 lc8]))
            have HBL : Hid (Below w.heap.size w (WM.setRow b9 #[.slice xa8 n8 xc8, .slice la8 q8 lc8])) := hide (below_rowS (unhide HBM) hb9 _)
            have HOD := hide ((unhide HODM).keepBx (unhide HXM) (kept_row WM b9 #[.slice xa8 n8 xc8, .slice la8 q8 lc8]) (by decide))
            have HXO := hide (unhide HTL9).xo
            have HLO2 := hide (unhide HTL9).lo
            have HRO := hide (unhide HTL9).rk
            have HSM := hide (unhide HTL9).sm
            go_upto_region 20 with (refine wpList_store_row rfl 28 _ _ rfl b9 #[.slice xa8 n8 xc8, .slice la8 q8 lc8] rfl rfl 28 #[.slice xa n1 xc, .slice la n2 lc] (unhide HXM) (by kernel_rfl) rfl (by simp [Value.oneCell']) ?_)
            clear z0 z1 HXM HTM HBM HODM HY9 HTL9
            generalize (WM.setRow b9 #[.slice xa8 n8 xc8, .slice la8 q8 lc8]) = WL at HXL HBL HOD HXO HLO2 HRO ⊢
            obtain ⟨va, vc, hvd, hBd, hnd, hcd⟩ := (unhide HOD).atN
            have HCl := hide (Clone_any va vc DN WL hBd hnd (by have := (unhide HDK).ln; omega))
            obtain ⟨vn, hvn⟩ : ∃ vn, vn = DN.length := ⟨_, rfl⟩
            rw [← hvn] at hvd HCl
            injection hvd with e1 e2 e3
            have f1 := e1.symm
            have f2 := e2.symm
            have f3 := e3.symm
            clear e1 e2 e3
            subst f1 f2 f3
            have HVN := hide hvn
            clear hvn hBd hnd hcd
            go_wp2_with fail
            refine (unhide HCl).mono ?_
            rintro e WC ⟨v3, rfl, hO3, hb3, -⟩
            obtain ⟨a3, c3, hv3, hB3, hn3, hc3⟩ := hO3.atN
            subst hv3
            have HOD3 := hide ((unhide HOD).below hb3)
            have HX3 := hide ((unhide HXL).below hb3)
            have HB3 := hide ((unhide HBL).trans (hb3.mono (unhide HBL).size))
            have HST3 := hide (And.intro ((unhide HXO).below hb3) (And.intro ((unhide HLO2).below hb3) (fun x hx => ((unhide HRO) x hx).below hb3 : RkO WC L8)))
            have HOp := hide (OpenS_disk (unhide HDK) a3 c3 WC hB3 hn3 hc3)
            clear hO3 hb3 hB3 hn3 hc3 HCl HOD HXL HBL HXO HLO2 HRO
            go_wp2_with fail
            refine (unhide HOp).mono ?_
            rintro e WE ⟨gt, it, kt, rfl, hst, hok, hen, hbo⟩
            have HT4 := hide (Tw.from (B := w.heap.size) (unhide HST3).1 (unhide HST3).2.1 (unhide HST3).2.2 (unhide HSM) hst hok hen (Nat.le_trans (unhide HDK).le (unhide HDK).ln) (Nat.le_refl _) (unhide HB3).size hbo)
            have HOD4 := hide ((unhide HOD3).below hbo)
            have HSP4 : Hid (∀ z, it.ownBlock = some z → (Value.slice va vn vc).ownBlock ≠ some z) := hide (fun z e e2 => by
              have h1 := (World.ownsRow.lt hst.img z e).1
              have h2 := (World.ownsRow.lt (unhide HOD3) z e2).2
              omega)
            have HX4 := hide ((unhide HX3).below hbo)
            have HB4 := hide ((unhide HB3).trans (hbo.mono (unhide HB3).size))
            clear hst hok hen hbo HOp HOD3 HX3 HB3 HST3 HSM
            have HA := hide (alike_yes (unhide HT4).st (unhide HT4).big (unhide HT4).ok (unhide HT4).en (unhide HT4).xo (unhide HT4).lo (unhide HT4).rk.ok (unhide HT4).sm)
            have x0 := (unhide HX4).c 0 rfl
            have x1 := (unhide HX4).c 1 rfl
            go_wp2_with fail
            refine (unhide HA).mono ?_
            rintro e WF ⟨rfl, hbf⟩
            have HT5 := hide ((unhide HT4).below hbf)
            have HOD5 := hide (And.intro ((unhide HOD4).below hbf) (unhide HSP4))
            have HX5 := hide ((unhide HX4).below hbf)
            have HB5 := hide ((unhide HB4).trans (hbf.mono (unhide HB4).size))
            clear hbf HA HT4 HOD4 HSP4 HX4 HB4 x0 x1
            go_wp2
            go_roundw
            case rel => exact ⟨k + 1, gt, it, kt, xa8, n8, xc8, la8, q8, lc8, IQ, K8, L8, va, vn, vc, DN, by omega, by go_num, rfl, rfl, HT5, HDK, HOD5, HX5, HB5⟩
            case measure => simp [intOf]; omega
    · have i1 : ¬ ((k : Nat) : Int) < ((T.length : Nat) : Int) := by omega
      have HA := hide (alike_yes (unhide HTL).st (unhide HTL).big (unhide HTL).ok (unhide HTL).en (unhide HTL).xo (unhide HTL).lo (unhide HTL).rk.ok (unhide HTL).sm)
      have x0 := (unhide HXr).c 0 rfl
      have x1 := (unhide HXr).c 1 rfl
      go_wp2_with fail
      refine (unhide HA).mono ?_
      rintro e W3 ⟨rfl, hb3⟩
      have HB3 := hide ((unhide HBr).trans (hb3.mono (unhide HBr).size))
      clear hb3 HA x0 x1
      go_wp2
      go_ret
      exact ⟨rfl, unhide HB3⟩
end Go.Proofs.Ytkcnkfhdbjiggaa
