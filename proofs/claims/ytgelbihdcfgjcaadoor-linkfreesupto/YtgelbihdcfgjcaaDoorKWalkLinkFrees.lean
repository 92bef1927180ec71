/-
  The walk of the law LinkFrees: it returns true for every part and writes nothing that was there. Conditions: lengths fit, at most 1048576 functions.
-/
import Derived.Test.YtgelbihdcfgjcaaDoorKLf8
namespace Go.Proofs.YtgelbihdcfgjcaaDoor
open Go.RowKit
set_option maxRecDepth 20000
set_option linter.unusedVariables false

set_option maxRecDepth 20000 in
set_option maxHeartbeats 8000000 in
theorem walkLinkFrees {w : World} (hW : WidAt w) (p : Pt) (h : PtOk w p) (hcf : ∀ x ∈ p.m.F, x.cd.length ≤ x.cc) (hn : p.m.F.length ≤ 1048576) :
    Calls Tryd.prog 3 #[.agg #[.string p.m.nm, .slice p.m.ao p.m.T.length p.m.cap, .slice p.m.fo p.m.F.length p.m.fc, .slice p.m.co p.m.C.length p.m.cc, .slice p.io p.I.length p.ic]] w fun e w' => e = .returned (.bool true) ∧ Below w.heap.size w w' := by
  have al := (Below.refl w.heap.size w).alloc (Nat.le_refl _) (.cells #[.string p.m.nm, .slice p.m.ao p.m.T.length p.m.cap, .slice p.m.fo p.m.F.length p.m.fc, .slice p.m.co p.m.C.length p.m.cc, .slice p.io p.I.length p.ic] 29)
  have HC1 : Hid (PBx (w.alloc (.cells #[.string p.m.nm, .slice p.m.ao p.m.T.length p.m.cap, .slice p.m.fo p.m.F.length p.m.fc, .slice p.m.co p.m.C.length p.m.cc, .slice p.io p.I.length p.ic] 29)) w.heap.size p) := hide (heap_alloc_new w _)
  have HB := hide al
  have H := hide h
  have HW := hide hW
  have HCF := hide hcf
  have HPT := hide (part_any p _ (h.below al))
  clear al h hW hcf
  go_enter Tryd.func3, Tryd.ntmps3
  go_upto_region 1 with fail
  generalize w.alloc (.cells #[.string p.m.nm, .slice p.m.ao p.m.T.length p.m.cap, .slice p.m.fo p.m.F.length p.m.fc, .slice p.m.co p.m.C.length p.m.cc, .slice p.io p.I.length p.ic] 29) = W1 at HB HC1 HPT ⊢
  go_wp2_with (refine wpList_load_rowG (by kernel_rfl) 29 (.tmp 1) rfl w.heap.size rfl 29 #[.string p.m.nm, .slice p.m.ao p.m.T.length p.m.cap, .slice p.m.fo p.m.F.length p.m.fc, .slice p.m.co p.m.C.length p.m.cc, .slice p.io p.I.length p.ic] (0, 0) _ (unhide HC1).bx Tryd.underlying29 rfl (by kernel_rfl) ?_)
  refine (unhide HPT).mono ?_
  rintro e W2 ⟨y, rfl, hY, hS, hcy, hB2⟩
  have hal : Below W2.heap.size W2 (W2.alloc (.cells #[.string y.m.nm, .slice y.m.ao y.m.T.length y.m.cap, .slice y.m.fo y.m.F.length y.m.fc, .slice y.m.co y.m.C.length y.m.cc, .slice y.io y.I.length y.ic] 29)) := (Below.refl _ _).alloc (Nat.le_refl _) _
  have HYB : Hid (PBx (W2.alloc (.cells #[.string y.m.nm, .slice y.m.ao y.m.T.length y.m.cap, .slice y.m.fo y.m.F.length y.m.fc, .slice y.m.co y.m.C.length y.m.cc, .slice y.io y.I.length y.ic] 29)) W2.heap.size y) := hide (heap_alloc_new W2 _)
  have HY := hide (hY.below hal)
  have HS := hide hS
  have HCY := hide hcy
  have hBc := hB2.trans (hal.mono hB2.size)
  have HC2 := hide ((unhide HC1).below hBc)
  have HB2 := hide ((unhide HB).trans (hBc.mono (unhide HB).size))
  have hlw : w.heap.size < W2.heap.size := by have := (unhide HC1).lt; have := hB2.size; omega
  clear hY hS hcy hB2 hal hBc HC1 HB HPT
  go_upto_region 2 with fail
  generalize W2.alloc (.cells #[.string y.m.nm, .slice y.m.ao y.m.T.length y.m.cap, .slice y.m.fo y.m.F.length y.m.fc, .slice y.m.co y.m.C.length y.m.cc, .slice y.io y.I.length y.ic] 29) = V at HYB HY HC2 HB2 ⊢
  have k0 := (unhide HYB).bx.c 0 rfl
  have k1 := (unhide HYB).bx.c 1 rfl
  have k2 := (unhide HYB).bx.c 2 rfl
  have k3 := (unhide HYB).bx.c 3 rfl
  have HYl := hide (unhide HYB).lt
  go_wp2_with fail
  refine (Alone_any y.m V (unhide HY).m).mono ?_
  rintro e W3 ⟨a, rfl, hA⟩
  clear k0 k1 k2 k3
  have HSP := hide (Sp.made hA)
  have HAT := hide hA
  have hal : Below W3.heap.size W3 (W3.alloc (.cells #[.string a.nm, .slice a.ao a.T.length a.cap, .slice a.fo a.F.length a.fc, .slice none 0 0, .slice none 0 0] 29)) := (Below.refl _ _).alloc (Nat.le_refl _) _
  have HAL := hide hal
  clear hA hal
  go_upto_region 3 with fail
  generalize HQ : W3.alloc (.cells #[.string a.nm, .slice a.ao a.T.length a.cap, .slice a.fo a.F.length a.fc, .slice none 0 0, .slice none 0 0] 29) = W4 at HSP HAL ⊢
  clear HQ
  have hVl := (unhide HYB).lt
  have HC4 := hide ((unhide HC2).below ((unhide HSP).bel))
  have HAOK : Hid (MdOk W4 (bare a)) := hide (bare_ok (m := a) ⟨(unhide HAT).tab.below (unhide HAL), by rw [(unhide HAT).same.1]; exact (unhide HY).m.tz, (fnM_fns (unhide HAT).row.row).below (unhide HAL), by rw [(unhide HAT).fns.1]; exact (unhide HY).m.fz, by rw [(unhide HAT).co.2.2]; exact fun i x hx => (by simp at hx), by rw [(unhide HAT).co.2.2]; simp, by rw [(unhide HAT).nm]; exact (unhide HY).m.name⟩)
  have k0 := (unhide HC4).bx.c 0 rfl
  have k1 := (unhide HC4).bx.c 1 rfl
  have k2 := (unhide HC4).bx.c 2 rfl
  have k3 := (unhide HC4).bx.c 3 rfl
  have HPM := hide ((unhide H).m.below ((unhide HB2).trans ((unhide HSP).bel.mono (unhide HB2).size)))
  go_wp2_with fail
  refine (Module_any p.m W4 (unhide HPM)).mono ?_
  rintro e W5 ⟨m, rfl, hM, hMS, _, _, hB5⟩
  clear k0 k1 k2 k3
  have hal : Below W5.heap.size W5 (W5.alloc (.cells #[.string m.nm, .slice m.ao m.T.length m.cap, .slice m.fo m.F.length m.fc, .slice m.co m.C.length m.cc] 26)) := (Below.refl _ _).alloc (Nat.le_refl _) _
  have HM5 : Hid (Bx (W5.alloc (.cells #[.string m.nm, .slice m.ao m.T.length m.cap, .slice m.fo m.F.length m.fc, .slice m.co m.C.length m.cc] 26)) W5.heap.size 26 #[.string m.nm, .slice m.ao m.T.length m.cap, .slice m.fo m.F.length m.fc, .slice m.co m.C.length m.cc]) := hide (heap_alloc_new W5 _)
  have h45 := hB5.trans (hal.mono hB5.size)
  have HSP2 : Hid (Sp V (W5.alloc (.cells #[.string m.nm, .slice m.ao m.T.length m.cap, .slice m.fo m.F.length m.fc, .slice m.co m.C.length m.cc] 26)) a W3.heap.size) := hide ((unhide HSP).below h45)
  have HAOK2 := hide ((unhide HAOK).below h45)
  have HMOK := hide (hM.below hal)
  have HMS := hide hMS
  have hl5 : V.heap.size < W5.heap.size := by have := (unhide HSP).box.lt; have := (unhide HAT).bel.size; have := hB5.size; omega
  have hl53 : W3.heap.size < W5.heap.size := by have := (unhide HSP).box.lt; have := hB5.size; omega
  clear hM hMS hB5 hal h45 HC4 HPM HAOK
  go_upto_region 4 with fail
  generalize W5.alloc (.cells #[.string m.nm, .slice m.ao m.T.length m.cap, .slice m.fo m.F.length m.fc, .slice m.co m.C.length m.cc] 26) = W6 at HM5 HSP2 HAOK2 HMOK ⊢
  have k3 := (unhide HM5).c 3 rfl
  have f3 := (unhide HM5).f 3
  go_upto_region 5 with fail
  have HM7 : Hid (Bx (W6.setCell ⟨W5.heap.size, 3, none⟩ (.slice none 0 0)) W5.heap.size 26 #[.string m.nm, .slice m.ao m.T.length m.cap, .slice m.fo m.F.length m.fc, .slice none 0 0]) := hide ((unhide HM5).set 3 _ rfl)
  have hset := grownBy_set W6 W5.heap.size 3 (.slice none 0 0)
  have HSP3 : Hid (Sp V (W6.setCell ⟨W5.heap.size, 3, none⟩ (.slice none 0 0)) a W3.heap.size) := hide ((unhide HSP2).other (by omega) (by omega) (unhide HM5) (by decide) (by decide))
  have HA7 : Hid (PtOk (W6.setCell ⟨W5.heap.size, 3, none⟩ (.slice none 0 0)) ⟨bare a, none, 0, []⟩) := hide ⟨md_noNum (unhide HAOK2) hset (NoNum.of4 (unhide HM5)) (fun b off e => by cases e), RowAt.nil _ _ _, by simp⟩
  have HW7 : Hid (PtOk (W6.setCell ⟨W5.heap.size, 3, none⟩ (.slice none 0 0)) ⟨bare m, none, 0, []⟩) := hide ⟨md_noNum (bare_ok (unhide HMOK)) hset (NoNum.of4 (unhide HM5)) (fun b off e => by cases e), RowAt.nil _ _ _, by simp⟩
  have HEQ : Hid (mdEq (bare a) (bare m) = true) := hide (bare_same (p := p.m) (a := bare a) ((unhide HAT).nm.trans (unhide HS).m.nm) (sameT_trans (unhide HS).m.tab (unhide HAT).same) (sameFns_trans (unhide HS).m.fns (unhide HAT).fns) rfl (unhide HMS))
  clear k3 f3 hset HSP2 HAOK2 HMOK HMS HM5
  generalize W6.setCell ⟨W5.heap.size, 3, none⟩ (.slice none 0 0) = W7 at HM7 HSP3 HA7 HW7 ⊢
  go_wp2_with (first | (refine wpList_load_rowG (by kernel_rfl) 29 (.tmp 4) rfl W3.heap.size rfl 29 #[.string a.nm, .slice a.ao a.T.length a.cap, .slice a.fo a.F.length a.fc, .slice none 0 0, .slice none 0 0] (0, 0) _ (unhide HSP3).box Tryd.underlying29 rfl (by kernel_rfl) ?_) | (refine wpList_load_rowG (by kernel_rfl) 26 (.tmp 5) rfl W5.heap.size rfl 26 #[.string m.nm, .slice m.ao m.T.length m.cap, .slice m.fo m.F.length m.fc, .slice none 0 0] (0, 0) _ (unhide HM7) Tryd.underlying26 rfl (by kernel_rfl) ?_))
  refine (samePart_yes ⟨bare a, none, 0, []⟩ ⟨bare m, none, 0, []⟩ W7 (unhide HA7) (unhide HW7) (unhide HEQ) ⟨rfl, fun i x y hx => by simp at hx⟩).mono ?_
  rintro e W8 ⟨rfl, hB8⟩
  have HSP4 := hide ((unhide HSP3).below hB8)
  clear hB8 HSP3 HA7 HW7 HM7 HEQ
  have hfz : a.F.length < 9223372036854775000 := by rw [(unhide HAT).fns.1]; have := (unhide HY).m.fz; omega
  have HCB : Hid (∀ x ∈ a.F, x.cd.length ≤ 140737488351232) := hide (fun x hx => ((unhide HAT).row.ok x hx).fit)
  have k2 := (unhide HSP4).box.c 2 rfl
  go_wp2_with fail
  clear k2
  go_loopw [32] (fun i wr => ∃ (k : Nat), k ≤ a.F.length ∧ i = .int .i64 (k : Int) ∧ Hid (Sp V wr a W3.heap.size)) (fun i _ => a.F.length - (intOf i).toNat)
  case atStart => exact ⟨0, by omega, rfl, HSP4⟩
  case round =>
    obtain ⟨k, hk, rfl, HS1⟩ := hrel
    by_cases hlt : k < a.F.length
    · have j1 : ((k : Nat) : Int) < ((a.F.length : Nat) : Int) := by omega
      have hx := List.getElem?_eq_getElem hlt
      have hxm := List.mem_of_getElem? hx
      generalize a.F[k] = x at hx hxm
      have HX := hide hx
      have HXM := hide hxm
      have hcz := unhide HCB x hxm
      obtain ⟨r, er, c4⟩ := (unhide HS1).fn hx
      have k2 := (unhide HS1).box.c 2 rfl
      rw [er] at k2
      clear hx hxm er
      go_wp2_with fail
      clear k2 c4
      go_loopw [43] (fun i wq => ∃ (j : Nat), j ≤ x.cd.length ∧ i = .int .i64 (j : Int) ∧ Hid (Sp V wq a W3.heap.size)) (fun i _ => x.cd.length - (intOf i).toNat)
      case atStart => exact ⟨0, by omega, rfl, HS1⟩
      case round =>
        obtain ⟨j, hj, rfl, HS2⟩ := hrel
        by_cases hjl : j < x.cd.length
        · have j2 : ((j : Nat) : Int) < ((x.cd.length : Nat) : Int) := by omega
          obtain ⟨r, er, c4⟩ := (unhide HS2).fn (unhide HX)
          have k2 := (unhide HS2).box.c 2 rfl
          rw [er] at k2
          obtain ⟨b, off, v, cur, eb, hb, hh, hv⟩ := (unhide HS2).pl x (unhide HXM) j hjl
          rw [eb] at c4
          have m0 : wr.cell? ⟨b, off + j, none⟩ = some v := (cell_of_row _ _ _ _ _ _ hh).trans hv
          have f0 : wr.frozen? ⟨b, off + j, none⟩ = false := frozen_of_row _ _ _ _ _ hh
          have HS3 := hide ((unhide HS2).set (k := off + j) (u := .int .u8 255) hb hh)
          clear er eb hb hh hv
          go_wp2
          go_roundw
          case rel => exact ⟨j + 1, by omega, by go_num, HS3⟩
          case measure => simp [intOf]; omega
        · have j2 : ¬ ((j : Nat) : Int) < ((x.cd.length : Nat) : Int) := by omega
          go_wp2
          go_roundw
          case rel => exact ⟨k + 1, by omega, by go_num, HS2⟩
          case measure => simp [intOf]; omega
    · have j1 : ¬ ((k : Nat) : Int) < ((a.F.length : Nat) : Int) := by omega
      have HYB8 := hide ((unhide HYB).below (unhide HS1).bel)
      have HY8 := hide ((unhide HY).below (unhide HS1).bel)
      have HC8 := hide ((unhide HC2).below (unhide HS1).bel)
      have HB8 := hide ((unhide HB2).trans ((unhide HS1).bel.mono (unhide HB2).size))
      go_wp2_with (refine wpList_load_rowG (by kernel_rfl) 29 (.tmp 3) rfl W2.heap.size rfl 29 #[.string y.m.nm, .slice y.m.ao y.m.T.length y.m.cap, .slice y.m.fo y.m.F.length y.m.fc, .slice y.m.co y.m.C.length y.m.cc, .slice y.io y.I.length y.ic] (0, 0) _ (unhide HYB8).bx Tryd.underlying29 rfl (by kernel_rfl) ?_)
      refine (Free_any y wr (unhide HY8) ((unhide HW).below (unhide HB8)) (unhide HCY) (by rw [(unhide HS).m.fns.1]; exact hn)).mono ?_
      rintro e W9 ⟨v1, rfl, hO1, hB9⟩
      have HO1 := hide hO1
      rw [lfR_same (unhide HS)] at HO1 ⊢
      have HYB9 := hide ((unhide HYB8).below hB9)
      have HY9 := hide ((unhide HY8).below hB9)
      have HC9 := hide ((unhide HC8).below hB9)
      have HB9 := hide ((unhide HB8).trans (hB9.mono (unhide HB8).size))
      clear hO1 hB9 HYB8 HY8 HC8
      go_wp2_with (refine wpList_load_rowG (by kernel_rfl) 29 (.tmp 1) rfl w.heap.size rfl 29 #[.string p.m.nm, .slice p.m.ao p.m.T.length p.m.cap, .slice p.m.fo p.m.F.length p.m.fc, .slice p.m.co p.m.C.length p.m.cc, .slice p.io p.I.length p.ic] (0, 0) _ (unhide HC9).bx Tryd.underlying29 rfl (by kernel_rfl) ?_)
      refine (refFree_any p W9 ((unhide H).below (unhide HB9)) (unhide HCF) hn).mono ?_
      rintro e W10 ⟨v2, rfl, hO2, hB10⟩
      have HO2 := hide hO2
      have HO3 := hide ((unhide HO1).below hB10)
      have HYB10 := hide ((unhide HYB9).below hB10)
      have HY10 := hide ((unhide HY9).below hB10)
      have HC10 := hide ((unhide HC9).below hB10)
      have HB10 := hide ((unhide HB9).trans (hB10.mono (unhide HB9).size))
      clear hO2 hB10 HYB9 HY9 HC9 HO1
      have hrl := lfR_len p
      obtain ⟨a1, d1, rfl, hj1, _⟩ := (unhide HO3).at
      obtain ⟨a2, d2, rfl, hj2, _⟩ := (unhide HO2).at
      have HEL := hide (EqualL_same (c := d1) (d := d2) hj1 hj2 (by omega))
      generalize lfR p = R at HEL ⊢
      obtain ⟨l, n1, e1⟩ := R
      simp only [] at HEL ⊢
      clear hj1 hj2 HO2 HO3 hrl
      have b1 : ((n1 : Int) == (n1 : Int)) = true := by simp
      have b2 : (e1 == e1) = true := by simp
      go_wp2_with fail
      refine (unhide HEL).mono ?_
      rintro e W11 ⟨rfl, q, rfl⟩
      have hd : Below W10.heap.size W10 (W10.drewN q) := belowD (Below.refl _ _) q
      have HYB11 := hide ((unhide HYB10).below hd)
      have HY11 := hide ((unhide HY10).below hd)
      have HC11 := hide ((unhide HC10).below hd)
      have HB11 := hide ((unhide HB10).trans (hd.mono (unhide HB10).size))
      clear hd HYB10 HY10 HC10 HB10 HEL
      generalize W10.drewN q = W12 at HYB11 HY11 HC11 HB11 ⊢
      go_wp2_with (first | (refine wpList_load_rowG (by kernel_rfl) 29 (.tmp 3) rfl W2.heap.size rfl 29 #[.string y.m.nm, .slice y.m.ao y.m.T.length y.m.cap, .slice y.m.fo y.m.F.length y.m.fc, .slice y.m.co y.m.C.length y.m.cc, .slice y.io y.I.length y.ic] (0, 0) _ (unhide HYB11).bx Tryd.underlying29 rfl (by kernel_rfl) ?_) | (refine wpList_load_rowG (by kernel_rfl) 29 (.tmp 1) rfl w.heap.size rfl 29 #[.string p.m.nm, .slice p.m.ao p.m.T.length p.m.cap, .slice p.m.fo p.m.F.length p.m.fc, .slice p.m.co p.m.C.length p.m.cc, .slice p.io p.I.length p.ic] (0, 0) _ (unhide HC11).bx Tryd.underlying29 rfl (by kernel_rfl) ?_))
      refine (samePart_yes y p W12 (unhide HY11) ((unhide H).below (unhide HB11)) (mdEq_back (unhide HS).m) (two_back (unhide HS).imp)).mono ?_
      rintro e W13 ⟨rfl, hB13⟩
      go_wp2
      go_ret
      exact ⟨rfl, (unhide HB11).trans (hB13.mono (unhide HB11).size)⟩
end Go.Proofs.YtgelbihdcfgjcaaDoor
