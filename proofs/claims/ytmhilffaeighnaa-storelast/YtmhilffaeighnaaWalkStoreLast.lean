/-
  The walk of the law StoreLast: it returns true for every script, name and bytes, and writes nothing that was there.
-/
import Derived.Test.YtmhilffaeighnaaSu14
namespace Go.Proofs.Ytmhilffaeighnaa
open Go.RowKit
set_option maxRecDepth 20000

theorem Tw.zero {w : World} {B g : Nat} (h : IsSt w B g (.slice none 0 0) (.slice none 0 0) [] []) : Tw w B g (.slice none 0 0) (.slice none 0 0) (.slice none 0 0) (.slice none 0 0) [] [] [] where
  st := h
  xo := ⟨rfl, Or.inl ⟨rfl, rfl⟩⟩
  lo := ⟨rfl, Or.inl ⟨rfl, rfl⟩⟩
  rk := fun x hx => (by cases hx)
  sm := rfl
  ok := ⟨List.Pairwise.nil, by simp⟩
  en := fun x hx => (by cases hx)
  big := by simp
  s1 := fun q e => (by cases e)
  s2 := fun q e => (by cases e)
theorem Tw.keepT {w w1 : World} {B g b : Nat} {iv kv xi lv : Value} {I : List UInt8} {K : List Ke} {L : List Rk} {cs : Array Value} (h : Tw w B g iv kv xi lv I K L) (hb : Bx w b 31 cs) (hk : Kept (fun q => q = b) w w1) : Tw w1 B g iv kv xi lv I K L := by
  refine ⟨h.st.keep hk (fun (e : g = b) => ty_ne h.st.row hb (by decide) e) (fun q e (e2 : q = b) => ?_) (fun q e (e2 : q = b) => ?_), h.xo.keepBx hb hk (by decide), h.lo.keep hk (fun q e (e2 : q = b) => ?_), fun x hx => (h.rk x hx).keepBx hb hk (by decide), h.sm, h.ok, h.en, h.big, h.s1, h.s2⟩
  · obtain ⟨cur, hh⟩ := h.st.ity _ e
    exact ty_ne hh hb (by decide) e2
  · obtain ⟨cur, hh⟩ := h.st.kty _ e
    exact ty_ne hh hb (by decide) e2
  · obtain ⟨cur, hh⟩ := own_tyR h.lo e
    exact ty_ne hh hb (by decide) e2
theorem u64rem2 (n : Int) : wrap64 ((IntKind.u64.wrap n).tmod 2) = 0 ∨ wrap64 ((IntKind.u64.wrap n).tmod 2) = 1 := by
  have h0 : 0 ≤ IntKind.u64.wrap n := by simp [IntKind.wrap, IntKind.bits, IntKind.signed]; omega
  rw [Int.tmod_eq_emod_of_nonneg h0]
  rcases Int.emod_two_eq (IntKind.u64.wrap n) with h | h
  · left; rw [h]; first | rfl | simp [wrap64] | (unfold wrap64; decide)
  · right; rw [h]; first | rfl | simp [wrap64] | (unfold wrap64; decide)
theorem OwnB.nilN {w : World} {B : Nat} {ao : Option Addr} {n c : Nat} {l : List UInt8} (h : OwnB w B (.slice ao n c) l) : ao = none → l = [] ∧ c = 0 := fun e => by
  rcases h.2 with ⟨h1, h2⟩ | ⟨g, cap, cur, hv, _⟩
  · injection h1 with _ _ h1
    exact ⟨List.eq_nil_of_length_eq_zero h2, h1⟩
  · injection hv with hv _ _
    rw [e] at hv
    cases hv
set_option maxRecDepth 20000 in
set_option maxHeartbeats 2000000 in
theorem walkStoreLast {w : World} (so : Option Addr) (sc : Nat) (T : List Dn) (hT : DosAt w so T) (hTl : T.length * 48 ≤ 140737488351232) (s : ByteArray) (hsm : s.size ≤ maxLen) (_hs : s.size ≤ 140737488351232) (ao : Option Addr) (c : Nat) (m : List UInt8) (hb : BAt w ao m) (hn : ao = none → m = [] ∧ c = 0) (hml : m.length ≤ 140737488351232) (_hmc : m.length ≤ c) :
    Calls Try.prog 7 #[.slice so T.length sc, .string s, .slice ao m.length c] w fun e w' => e = .returned (.bool true) ∧ Below w.heap.size w w' := by
  have hTl2 : T.length < 9223372036854775000 := by omega
  have HDT := hide hT
  have HBt := hide hb
  have HNN := hide hn
  clear hT hb hn hTl _hs _hmc
  go_enter Try.func7, Try.ntmps7
  go_wp2_with fail
  refine (NewS_any w).mono ?_
  rintro e W1 ⟨rfl, hst1, hb1⟩
  have HT1 := hide (Tw.zero hst1)
  have HB1 := hide hb1
  clear hst1 hb1
  go_upto_region 5 with fail
  have hal : Below W1.heap.size W1 (W1.alloc (.cells #[.slice none 0 0, .slice none 0 0] 28)) := (Below.refl _ _).alloc (Nat.le_refl _) _
  have HX2 : Hid (Bx (W1.alloc (.cells #[.slice none 0 0, .slice none 0 0] 28)) W1.heap.size 28 #[.slice none 0 0, .slice none 0 0]) := hide (heap_alloc_new W1 _)
  have HT2 := hide ((unhide HT1).below hal)
  have HB2 := hide ((unhide HB1).trans (hal.mono (unhide HB1).size))
  clear hal HT1
  generalize (W1.alloc (.cells #[.slice none 0 0, .slice none 0 0] 28)) = W2 at HX2 HT2 HB2 ⊢
  have hb9 : w.heap.size ≤ W1.heap.size := (unhide HB1).size
  generalize W1.heap.size = b9 at HX2 hb9 ⊢
  clear HB1
  have HCl := hide (Clone_any ao c m W2 ((unhide HBt).below' (unhide HB2)) (fun e => (unhide HNN e).1) (by omega))
  go_wp2_with fail
  refine (unhide HCl).mono ?_
  rintro e W3 ⟨v3, rfl, hO3, hb3, -⟩
  obtain ⟨a3, c3, rfl, hB3, -, -⟩ := hO3.atN
  have HT3 := hide ((unhide HT2).below hb3)
  have HX3 := hide ((unhide HX2).below hb3)
  have HB3 := hide ((unhide HB2).trans (hb3.mono (unhide HB2).size))
  have HPt := hide (PutS_any s a3 c3 m (unhide HT3).st (unhide HT3).big (unhide HT3).ok hsm hB3 hO3.nilN (by omega))
  have HCD := hide ((unhide HT3).codeP s m)
  obtain ⟨code, hcode⟩ : ∃ code, code = putE [] [] s m := ⟨_, rfl⟩
  rw [← hcode] at HPt HCD
  have HCO := hide hcode
  clear hO3 hb3 hB3 HCl HT2 HX2 HB2 hcode
  go_wp2_with fail
  refine (unhide HPt).mono ?_
  rintro e W4 (⟨cc, hcc, rfl, hc0, -, hb4⟩ | ⟨hc0, v4, iv4, kv4, rfl, hst, hwr, hk, hF⟩)
  · have HT4 := hide ((unhide HT3).below hb4)
    have HX4 := hide ((unhide HX3).below hb4)
    have HB4 := hide ((unhide HB3).trans (hb4.mono (unhide HB3).size))
    have HRf := hide (refPut_any (I := []) (L := []) (xa := none) (xc := 0) (la := none) (lc := 0) s ao c m (unhide HT4).xo (unhide HT4).big (unhide HT4).lo (unhide HT4).lenL hsm ((unhide HBt).below' (unhide HB4)) (unhide HNN) (PL := fun _ => True) (fun _ _ => trivial))
    rw [unhide HCD] at HRf
    simp only [List.length_nil] at HRf
    subst hcc
    have HC0 := hide hc0
    clear hb4 hc0 HT3 HX3 HB3
    have y0 := (unhide HX4).c 0 rfl
    have y1 := (unhide HX4).c 1 rfl
    clear HPt
    go_wp2_with fail
    refine (unhide HRf).mono ?_
    rintro e W6 ⟨hb6, ⟨cr, hcr, -, rfl⟩ | ⟨hcr, -⟩⟩
    · subst hcr
      have HT6 := hide ((unhide HT4).below hb6)
      have HX6 := hide ((unhide HX4).below hb6)
      have HB6 := hide ((unhide HB4).trans (hb6.mono (unhide HB4).size))
      have HLI : Hid (LastIs s m code [] []) := hide (Or.inr ⟨unhide HC0, Or.inr (by simp [kNm])⟩)
      clear hb6 HRf y0 y1 HT4 HX4 HB4
      go_upto_region 7 with (refine wpList_store_row rfl 28 _ _ rfl b9 #[.slice none 0 0, .slice none 0 0] rfl rfl 28 #[.slice none 0 0, .slice none 0 0] (unhide HX6) (by kernel_rfl) rfl (by simp [Value.oneCell']) ?_)
      have HX7 : Hid (Bx (W6.setRow b9 #[.slice none 0 0, .slice none 0 0]) b9 28 #[.slice none 0 0, .slice none 0 0]) := hide (setRow_heap _ _ _ _ _ _ (unhide HX6))
      have HT7 := hide ((unhide HT6).keepS (unhide HX6) (kept_row W6 b9 #[.slice none 0 0, .slice none 0 0]))
      have HB7 : Hid (Below w.heap.size w (W6.setRow b9 #[.slice none 0 0, .slice none 0 0])) := hide (below_rowS (unhide HB6) hb9 _)
      clear HX6 HT6 HB6
      generalize (W6.setRow b9 #[.slice none 0 0, .slice none 0 0]) = W7 at HX7 HT7 HB7 ⊢
      have hcn : (code != code) = false := by simp
      go_wp2_with fail
      go_loopw [43] (fun i wr => ∃ (k : Nat) (iv kv : Value) (xa : Option Addr) (n1 xc : Nat) (la : Option Addr) (n2 lc : Nat) (I : List UInt8) (K : List Ke) (L : List Rk), k ≤ T.length ∧ i = .int .i64 k ∧ Hid (Tw wr w.heap.size w.heap.size iv kv (.slice xa n1 xc) (.slice la n2 lc) I K L ∧ LastIs s m code I K) ∧ Hid (Bx wr b9 28 #[.slice xa n1 xc, .slice la n2 lc]) ∧ Hid (Below w.heap.size w wr)) (fun i _ => T.length - (intOf i).toNat)
      case atStart => exact ⟨0, _, _, _, _, _, _, _, _, _, _, _, by omega, rfl, hide ⟨unhide HT7, unhide HLI⟩, HX7, HB7⟩
      case round =>
        clear HX7 HT7 HB7
        obtain ⟨k, iv, kv, xa, n1, xc, la, n2, lc, I, K, L, hk, rfl, HTL, HXr, HBr⟩ := hrel
        by_cases hlt : k < T.length
        · have i1 : ((k : Nat) : Int) < ((T.length : Nat) : Int) := by omega
          have hx := List.getElem?_eq_getElem hlt
          obtain ⟨b, off, rfl, hxa0⟩ := unhide HDT k _ hx
          generalize T[k] = x at hx hxa0
          have HLO := hide hxa0.lows
          have hxa := hxa0.keep (unhide HBr) hxa0.lows.1 hxa0.lows.2
          have c0 := hxa.c0
          have c1 := hxa.c1
          have c2 := hxa.c2
          have HXA := hide hxa0
          clear hx hxa0 hxa
          go_upto_region 12 with fail
          have hal : Below wr.heap.size wr (wr.alloc (.cells #[.int .i64 x.op, .string x.nm, .slice x.ba x.bs.length x.bc] 31)) := (Below.refl _ _).alloc (Nat.le_refl _) _
          have HXd : Hid (Bx (wr.alloc (.cells #[.int .i64 x.op, .string x.nm, .slice x.ba x.bs.length x.bc] 31)) wr.heap.size 31 #[.int .i64 x.op, .string x.nm, .slice x.ba x.bs.length x.bc]) := hide (heap_alloc_new wr _)
          have HTL2 := hide (And.intro ((unhide HTL).1.below hal) (unhide HTL).2)
          have HXr2 := hide ((unhide HXr).below hal)
          have HBr2 := hide ((unhide HBr).trans (hal.mono (unhide HBr).size))
          have HLD : Hid (w.heap.size ≤ wr.heap.size ∧ b9 < wr.heap.size) := hide ⟨(unhide HBr).size, (unhide HXr).lt⟩
          clear hal c0 c1 c2 HTL HXr
          generalize (wr.alloc (.cells #[.int .i64 x.op, .string x.nm, .slice x.ba x.bs.length x.bc] 31)) = wa at HXd HTL2 HXr2 HBr2 ⊢
          generalize wr.heap.size = bd at HXd HLD ⊢
          have d0 := (unhide HXd).c 0 rfl
          have d1 := (unhide HXd).c 1 rfl
          have d2 := (unhide HXd).c 2 rfl
          by_cases hnm : x.nm = s
          · have hq : (x.nm.toList == s.toList) = true := by rw [hnm]; exact beq_self_eq_true _
            clear hnm
            go_wp2
            go_roundw
            case rel => exact ⟨k + 1, iv, kv, xa, n1, xc, la, n2, lc, I, K, L, by omega, by go_num, HTL2, HXr2, HBr2⟩
            case measure => simp [intOf]; omega
          · have hq : (x.nm.toList == s.toList) = false := by
              rw [beq_eq_false_iff_ne]
              exact fun e => hnm (ba_ext (by rw [Lib.toList_data, Lib.toList_data] at e; exact e))
            have HNE := hide hnm
            have f0 := (unhide HXd).f 0
            clear hnm
            go_upto_region 14 with fail
            have hr := u64rem2 x.op
            generalize wrap64 ((IntKind.u64.wrap x.op).tmod 2) = r at hr ⊢
            have hkd := kept_setCell wa ⟨bd, 0, none⟩ (.int .i64 r)
            have HXe : Hid (Bx (wa.setCell ⟨bd, 0, none⟩ (.int .i64 r)) bd 31 #[.int .i64 r, .string x.nm, .slice x.ba x.bs.length x.bc]) := hide ((unhide HXd).set 0 (.int .i64 r) rfl)
            have HTb := hide (And.intro ((unhide HTL2).1.keepT (unhide HXd) hkd) (unhide HTL2).2)
            have HXb := hide ((unhide HXr2).other ⟨bd, 0, none⟩ (.int .i64 r) (by have := (unhide HLD).2; show b9 ≠ bd; omega))
            have HBb : Hid (Below w.heap.size w (wa.setCell ⟨bd, 0, none⟩ (.int .i64 r))) := hide ((unhide HBr2).setCell (p := ⟨bd, 0, none⟩) (unhide HLD).1 _)
            clear hkd HTL2 HXr2 HBr2 d0 d1 d2 f0 HXd
            generalize (wa.setCell ⟨bd, 0, none⟩ (.int .i64 r)) = wb at HXe HTb HXb HBb ⊢
            have d0 := (unhide HXe).c 0 rfl
            have d1 := (unhide HXe).c 1 rfl
            have d2 := (unhide HXe).c 2 rfl
            have HDA := hide ((unhide HXA).keep (unhide HBb) (unhide HLO).1 (unhide HLO).2)
            rcases hr with rfl | rfl
            · have HDo := hide (doPut_any x.nm x.ba x.bc x.bs (unhide HTb).1 (by have := (unhide HDA).nml; unfold maxLen; omega) (unhide HDA).by_ (unhide HDA).nil_ (unhide HDA).fit (unhide HLO).2)
              have y0 := (unhide HXb).c 0 rfl
              have y1 := (unhide HXb).c 1 rfl
              go_wp2_with fail
              refine (unhide HDo).mono ?_
              intro e W8 h8
              obtain ⟨hk8, xi8, lv8, v8, iv8, kv8, I8, K8, L8, rfl, ht8, hl8⟩ := (unhide HTb).2.done ((unhide HTb).2.put (unhide HTb).1.en (unhide HNE)) h8
              obtain ⟨xa8, xc8, rfl, -⟩ := ht8.xo.at
              obtain ⟨la8, lc8, rfl, -⟩ := ht8.lo.at
              have HX8 := hide ((unhide HXb).keepSA (unhide HTb).1.st hk8 (by decide) (by decide) (by decide))
              have HB8 := hide ((unhide HBb).trans (below_SA (unhide HTb).1.st hk8))
              have HT8 := hide (And.intro ht8 hl8)
              obtain ⟨n8, hn8⟩ : ∃ n8, n8 = I8.length := ⟨_, rfl⟩
              obtain ⟨q8, hq8⟩ : ∃ q8, q8 = L8.length := ⟨_, rfl⟩
              rw [← hn8, ← hq8] at HT8 ⊢
              clear hk8 ht8 hl8 HDo h8 HTb HXb HBb y0 y1 d0 d1 d2 hn8 hq8
              go_upto_region 15 with fail
              have hal8 : Below W8.heap.size W8 (W8.alloc (.cells #[.slice xa8 n8 xc8, .slice la8 q8 lc8] 28)) := (Below.refl _ _).alloc (Nat.le_refl _) _
              have HY9 : Hid (Bx (W8.alloc (.cells #[.slice xa8 n8 xc8, .slice la8 q8 lc8] 28)) W8.heap.size 28 #[.slice xa8 n8 xc8, .slice la8 q8 lc8]) := hide (heap_alloc_new W8 _)
              have HX9 := hide ((unhide HX8).below hal8)
              have HB9 := hide ((unhide HB8).trans (hal8.mono (unhide HB8).size))
              have HT9 := hide (And.intro ((unhide HT8).1.below hal8) (unhide HT8).2)
              clear hal8 HX8 HB8 HT8
              generalize (W8.alloc (.cells #[.slice xa8 n8 xc8, .slice la8 q8 lc8] 28)) = W9 at HY9 HX9 HB9 HT9 ⊢
              generalize W8.heap.size = b14 at HY9 ⊢
              have z0 := (unhide HY9).c 0 rfl
              have z1 := (unhide HY9).c 1 rfl
              have HXA9 : Hid (Bx (W9.setRow b9 #[.slice xa8 n8 xc8, .slice la8 q8 lc8]) b9 28 #[.slice xa8 n8 xc8, .slice la8 q8 lc8]) := hide (setRow_heap _ _ _ _ _ _ (unhide HX9))
              have HTA9 : Hid (Tw (W9.setRow b9 #[.slice xa8 n8 xc8, .slice la8 q8 lc8]) w.heap.size w.heap.size iv8 kv8 (.slice xa8 n8 xc8) (.slice la8 q8 lc8) I8 K8 L8 ∧ LastIs s m code I8 K8) := hide ⟨(unhide HT9).1.keepS (unhide HX9) (kept_row W9 b9 _), (unhide HT9).2⟩
              have HBA9 : Hid (Below w.heap.size w (W9.setRow b9 #[.slice xa8 n8 xc8, .slice la8 q8 lc8])) := hide (below_rowS (unhide HB9) hb9 _)
              go_wp2_with (refine wpList_store_row rfl 28 _ _ rfl b9 #[.slice xa8 n8 xc8, .slice la8 q8 lc8] rfl rfl 28 #[.slice xa n1 xc, .slice la n2 lc] (unhide HX9) (by kernel_rfl) rfl (by simp [Value.oneCell']) ?_)
              go_roundw
              case rel => exact ⟨k + 1, iv8, kv8, xa8, n8, xc8, la8, q8, lc8, I8, K8, L8, by omega, by go_num, HTA9, HXA9, HBA9⟩
              case measure => simp [intOf]; omega
            · have HDo := hide (doDrop_any x.nm x.ba x.bs.length x.bc (unhide HTb).1 (by have := (unhide HDA).nml; unfold maxLen; omega))
              have y0 := (unhide HXb).c 0 rfl
              have y1 := (unhide HXb).c 1 rfl
              go_wp2_with fail
              refine (unhide HDo).mono ?_
              intro e W8 h8
              obtain ⟨hk8, xi8, lv8, v8, iv8, kv8, I8, K8, L8, rfl, ht8, hl8⟩ := (unhide HTb).2.done ((unhide HTb).2.drop (unhide HTb).1.en (unhide HNE)) h8
              obtain ⟨xa8, xc8, rfl, -⟩ := ht8.xo.at
              obtain ⟨la8, lc8, rfl, -⟩ := ht8.lo.at
              have HX8 := hide ((unhide HXb).keepSA (unhide HTb).1.st hk8 (by decide) (by decide) (by decide))
              have HB8 := hide ((unhide HBb).trans (below_SA (unhide HTb).1.st hk8))
              have HT8 := hide (And.intro ht8 hl8)
              obtain ⟨n8, hn8⟩ : ∃ n8, n8 = I8.length := ⟨_, rfl⟩
              obtain ⟨q8, hq8⟩ : ∃ q8, q8 = L8.length := ⟨_, rfl⟩
              rw [← hn8, ← hq8] at HT8 ⊢
              clear hk8 ht8 hl8 HDo h8 HTb HXb HBb y0 y1 d0 d1 d2 hn8 hq8
              go_upto_region 15 with fail
              have hal8 : Below W8.heap.size W8 (W8.alloc (.cells #[.slice xa8 n8 xc8, .slice la8 q8 lc8] 28)) := (Below.refl _ _).alloc (Nat.le_refl _) _
              have HY9 : Hid (Bx (W8.alloc (.cells #[.slice xa8 n8 xc8, .slice la8 q8 lc8] 28)) W8.heap.size 28 #[.slice xa8 n8 xc8, .slice la8 q8 lc8]) := hide (heap_alloc_new W8 _)
              have HX9 := hide ((unhide HX8).below hal8)
              have HB9 := hide ((unhide HB8).trans (hal8.mono (unhide HB8).size))
              have HT9 := hide (And.intro ((unhide HT8).1.below hal8) (unhide HT8).2)
              clear hal8 HX8 HB8 HT8
              generalize (W8.alloc (.cells #[.slice xa8 n8 xc8, .slice la8 q8 lc8] 28)) = W9 at HY9 HX9 HB9 HT9 ⊢
              generalize W8.heap.size = b14 at HY9 ⊢
              have z0 := (unhide HY9).c 0 rfl
              have z1 := (unhide HY9).c 1 rfl
              have HXA9 : Hid (Bx (W9.setRow b9 #[.slice xa8 n8 xc8, .slice la8 q8 lc8]) b9 28 #[.slice xa8 n8 xc8, .slice la8 q8 lc8]) := hide (setRow_heap _ _ _ _ _ _ (unhide HX9))
              have HTA9 : Hid (Tw (W9.setRow b9 #[.slice xa8 n8 xc8, .slice la8 q8 lc8]) w.heap.size w.heap.size iv8 kv8 (.slice xa8 n8 xc8) (.slice la8 q8 lc8) I8 K8 L8 ∧ LastIs s m code I8 K8) := hide ⟨(unhide HT9).1.keepS (unhide HX9) (kept_row W9 b9 _), (unhide HT9).2⟩
              have HBA9 : Hid (Below w.heap.size w (W9.setRow b9 #[.slice xa8 n8 xc8, .slice la8 q8 lc8])) := hide (below_rowS (unhide HB9) hb9 _)
              go_wp2_with (refine wpList_store_row rfl 28 _ _ rfl b9 #[.slice xa8 n8 xc8, .slice la8 q8 lc8] rfl rfl 28 #[.slice xa n1 xc, .slice la n2 lc] (unhide HX9) (by kernel_rfl) rfl (by simp [Value.oneCell']) ?_)
              go_roundw
              case rel => exact ⟨k + 1, iv8, kv8, xa8, n8, xc8, la8, q8, lc8, I8, K8, L8, by omega, by go_num, HTA9, HXA9, HBA9⟩
              case measure => simp [intOf]; omega
        · have i1 : ¬ ((k : Nat) : Int) < ((T.length : Nat) : Int) := by omega
          have HGt := hide (GetS_any (unhide HTL).1.st (unhide HTL).1.big (unhide HTL).1.ok (unhide HTL).1.en s hsm)
          go_wp2_with fail
          refine (unhide HGt).mono ?_
          intro e W9 h9
          obtain ⟨hb9', h9⟩ := (unhide HTL).2.get (unhide HTL).1.ok h9
          have HB9 := hide ((unhide HBr).trans (hb9'.mono (unhide HBr).size))
          clear hb9' HGt HTL HXr HBr
          rcases h9 with ⟨h, _⟩ | ⟨_, ck, hck, rfl⟩
          · exact absurd h (unhide HC0)
          · have k1 : (ck != 0) = true := by simpa using hck
            have k2 : (code != 0) = true := by simpa using unhide HC0
            clear hck
            go_wp2
            go_ret
            exact ⟨rfl, unhide HB9⟩
    · exact absurd hcr (unhide HC0)
  · have HX4 := hide ((unhide HX3).keepSA (unhide HT3).st hk (by decide) (by decide) (by decide))
    have HB4 := hide ((unhide HB3).trans (below_SA (unhide HT3).st hk))
    obtain ⟨hxo, hlo, hrk⟩ := (unhide HT3).stands hk
    have HRf := hide (refPut_any (I := []) (L := []) (xa := none) (xc := 0) (la := none) (lc := 0) s ao c m hxo (unhide HT3).big hlo (unhide HT3).lenL hsm ((unhide HBt).below' (unhide HB4)) (unhide HNN) (PL := fun L' => ∃ ba bc, L' = putN (posN (rNm []) s) (hasN (rNm []) s) [] ⟨s, ba, bc, m⟩) (fun ba bc => ⟨ba, bc, rfl⟩))
    rw [unhide HCD] at HRf
    simp only [List.length_nil] at HRf
    have HNX := hide (fun (W : World) (xi' lv' : Value) (L' : List Rk) (hb : Below W4.heap.size W4 W) hx hl hn hL => (unhide HT3).put (w2 := W) (xi' := xi') (lv' := lv') (L' := L') (base := W4.heap.size) hst hk hF hb (Nat.le_refl _) hx hl hn hL (by rw [← unhide HCO]; exact hc0))
    have HLI : Hid (LastIs s m 0 ([] ++ recK s m) (putK [] [] s m)) := hide (LastIs.first (by rw [← unhide HCO]; exact hc0))
    obtain ⟨wb4, -, -, -, -, rfl, -⟩ := hwr
    subst hc0
    clear hst hk hF hxo hlo hrk HT3 HX3 HB3
    have y0 := (unhide HX4).c 0 rfl
    have y1 := (unhide HX4).c 1 rfl
    clear HPt
    go_wp2_with fail
    refine (unhide HRf).mono ?_
    rintro e W6 ⟨hb6, ⟨cr, hcr, hcr0, rfl⟩ | ⟨hcr, xi2, lv2, v5, L2, rfl, hx2, hl2, hn2, hL2, hw2⟩⟩
    · exact absurd hcr.symm hcr0
    · have HT6 := hide (unhide HNX W6 xi2 lv2 L2 hb6 hx2 hl2 hn2 hL2)
      have HX6 := hide ((unhide HX4).below hb6)
      have HB6 := hide ((unhide HB4).trans (hb6.mono (unhide HB4).size))
      obtain ⟨wb5, -, -, -, -, rfl, -⟩ := hw2
      obtain ⟨I2, hI2⟩ : ∃ I2, I2 = [] ++ recK s m := ⟨_, rfl⟩
      rw [← hI2] at hx2 HT6 HLI
      obtain ⟨xa2, xc2, rfl, -⟩ := hx2.at
      obtain ⟨la2, lc2, rfl, -⟩ := hl2.at
      clear hb6 HRf hx2 hl2 hn2 hL2 HNX hI2 y0 y1 HX4 HB4
      go_upto_region 7 with (refine wpList_store_row rfl 28 _ _ rfl b9 #[.slice xa2 I2.length xc2, .slice la2 L2.length lc2] rfl rfl 28 #[.slice none 0 0, .slice none 0 0] (unhide HX6) (by kernel_rfl) rfl (by simp [Value.oneCell']) ?_)
      have HX7 : Hid (Bx (W6.setRow b9 #[.slice xa2 I2.length xc2, .slice la2 L2.length lc2]) b9 28 #[.slice xa2 I2.length xc2, .slice la2 L2.length lc2]) := hide (setRow_heap _ _ _ _ _ _ (unhide HX6))
      have HT7 := hide ((unhide HT6).keepS (unhide HX6) (kept_row W6 b9 #[.slice xa2 I2.length xc2, .slice la2 L2.length lc2]))
      have HB7 : Hid (Below w.heap.size w (W6.setRow b9 #[.slice xa2 I2.length xc2, .slice la2 L2.length lc2])) := hide (below_rowS (unhide HB6) hb9 _)
      clear HX6 HT6 HB6
      generalize (W6.setRow b9 #[.slice xa2 I2.length xc2, .slice la2 L2.length lc2]) = W7 at HX7 HT7 HB7 ⊢
      go_wp2_with fail
      go_loopw [43] (fun i wr => ∃ (k : Nat) (iv kv : Value) (xa : Option Addr) (n1 xc : Nat) (la : Option Addr) (n2 lc : Nat) (I : List UInt8) (K : List Ke) (L : List Rk), k ≤ T.length ∧ i = .int .i64 k ∧ Hid (Tw wr w.heap.size w.heap.size iv kv (.slice xa n1 xc) (.slice la n2 lc) I K L ∧ LastIs s m 0 I K) ∧ Hid (Bx wr b9 28 #[.slice xa n1 xc, .slice la n2 lc]) ∧ Hid (Below w.heap.size w wr)) (fun i _ => T.length - (intOf i).toNat)
      case atStart => exact ⟨0, _, _, _, _, _, _, _, _, _, _, _, by omega, rfl, hide ⟨unhide HT7, unhide HLI⟩, HX7, HB7⟩
      case round =>
        clear HX7 HT7 HB7
        obtain ⟨k, iv, kv, xa, n1, xc, la, n2, lc, I, K, L, hk, rfl, HTL, HXr, HBr⟩ := hrel
        by_cases hlt : k < T.length
        · have i1 : ((k : Nat) : Int) < ((T.length : Nat) : Int) := by omega
          have hx := List.getElem?_eq_getElem hlt
          obtain ⟨b, off, rfl, hxa0⟩ := unhide HDT k _ hx
          generalize T[k] = x at hx hxa0
          have HLO := hide hxa0.lows
          have hxa := hxa0.keep (unhide HBr) hxa0.lows.1 hxa0.lows.2
          have c0 := hxa.c0
          have c1 := hxa.c1
          have c2 := hxa.c2
          have HXA := hide hxa0
          clear hx hxa0 hxa
          go_upto_region 12 with fail
          have hal : Below wr.heap.size wr (wr.alloc (.cells #[.int .i64 x.op, .string x.nm, .slice x.ba x.bs.length x.bc] 31)) := (Below.refl _ _).alloc (Nat.le_refl _) _
          have HXd : Hid (Bx (wr.alloc (.cells #[.int .i64 x.op, .string x.nm, .slice x.ba x.bs.length x.bc] 31)) wr.heap.size 31 #[.int .i64 x.op, .string x.nm, .slice x.ba x.bs.length x.bc]) := hide (heap_alloc_new wr _)
          have HTL2 := hide (And.intro ((unhide HTL).1.below hal) (unhide HTL).2)
          have HXr2 := hide ((unhide HXr).below hal)
          have HBr2 := hide ((unhide HBr).trans (hal.mono (unhide HBr).size))
          have HLD : Hid (w.heap.size ≤ wr.heap.size ∧ b9 < wr.heap.size) := hide ⟨(unhide HBr).size, (unhide HXr).lt⟩
          clear hal c0 c1 c2 HTL HXr
          generalize (wr.alloc (.cells #[.int .i64 x.op, .string x.nm, .slice x.ba x.bs.length x.bc] 31)) = wa at HXd HTL2 HXr2 HBr2 ⊢
          generalize wr.heap.size = bd at HXd HLD ⊢
          have d0 := (unhide HXd).c 0 rfl
          have d1 := (unhide HXd).c 1 rfl
          have d2 := (unhide HXd).c 2 rfl
          by_cases hnm : x.nm = s
          · have hq : (x.nm.toList == s.toList) = true := by rw [hnm]; exact beq_self_eq_true _
            clear hnm
            go_wp2
            go_roundw
            case rel => exact ⟨k + 1, iv, kv, xa, n1, xc, la, n2, lc, I, K, L, by omega, by go_num, HTL2, HXr2, HBr2⟩
            case measure => simp [intOf]; omega
          · have hq : (x.nm.toList == s.toList) = false := by
              rw [beq_eq_false_iff_ne]
              exact fun e => hnm (ba_ext (by rw [Lib.toList_data, Lib.toList_data] at e; exact e))
            have HNE := hide hnm
            have f0 := (unhide HXd).f 0
            clear hnm
            go_upto_region 14 with fail
            have hr := u64rem2 x.op
            generalize wrap64 ((IntKind.u64.wrap x.op).tmod 2) = r at hr ⊢
            have hkd := kept_setCell wa ⟨bd, 0, none⟩ (.int .i64 r)
            have HXe : Hid (Bx (wa.setCell ⟨bd, 0, none⟩ (.int .i64 r)) bd 31 #[.int .i64 r, .string x.nm, .slice x.ba x.bs.length x.bc]) := hide ((unhide HXd).set 0 (.int .i64 r) rfl)
            have HTb := hide (And.intro ((unhide HTL2).1.keepT (unhide HXd) hkd) (unhide HTL2).2)
            have HXb := hide ((unhide HXr2).other ⟨bd, 0, none⟩ (.int .i64 r) (by have := (unhide HLD).2; show b9 ≠ bd; omega))
            have HBb : Hid (Below w.heap.size w (wa.setCell ⟨bd, 0, none⟩ (.int .i64 r))) := hide ((unhide HBr2).setCell (p := ⟨bd, 0, none⟩) (unhide HLD).1 _)
            clear hkd HTL2 HXr2 HBr2 d0 d1 d2 f0 HXd
            generalize (wa.setCell ⟨bd, 0, none⟩ (.int .i64 r)) = wb at HXe HTb HXb HBb ⊢
            have d0 := (unhide HXe).c 0 rfl
            have d1 := (unhide HXe).c 1 rfl
            have d2 := (unhide HXe).c 2 rfl
            have HDA := hide ((unhide HXA).keep (unhide HBb) (unhide HLO).1 (unhide HLO).2)
            rcases hr with rfl | rfl
            · have HDo := hide (doPut_any x.nm x.ba x.bc x.bs (unhide HTb).1 (by have := (unhide HDA).nml; unfold maxLen; omega) (unhide HDA).by_ (unhide HDA).nil_ (unhide HDA).fit (unhide HLO).2)
              have y0 := (unhide HXb).c 0 rfl
              have y1 := (unhide HXb).c 1 rfl
              go_wp2_with fail
              refine (unhide HDo).mono ?_
              intro e W8 h8
              obtain ⟨hk8, xi8, lv8, v8, iv8, kv8, I8, K8, L8, rfl, ht8, hl8⟩ := (unhide HTb).2.done ((unhide HTb).2.put (unhide HTb).1.en (unhide HNE)) h8
              obtain ⟨xa8, xc8, rfl, -⟩ := ht8.xo.at
              obtain ⟨la8, lc8, rfl, -⟩ := ht8.lo.at
              have HX8 := hide ((unhide HXb).keepSA (unhide HTb).1.st hk8 (by decide) (by decide) (by decide))
              have HB8 := hide ((unhide HBb).trans (below_SA (unhide HTb).1.st hk8))
              have HT8 := hide (And.intro ht8 hl8)
              obtain ⟨n8, hn8⟩ : ∃ n8, n8 = I8.length := ⟨_, rfl⟩
              obtain ⟨q8, hq8⟩ : ∃ q8, q8 = L8.length := ⟨_, rfl⟩
              rw [← hn8, ← hq8] at HT8 ⊢
              clear hk8 ht8 hl8 HDo h8 HTb HXb HBb y0 y1 d0 d1 d2 hn8 hq8
              go_upto_region 15 with fail
              have hal8 : Below W8.heap.size W8 (W8.alloc (.cells #[.slice xa8 n8 xc8, .slice la8 q8 lc8] 28)) := (Below.refl _ _).alloc (Nat.le_refl _) _
              have HY9 : Hid (Bx (W8.alloc (.cells #[.slice xa8 n8 xc8, .slice la8 q8 lc8] 28)) W8.heap.size 28 #[.slice xa8 n8 xc8, .slice la8 q8 lc8]) := hide (heap_alloc_new W8 _)
              have HX9 := hide ((unhide HX8).below hal8)
              have HB9 := hide ((unhide HB8).trans (hal8.mono (unhide HB8).size))
              have HT9 := hide (And.intro ((unhide HT8).1.below hal8) (unhide HT8).2)
              clear hal8 HX8 HB8 HT8
              generalize (W8.alloc (.cells #[.slice xa8 n8 xc8, .slice la8 q8 lc8] 28)) = W9 at HY9 HX9 HB9 HT9 ⊢
              generalize W8.heap.size = b14 at HY9 ⊢
              have z0 := (unhide HY9).c 0 rfl
              have z1 := (unhide HY9).c 1 rfl
              have HXA9 : Hid (Bx (W9.setRow b9 #[.slice xa8 n8 xc8, .slice la8 q8 lc8]) b9 28 #[.slice xa8 n8 xc8, .slice la8 q8 lc8]) := hide (setRow_heap _ _ _ _ _ _ (unhide HX9))
              have HTA9 : Hid (Tw (W9.setRow b9 #[.slice xa8 n8 xc8, .slice la8 q8 lc8]) w.heap.size w.heap.size iv8 kv8 (.slice xa8 n8 xc8) (.slice la8 q8 lc8) I8 K8 L8 ∧ LastIs s m 0 I8 K8) := hide ⟨(unhide HT9).1.keepS (unhide HX9) (kept_row W9 b9 _), (unhide HT9).2⟩
              have HBA9 : Hid (Below w.heap.size w (W9.setRow b9 #[.slice xa8 n8 xc8, .slice la8 q8 lc8])) := hide (below_rowS (unhide HB9) hb9 _)
              go_wp2_with (refine wpList_store_row rfl 28 _ _ rfl b9 #[.slice xa8 n8 xc8, .slice la8 q8 lc8] rfl rfl 28 #[.slice xa n1 xc, .slice la n2 lc] (unhide HX9) (by kernel_rfl) rfl (by simp [Value.oneCell']) ?_)
              go_roundw
              case rel => exact ⟨k + 1, iv8, kv8, xa8, n8, xc8, la8, q8, lc8, I8, K8, L8, by omega, by go_num, HTA9, HXA9, HBA9⟩
              case measure => simp [intOf]; omega
            · have HDo := hide (doDrop_any x.nm x.ba x.bs.length x.bc (unhide HTb).1 (by have := (unhide HDA).nml; unfold maxLen; omega))
              have y0 := (unhide HXb).c 0 rfl
              have y1 := (unhide HXb).c 1 rfl
              go_wp2_with fail
              refine (unhide HDo).mono ?_
              intro e W8 h8
              obtain ⟨hk8, xi8, lv8, v8, iv8, kv8, I8, K8, L8, rfl, ht8, hl8⟩ := (unhide HTb).2.done ((unhide HTb).2.drop (unhide HTb).1.en (unhide HNE)) h8
              obtain ⟨xa8, xc8, rfl, -⟩ := ht8.xo.at
              obtain ⟨la8, lc8, rfl, -⟩ := ht8.lo.at
              have HX8 := hide ((unhide HXb).keepSA (unhide HTb).1.st hk8 (by decide) (by decide) (by decide))
              have HB8 := hide ((unhide HBb).trans (below_SA (unhide HTb).1.st hk8))
              have HT8 := hide (And.intro ht8 hl8)
              obtain ⟨n8, hn8⟩ : ∃ n8, n8 = I8.length := ⟨_, rfl⟩
              obtain ⟨q8, hq8⟩ : ∃ q8, q8 = L8.length := ⟨_, rfl⟩
              rw [← hn8, ← hq8] at HT8 ⊢
              clear hk8 ht8 hl8 HDo h8 HTb HXb HBb y0 y1 d0 d1 d2 hn8 hq8
              go_upto_region 15 with fail
              have hal8 : Below W8.heap.size W8 (W8.alloc (.cells #[.slice xa8 n8 xc8, .slice la8 q8 lc8] 28)) := (Below.refl _ _).alloc (Nat.le_refl _) _
              have HY9 : Hid (Bx (W8.alloc (.cells #[.slice xa8 n8 xc8, .slice la8 q8 lc8] 28)) W8.heap.size 28 #[.slice xa8 n8 xc8, .slice la8 q8 lc8]) := hide (heap_alloc_new W8 _)
              have HX9 := hide ((unhide HX8).below hal8)
              have HB9 := hide ((unhide HB8).trans (hal8.mono (unhide HB8).size))
              have HT9 := hide (And.intro ((unhide HT8).1.below hal8) (unhide HT8).2)
              clear hal8 HX8 HB8 HT8
              generalize (W8.alloc (.cells #[.slice xa8 n8 xc8, .slice la8 q8 lc8] 28)) = W9 at HY9 HX9 HB9 HT9 ⊢
              generalize W8.heap.size = b14 at HY9 ⊢
              have z0 := (unhide HY9).c 0 rfl
              have z1 := (unhide HY9).c 1 rfl
              have HXA9 : Hid (Bx (W9.setRow b9 #[.slice xa8 n8 xc8, .slice la8 q8 lc8]) b9 28 #[.slice xa8 n8 xc8, .slice la8 q8 lc8]) := hide (setRow_heap _ _ _ _ _ _ (unhide HX9))
              have HTA9 : Hid (Tw (W9.setRow b9 #[.slice xa8 n8 xc8, .slice la8 q8 lc8]) w.heap.size w.heap.size iv8 kv8 (.slice xa8 n8 xc8) (.slice la8 q8 lc8) I8 K8 L8 ∧ LastIs s m 0 I8 K8) := hide ⟨(unhide HT9).1.keepS (unhide HX9) (kept_row W9 b9 _), (unhide HT9).2⟩
              have HBA9 : Hid (Below w.heap.size w (W9.setRow b9 #[.slice xa8 n8 xc8, .slice la8 q8 lc8])) := hide (below_rowS (unhide HB9) hb9 _)
              go_wp2_with (refine wpList_store_row rfl 28 _ _ rfl b9 #[.slice xa8 n8 xc8, .slice la8 q8 lc8] rfl rfl 28 #[.slice xa n1 xc, .slice la n2 lc] (unhide HX9) (by kernel_rfl) rfl (by simp [Value.oneCell']) ?_)
              go_roundw
              case rel => exact ⟨k + 1, iv8, kv8, xa8, n8, xc8, la8, q8, lc8, I8, K8, L8, by omega, by go_num, HTA9, HXA9, HBA9⟩
              case measure => simp [intOf]; omega
        · have i1 : ¬ ((k : Nat) : Int) < ((T.length : Nat) : Int) := by omega
          have HGt := hide (GetS_any (unhide HTL).1.st (unhide HTL).1.big (unhide HTL).1.ok (unhide HTL).1.en s hsm)
          go_wp2_with fail
          refine (unhide HGt).mono ?_
          intro e W9 h9
          obtain ⟨hb9', h9⟩ := (unhide HTL).2.get (unhide HTL).1.ok h9
          have HB9 := hide ((unhide HBr).trans (hb9'.mono (unhide HBr).size))
          clear hb9' HGt HTL HXr HBr
          rcases h9 with ⟨_, v9, rfl, hO9⟩ | ⟨h, _⟩
          · obtain ⟨a9, c9, rfl, hB9, -, -⟩ := hO9.atN
            have HEq := hide (Equal_any a9 ao c9 c m m W9 hB9 ((unhide HBt).below' (unhide HB9)) (by unfold maxLen; omega) (by unfold maxLen; omega))
            rw [beq_self_eq_true] at HEq
            clear hO9 hB9
            go_wp2_with (go_at_call 14; refine (unhide HEq).mono ?_; rintro e W10 ⟨rfl, j10, hw10⟩; have HB10 : Hid (Below w.heap.size w W10) := hide (by rw [hw10]; exact belowD (unhide HB9) j10); clear hw10)
            go_ret
            exact ⟨rfl, unhide HB10⟩
          · exact absurd rfl h
end Go.Proofs.Ytmhilffaeighnaa
