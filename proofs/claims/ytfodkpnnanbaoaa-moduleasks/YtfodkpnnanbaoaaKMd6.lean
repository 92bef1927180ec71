/-
  module.sameClass, sameFunc, Same, bytes.Equal, slices.EqualFunc over them: whether both hold the same; module.Entry and provisoref16.Entry: the first function of a name. Conditions: lengths fit.
-/
import Derived.Test.YtfodkpnnanbaoaaKMd5
import Derived.Laws.IdiomStrings
namespace Go.Proofs.Ytfodkpnnanbaoaa
open Go.RowKit

set_option maxRecDepth 20000 in
set_option maxHeartbeats 4000000 in
theorem sameClass_any (x y : Cl) (w : World) (h : FsAt w x.fo x.fs) (hg : FsAt w y.fo y.fs) (hz : x.fs.length * 24 ≤ 140737488351232) :
    Calls Try.prog 28 #[.agg #[.string x.nm, .int .i64 x.par, .slice x.fo x.fs.length x.fc], .agg #[.string y.nm, .int .i64 y.par, .slice y.fo y.fs.length y.fc]] w fun e w' => e = .returned (.bool (decide (clC x = clC y))) ∧ Below w.heap.size w w' := by
  have al1 := (Below.refl w.heap.size w).alloc (Nat.le_refl _) (.cells #[.string x.nm, .int .i64 x.par, .slice x.fo x.fs.length x.fc] 67)
  have al := al1.alloc (by simp) (.cells #[.string y.nm, .int .i64 y.par, .slice y.fo y.fs.length y.fc] 67)
  have HB := hide al
  have n1 := heap_alloc_new w (.cells #[.string x.nm, .int .i64 x.par, .slice x.fo x.fs.length x.fc] 67)
  have n2 := heap_alloc_new (w.alloc (.cells #[.string x.nm, .int .i64 x.par, .slice x.fo x.fs.length x.fc] 67)) (.cells #[.string y.nm, .int .i64 y.par, .slice y.fo y.fs.length y.fc] 67)
  rw [World.size_alloc] at n2
  have HC1 : Hid (Bx ((w.alloc (.cells #[.string x.nm, .int .i64 x.par, .slice x.fo x.fs.length x.fc] 67)).alloc (.cells #[.string y.nm, .int .i64 y.par, .slice y.fo y.fs.length y.fc] 67)) w.heap.size 67 #[.string x.nm, .int .i64 x.par, .slice x.fo x.fs.length x.fc]) := hide ((((Below.refl _ _).alloc (Nat.le_refl _) _).block w.heap.size (by simp)).trans n1)
  have HC2 : Hid (Bx ((w.alloc (.cells #[.string x.nm, .int .i64 x.par, .slice x.fo x.fs.length x.fc] 67)).alloc (.cells #[.string y.nm, .int .i64 y.par, .slice y.fo y.fs.length y.fc] 67)) (w.heap.size + 1) 67 #[.string y.nm, .int .i64 y.par, .slice y.fo y.fs.length y.fc]) := hide n2
  have HE := hide (equalF_any x.fo y.fo x.fc y.fc x.fs y.fs _ (h.below al) (hg.below al) hz)
  have HQ := hide (clEq x y)
  clear al1 al n1 n2 h hg hz
  go_enter Try.func28, Try.ntmps28
  go_upto_region 1 with fail
  generalize ((w.alloc (.cells #[.string x.nm, .int .i64 x.par, .slice x.fo x.fs.length x.fc] 67)).alloc (.cells #[.string y.nm, .int .i64 y.par, .slice y.fo y.fs.length y.fc] 67)) = W1 at HB HC1 HC2 HE ⊢
  have k0 := (unhide HC1).c 0 rfl
  have k1 := (unhide HC1).c 1 rfl
  have k2 := (unhide HC1).c 2 rfl
  have m0 := (unhide HC2).c 0 rfl
  have m1 := (unhide HC2).c 1 rfl
  have m2 := (unhide HC2).c 2 rfl
  cases hn : (x.nm.toList == y.nm.toList)
  · have HR : Hid (decide (clC x = clC y) = false) := hide (by rw [unhide HQ, hn]; rfl)
    go_wp2
    go_ret
    exact ⟨ret_bool (unhide HR).symm, unhide HB⟩
  by_cases hp : x.par = y.par
  rotate_left
  · have b1 : (x.par == y.par) = false := beq_f hp
    have HR : Hid (decide (clC x = clC y) = false) := hide (by rw [unhide HQ, hn]; simp [hp])
    clear hp
    go_wp2
    go_ret
    exact ⟨ret_bool (unhide HR).symm, unhide HB⟩
  have b1 : (x.par == y.par) = true := beq_t hp
  have HR : Hid (decide (clC x = clC y) = eqL flC x.fs y.fs) := hide (by rw [unhide HQ, hn]; simp [hp])
  clear hp
  go_wp2_with fail
  refine (unhide HE).mono ?_
  rintro e W2 ⟨rfl, q, rfl⟩
  go_wp2
  go_ret
  exact ⟨ret_bool (unhide HR).symm, belowD (unhide HB) _⟩

theorem conv_bytes {w : World} {ao : Option Addr} {l : List UInt8} (h : BAt w ao l) (hn : ao = none → l = []) (c : Nat) : (convert 58 9 (.slice ao l.length c)).run Try.prog w = .ok (.string ⟨l.toArray⟩) w := by
  cases ao with
  | some x =>
    refine run_convert_bytes_back w 58 9 5 x c l Try.underlying58 Try.underlying5 Try.underlying9 (fun j hj => ?_)
    obtain ⟨b, off, e, hc⟩ := h j hj
    injection e with e
    subst e
    rw [Addr.add_lit, hc]
    unfold at8
    rw [List.getD_eq_getElem?_getD, List.getElem?_eq_getElem hj]
    rfl
  | none =>
    have := hn rfl
    subst this
    show (convert 58 9 (.slice none 0 c)).run Try.prog w = _
    rw [run_convert_bytes_string w 58 9 5 none 0 c Try.underlying58 Try.underlying5 Try.underlying9]
    rfl
theorem bytesEqual_any (x y : Bs) (w : World) (h : BAt w x.ca x.cd) (hn : x.ca = none → x.cd = []) (hg : BAt w y.ca y.cd) (hm : y.ca = none → y.cd = []) :
    Calls Try.prog 32 #[.slice x.ca x.cd.length x.cc, .slice y.ca y.cd.length y.cc] w fun e w' => e = .returned (.bool (decide (bsC x = bsC y))) ∧ Below w.heap.size w w' := by
  have c1 := conv_bytes h hn x.cc
  have c2 := conv_bytes hg hm y.cc
  have HR : Hid ((x.cd == y.cd) = decide (bsC x = bsC y)) := hide (by rw [Bool.eq_iff_iff, decide_eq_true_iff, beq_iff_eq]; exact Iff.rfl)
  clear h hn hg hm
  go_enter Try.func32, Try.ntmps32
  go_wp2
  go_ret
  exact ⟨ret_bool (unhide HR), Below.refl _ _⟩

set_option maxRecDepth 20000 in
set_option maxHeartbeats 4000000 in
theorem sameFunc_any (x y : Fn) (w : World) (h : FnOk w x) (hg : FnOk w y) :
    Calls Try.prog 30 #[.agg #[.string x.nm, .slice x.sg.po x.sg.ps.length x.sg.pc, .int .u8 (x.sg.rt : Int), .int .i64 x.lo, .slice x.ca x.cd.length x.cc], .agg #[.string y.nm, .slice y.sg.po y.sg.ps.length y.sg.pc, .int .u8 (y.sg.rt : Int), .int .i64 y.lo, .slice y.ca y.cd.length y.cc]] w fun e w' => e = .returned (.bool (decide (fnC x = fnC y))) ∧ Below w.heap.size w w' := by
  have al1 := (Below.refl w.heap.size w).alloc (Nat.le_refl _) (.cells #[.string x.nm, .slice x.sg.po x.sg.ps.length x.sg.pc, .int .u8 (x.sg.rt : Int), .int .i64 x.lo, .slice x.ca x.cd.length x.cc] 60)
  have al := al1.alloc (by simp) (.cells #[.string y.nm, .slice y.sg.po y.sg.ps.length y.sg.pc, .int .u8 (y.sg.rt : Int), .int .i64 y.lo, .slice y.ca y.cd.length y.cc] 60)
  have HB := hide al
  have n1 := heap_alloc_new w (.cells #[.string x.nm, .slice x.sg.po x.sg.ps.length x.sg.pc, .int .u8 (x.sg.rt : Int), .int .i64 x.lo, .slice x.ca x.cd.length x.cc] 60)
  have n2 := heap_alloc_new (w.alloc (.cells #[.string x.nm, .slice x.sg.po x.sg.ps.length x.sg.pc, .int .u8 (x.sg.rt : Int), .int .i64 x.lo, .slice x.ca x.cd.length x.cc] 60)) (.cells #[.string y.nm, .slice y.sg.po y.sg.ps.length y.sg.pc, .int .u8 (y.sg.rt : Int), .int .i64 y.lo, .slice y.ca y.cd.length y.cc] 60)
  rw [World.size_alloc] at n2
  have HC1 : Hid (Bx ((w.alloc (.cells #[.string x.nm, .slice x.sg.po x.sg.ps.length x.sg.pc, .int .u8 (x.sg.rt : Int), .int .i64 x.lo, .slice x.ca x.cd.length x.cc] 60)).alloc (.cells #[.string y.nm, .slice y.sg.po y.sg.ps.length y.sg.pc, .int .u8 (y.sg.rt : Int), .int .i64 y.lo, .slice y.ca y.cd.length y.cc] 60)) w.heap.size 60 #[.string x.nm, .slice x.sg.po x.sg.ps.length x.sg.pc, .int .u8 (x.sg.rt : Int), .int .i64 x.lo, .slice x.ca x.cd.length x.cc]) := hide ((((Below.refl _ _).alloc (Nat.le_refl _) _).block w.heap.size (by simp)).trans n1)
  have HC2 : Hid (Bx ((w.alloc (.cells #[.string x.nm, .slice x.sg.po x.sg.ps.length x.sg.pc, .int .u8 (x.sg.rt : Int), .int .i64 x.lo, .slice x.ca x.cd.length x.cc] 60)).alloc (.cells #[.string y.nm, .slice y.sg.po y.sg.ps.length y.sg.pc, .int .u8 (y.sg.rt : Int), .int .i64 y.lo, .slice y.ca y.cd.length y.cc] 60)) (w.heap.size + 1) 60 #[.string y.nm, .slice y.sg.po y.sg.ps.length y.sg.pc, .int .u8 (y.sg.rt : Int), .int .i64 y.lo, .slice y.ca y.cd.length y.cc]) := hide n2
  have HX := hide (h.below al)
  have HY := hide (hg.below al)
  have HQ : Hid (decide (fnC x = fnC y) = ((x.nm.toList == y.nm.toList) && decide (x.sg.ps = y.sg.ps) && decide (x.sg.rt = y.sg.rt) && decide (x.lo = y.lo) && (x.cd == y.cd))) := hide (by rw [fnEq, sgEq]; cases (x.nm.toList == y.nm.toList) <;> cases decide (x.sg.ps = y.sg.ps) <;> cases decide (x.sg.rt = y.sg.rt) <;> simp)
  clear al1 al n1 n2 h hg
  go_enter Try.func30, Try.ntmps30
  go_upto_region 1 with fail
  generalize ((w.alloc (.cells #[.string x.nm, .slice x.sg.po x.sg.ps.length x.sg.pc, .int .u8 (x.sg.rt : Int), .int .i64 x.lo, .slice x.ca x.cd.length x.cc] 60)).alloc (.cells #[.string y.nm, .slice y.sg.po y.sg.ps.length y.sg.pc, .int .u8 (y.sg.rt : Int), .int .i64 y.lo, .slice y.ca y.cd.length y.cc] 60)) = W1 at HB HC1 HC2 HX HY ⊢
  have HS := hide (equalP_any x.sg.po y.sg.po x.sg.pc y.sg.pc x.sg.ps y.sg.ps W1 (unhide HX).sg.prm (unhide HY).sg.prm (unhide HX).sg.fit)
  have k0 := (unhide HC1).c 0 rfl
  have k1 := (unhide HC1).c 1 rfl
  have k2 := (unhide HC1).c 2 rfl
  have k3 := (unhide HC1).c 3 rfl
  have k4 := (unhide HC1).c 4 rfl
  have m0 := (unhide HC2).c 0 rfl
  have m1 := (unhide HC2).c 1 rfl
  have m2 := (unhide HC2).c 2 rfl
  have m3 := (unhide HC2).c 3 rfl
  have m4 := (unhide HC2).c 4 rfl
  cases hn : (x.nm.toList == y.nm.toList)
  · have HR : Hid (decide (fnC x = fnC y) = false) := hide (by rw [unhide HQ, hn]; rfl)
    go_wp2
    go_ret
    exact ⟨ret_bool (unhide HR).symm, unhide HB⟩
  go_wp2_with fail
  refine (unhide HS).mono ?_
  rintro e W2 ⟨rfl, q, rfl⟩
  cases hs : decide (x.sg.ps = y.sg.ps)
  · have HR : Hid (decide (fnC x = fnC y) = false) := hide (by rw [unhide HQ, hn, hs]; rfl)
    clear hs
    go_wp2
    go_ret
    exact ⟨ret_bool (unhide HR).symm, belowD (unhide HB) _⟩
  have HQ2 : Hid (decide (fnC x = fnC y) = (decide (x.sg.rt = y.sg.rt) && decide (x.lo = y.lo) && (x.cd == y.cd))) := hide (by rw [unhide HQ, hn, hs]; simp)
  clear hs HQ
  by_cases hr : x.sg.rt = y.sg.rt
  rotate_left
  · have b1 := intOfNat hr
    have HR : Hid (decide (fnC x = fnC y) = false) := hide (by rw [unhide HQ2]; simp [hr])
    clear hr
    go_wp2
    go_ret
    exact ⟨ret_bool (unhide HR).symm, belowD (unhide HB) _⟩
  have b1 := intOfNatT hr
  by_cases hl : x.lo = y.lo
  rotate_left
  · have b2 : (x.lo == y.lo) = false := beq_f hl
    have HR : Hid (decide (fnC x = fnC y) = false) := hide (by rw [unhide HQ2]; simp [hl])
    clear hl hr
    go_wp2
    go_ret
    exact ⟨ret_bool (unhide HR).symm, belowD (unhide HB) _⟩
  have b2 : (x.lo == y.lo) = true := beq_t hl
  have HR : Hid (decide (fnC x = fnC y) = decide (bsC ⟨x.ca, x.cc, x.cd⟩ = bsC ⟨y.ca, y.cc, y.cd⟩)) := hide (by rw [unhide HQ2, Bool.eq_iff_iff, decide_eq_true_iff]; simp only [hr, hl, eq_self, decide_true, Bool.true_and, beq_iff_eq]; exact Iff.rfl)
  have HE := hide (bytesEqual_any ⟨x.ca, x.cc, x.cd⟩ ⟨y.ca, y.cc, y.cd⟩ (W1.drewN q) ((unhide HX).code.drewN q) (unhide HX).nil ((unhide HY).code.drewN q) (unhide HY).nil)
  clear hl hr
  go_wp2_with fail
  refine (unhide HE).mono ?_
  rintro e W3 ⟨rfl, hB3⟩
  have HB3 := hide ((belowD (unhide HB) q).trans (hB3.mono (unhide HB).size))
  clear hB3
  go_wp2
  go_ret
  exact ⟨ret_bool (unhide HR).symm, unhide HB3⟩

set_option maxRecDepth 20000 in
set_option maxHeartbeats 4000000 in
theorem EqualFuncC_any (go ao : Option Addr) (gc cap : Nat) (G T : List Cl) (w : World) (hG : TabAt w go G) (hT : TabAt w ao T) (hz : G.length < 9223372036854775000) :
    Calls Try.prog 27 #[.slice go G.length gc, .slice ao T.length cap, .func (.func 28) #[] #[]] w fun e w' => e = .returned (.bool (eqL clC G T)) ∧ Below w.heap.size w w' := by
  by_cases hl : G.length = T.length
  rotate_left
  · have HR : Hid (eqL clC G T = false) := hide (eqL_len hl)
    have e0 : (((G.length : Nat) : Int) != ((T.length : Nat) : Int)) = true := bne_t (by omega)
    clear hl
    go_enter Try.func27, Try.ntmps27
    go_wp2
    go_ret
    exact ⟨ret_bool (unhide HR).symm, Below.refl _ _⟩
  have e0 : (((G.length : Nat) : Int) != ((T.length : Nat) : Int)) = false := bne_f (by omega)
  have HG := hide hG
  have HT := hide hT
  have HLn := hide hl
  clear hG hT hl
  go_enter Try.func27, Try.ntmps27
  go_wp2
  go_loopw [17] (fun i wr => ∃ k : Nat, k ≤ G.length ∧ i = .int .i64 (k : Int) ∧ Hid (∀ (j : Nat) x y, j < k → G[j]? = some x → T[j]? = some y → clC x = clC y) ∧ Hid (Below w.heap.size w wr)) (fun i _ => G.length - (intOf i).toNat)
  case atStart => exact ⟨0, by omega, rfl, hide (fun j x y h => by omega), hide (Below.refl _ _)⟩
  case round =>
    obtain ⟨k, hk, rfl, HK, HBr⟩ := hrel
    by_cases hlt : k < G.length
    · have i1 : ((k : Nat) : Int) < ((G.length : Nat) : Int) := by omega
      have hkT : k < T.length := by have := unhide HLn; omega
      have i2 : ((k : Nat) : Int) < ((T.length : Nat) : Int) := by omega
      have i0 : (0 : Int) ≤ ((k : Nat) : Int) := by omega
      have hx := List.getElem?_eq_getElem hlt
      have hy := List.getElem?_eq_getElem hkT
      obtain ⟨b, off, rfl, hxa⟩ := (unhide HG).below (unhide HBr) k _ hx
      obtain ⟨b', off', rfl, hya⟩ := (unhide HT).below (unhide HBr) k _ hy
      generalize G[k] = x at hxa hx
      generalize T[k] = y at hya hy
      have c0 := hxa.c0
      have d0 := hya.c0
      have c1 := hxa.c1
      have d1 := hya.c1
      have c2 := hxa.c2
      have d2 := hya.c2
      have HNO : Hid (decide (clC x = clC y) = false → eqL clC G T = false) := hide (fun e => eqL_no hx hy (neOfDec e))
      have HK2 : Hid (decide (clC x = clC y) = true → ∀ (j : Nat) a b, j < k + 1 → G[j]? = some a → T[j]? = some b → clC a = clC b) := hide (fun e j a b h1 h2 h3 => by
        by_cases e' : j = k
        · rw [e', hx] at h2
          rw [e', hy] at h3
          injection h2 with h2
          injection h3 with h3
          rw [← h2, ← h3]; exact eqOfDec e
        · exact unhide HK j a b (by omega) h2 h3)
      have HXA := hide hxa
      have HYA := hide hya
      have l1 := World.block_lt_of_cell? wr _ c0
      have l2 := World.block_lt_of_cell? wr _ d0
      clear hx hy hxa hya HK
      go_wp2_with fail
      have hal : Below wr.heap.size wr ((wr.alloc (.cells #[.string x.nm, .int .i64 x.par, .slice x.fo x.fs.length x.fc] 67)).alloc (.cells #[.string y.nm, .int .i64 y.par, .slice y.fo y.fs.length y.fc] 67)) := ((Below.refl wr.heap.size wr).alloc (Nat.le_refl _) _).alloc (by simp) _
      refine (sameClass_any x y _ ((unhide HXA).flds.below hal) ((unhide HYA).flds.below hal) (unhide HXA).fit).mono ?_
      rintro e w2 ⟨rfl, hb2⟩
      have HB2 := hide ((unhide HBr).trans ((hal.trans (hb2.mono hal.size)).mono (unhide HBr).size))
      clear hb2 hal
      cases hd : decide (clC x = clC y)
      · have HE := hide (unhide HNO hd)
        clear hd
        go_wp2
        go_ret
        exact ⟨ret_bool (unhide HE).symm, unhide HB2⟩
      · have HE := hide (unhide HK2 hd)
        clear hd
        go_wp2
        go_roundw
        case rel => exact ⟨k + 1, by omega, by go_num, HE, HB2⟩
        case measure => simp [intOf]; omega
    · have i1 : ¬ ((k : Nat) : Int) < ((G.length : Nat) : Int) := by omega
      have HR : Hid (eqL clC G T = true) := hide (eqL_yes (unhide HLn) (fun i x y h1 h2 => unhide HK i x y (by have := (List.getElem?_eq_some_iff.1 h1).1; omega) h1 h2))
      go_wp2
      go_ret
      exact ⟨ret_bool (unhide HR).symm, unhide HBr⟩

set_option maxRecDepth 20000 in
set_option maxHeartbeats 4000000 in
theorem EqualFuncF_any (go ao : Option Addr) (gc cap : Nat) (G T : List Fn) (w : World) (hG : FnsAt w go G) (hT : FnsAt w ao T) (hz : G.length < 9223372036854775000) :
    Calls Try.prog 29 #[.slice go G.length gc, .slice ao T.length cap, .func (.func 30) #[] #[]] w fun e w' => e = .returned (.bool (eqL fnC G T)) ∧ Below w.heap.size w w' := by
  by_cases hl : G.length = T.length
  rotate_left
  · have HR : Hid (eqL fnC G T = false) := hide (eqL_len hl)
    have e0 : (((G.length : Nat) : Int) != ((T.length : Nat) : Int)) = true := bne_t (by omega)
    clear hl
    go_enter Try.func29, Try.ntmps29
    go_wp2
    go_ret
    exact ⟨ret_bool (unhide HR).symm, Below.refl _ _⟩
  have e0 : (((G.length : Nat) : Int) != ((T.length : Nat) : Int)) = false := bne_f (by omega)
  have HG := hide hG
  have HT := hide hT
  have HLn := hide hl
  clear hG hT hl
  go_enter Try.func29, Try.ntmps29
  go_wp2
  go_loopw [17] (fun i wr => ∃ k : Nat, k ≤ G.length ∧ i = .int .i64 (k : Int) ∧ Hid (∀ (j : Nat) x y, j < k → G[j]? = some x → T[j]? = some y → fnC x = fnC y) ∧ Hid (Below w.heap.size w wr)) (fun i _ => G.length - (intOf i).toNat)
  case atStart => exact ⟨0, by omega, rfl, hide (fun j x y h => by omega), hide (Below.refl _ _)⟩
  case round =>
    obtain ⟨k, hk, rfl, HK, HBr⟩ := hrel
    by_cases hlt : k < G.length
    · have i1 : ((k : Nat) : Int) < ((G.length : Nat) : Int) := by omega
      have hkT : k < T.length := by have := unhide HLn; omega
      have i2 : ((k : Nat) : Int) < ((T.length : Nat) : Int) := by omega
      have i0 : (0 : Int) ≤ ((k : Nat) : Int) := by omega
      have hx := List.getElem?_eq_getElem hlt
      have hy := List.getElem?_eq_getElem hkT
      obtain ⟨b, off, rfl, hxa⟩ := (unhide HG).below (unhide HBr) k _ hx
      obtain ⟨b', off', rfl, hya⟩ := (unhide HT).below (unhide HBr) k _ hy
      generalize G[k] = x at hxa hx
      generalize T[k] = y at hya hy
      have c0 := hxa.c0
      have d0 := hya.c0
      have c1 := hxa.c1
      have d1 := hya.c1
      have c2 := hxa.c2
      have d2 := hya.c2
      have c3 := hxa.c3
      have d3 := hya.c3
      have c4 := hxa.c4
      have d4 := hya.c4
      have HNO : Hid (decide (fnC x = fnC y) = false → eqL fnC G T = false) := hide (fun e => eqL_no hx hy (neOfDec e))
      have HK2 : Hid (decide (fnC x = fnC y) = true → ∀ (j : Nat) a b, j < k + 1 → G[j]? = some a → T[j]? = some b → fnC a = fnC b) := hide (fun e j a b h1 h2 h3 => by
        by_cases e' : j = k
        · rw [e', hx] at h2
          rw [e', hy] at h3
          injection h2 with h2
          injection h3 with h3
          rw [← h2, ← h3]; exact eqOfDec e
        · exact unhide HK j a b (by omega) h2 h3)
      have HXA := hide hxa
      have HYA := hide hya
      have l1 := World.block_lt_of_cell? wr _ c0
      have l2 := World.block_lt_of_cell? wr _ d0
      clear hx hy hxa hya HK
      go_wp2_with fail
      have hal : Below wr.heap.size wr ((wr.alloc (.cells #[.string x.nm, .slice x.sg.po x.sg.ps.length x.sg.pc, .int .u8 (x.sg.rt : Int), .int .i64 x.lo, .slice x.ca x.cd.length x.cc] 60)).alloc (.cells #[.string y.nm, .slice y.sg.po y.sg.ps.length y.sg.pc, .int .u8 (y.sg.rt : Int), .int .i64 y.lo, .slice y.ca y.cd.length y.cc] 60)) := ((Below.refl wr.heap.size wr).alloc (Nat.le_refl _) _).alloc (by simp) _
      refine (sameFunc_any x y _ ((unhide HXA).ok.below hal) ((unhide HYA).ok.below hal)).mono ?_
      rintro e w2 ⟨rfl, hb2⟩
      have HB2 := hide ((unhide HBr).trans ((hal.trans (hb2.mono hal.size)).mono (unhide HBr).size))
      clear hb2 hal
      cases hd : decide (fnC x = fnC y)
      · have HE := hide (unhide HNO hd)
        clear hd
        go_wp2
        go_ret
        exact ⟨ret_bool (unhide HE).symm, unhide HB2⟩
      · have HE := hide (unhide HK2 hd)
        clear hd
        go_wp2
        go_roundw
        case rel => exact ⟨k + 1, by omega, by go_num, HE, HB2⟩
        case measure => simp [intOf]; omega
    · have i1 : ¬ ((k : Nat) : Int) < ((G.length : Nat) : Int) := by omega
      have HR : Hid (eqL fnC G T = true) := hide (eqL_yes (unhide HLn) (fun i x y h1 h2 => unhide HK i x y (by have := (List.getElem?_eq_some_iff.1 h1).1; omega) h1 h2))
      go_wp2
      go_ret
      exact ⟨ret_bool (unhide HR).symm, unhide HBr⟩

set_option maxRecDepth 20000 in
set_option maxHeartbeats 4000000 in
theorem EqualFuncB_any (go ao : Option Addr) (gc cap : Nat) (G T : List Bs) (w : World) (hG : BssAt w go G) (hT : BssAt w ao T) (hz : G.length < 9223372036854775000) :
    Calls Try.prog 31 #[.slice go G.length gc, .slice ao T.length cap, .func (.func 32) #[] #[]] w fun e w' => e = .returned (.bool (eqL bsC G T)) ∧ Below w.heap.size w w' := by
  by_cases hl : G.length = T.length
  rotate_left
  · have HR : Hid (eqL bsC G T = false) := hide (eqL_len hl)
    have e0 : (((G.length : Nat) : Int) != ((T.length : Nat) : Int)) = true := bne_t (by omega)
    clear hl
    go_enter Try.func31, Try.ntmps31
    go_wp2
    go_ret
    exact ⟨ret_bool (unhide HR).symm, Below.refl _ _⟩
  have e0 : (((G.length : Nat) : Int) != ((T.length : Nat) : Int)) = false := bne_f (by omega)
  have HG := hide hG
  have HT := hide hT
  have HLn := hide hl
  clear hG hT hl
  go_enter Try.func31, Try.ntmps31
  go_wp2
  go_loopw [17] (fun i wr => ∃ k : Nat, k ≤ G.length ∧ i = .int .i64 (k : Int) ∧ Hid (∀ (j : Nat) x y, j < k → G[j]? = some x → T[j]? = some y → bsC x = bsC y) ∧ Hid (Below w.heap.size w wr)) (fun i _ => G.length - (intOf i).toNat)
  case atStart => exact ⟨0, by omega, rfl, hide (fun j x y h => by omega), hide (Below.refl _ _)⟩
  case round =>
    obtain ⟨k, hk, rfl, HK, HBr⟩ := hrel
    by_cases hlt : k < G.length
    · have i1 : ((k : Nat) : Int) < ((G.length : Nat) : Int) := by omega
      have hkT : k < T.length := by have := unhide HLn; omega
      have i2 : ((k : Nat) : Int) < ((T.length : Nat) : Int) := by omega
      have i0 : (0 : Int) ≤ ((k : Nat) : Int) := by omega
      have hx := List.getElem?_eq_getElem hlt
      have hy := List.getElem?_eq_getElem hkT
      obtain ⟨b, off, rfl, hxa⟩ := (unhide HG).below (unhide HBr) k _ hx
      obtain ⟨b', off', rfl, hya⟩ := (unhide HT).below (unhide HBr) k _ hy
      generalize G[k] = x at hxa hx
      generalize T[k] = y at hya hy
      have c0 := hxa.c0
      have d0 := hya.c0
      have HNO : Hid (decide (bsC x = bsC y) = false → eqL bsC G T = false) := hide (fun e => eqL_no hx hy (neOfDec e))
      have HK2 : Hid (decide (bsC x = bsC y) = true → ∀ (j : Nat) a b, j < k + 1 → G[j]? = some a → T[j]? = some b → bsC a = bsC b) := hide (fun e j a b h1 h2 h3 => by
        by_cases e' : j = k
        · rw [e', hx] at h2
          rw [e', hy] at h3
          injection h2 with h2
          injection h3 with h3
          rw [← h2, ← h3]; exact eqOfDec e
        · exact unhide HK j a b (by omega) h2 h3)
      have HXA := hide hxa
      have HYA := hide hya
      have l1 := World.block_lt_of_cell? wr _ c0
      have l2 := World.block_lt_of_cell? wr _ d0
      clear hx hy hxa hya HK
      go_wp2_with fail
      have hal : Below wr.heap.size wr wr := Below.refl _ _
      refine (bytesEqual_any x y wr (unhide HXA).code (unhide HXA).nil (unhide HYA).code (unhide HYA).nil).mono ?_
      rintro e w2 ⟨rfl, hb2⟩
      have HB2 := hide ((unhide HBr).trans ((hal.trans (hb2.mono hal.size)).mono (unhide HBr).size))
      clear hb2 hal
      cases hd : decide (bsC x = bsC y)
      · have HE := hide (unhide HNO hd)
        clear hd
        go_wp2
        go_ret
        exact ⟨ret_bool (unhide HE).symm, unhide HB2⟩
      · have HE := hide (unhide HK2 hd)
        clear hd
        go_wp2
        go_roundw
        case rel => exact ⟨k + 1, by omega, by go_num, HE, HB2⟩
        case measure => simp [intOf]; omega
    · have i1 : ¬ ((k : Nat) : Int) < ((G.length : Nat) : Int) := by omega
      have HR : Hid (eqL bsC G T = true) := hide (eqL_yes (unhide HLn) (fun i x y h1 h2 => unhide HK i x y (by have := (List.getElem?_eq_some_iff.1 h1).1; omega) h1 h2))
      go_wp2
      go_ret
      exact ⟨ret_bool (unhide HR).symm, unhide HBr⟩

set_option maxRecDepth 20000 in
set_option maxHeartbeats 8000000 in
theorem Same_any (x y : Md) (w : World) (h : MdOk w x) (hg : MdOk w y) :
    Calls Try.prog 12 #[.agg #[.string x.nm, .slice x.ao x.T.length x.cap, .slice x.fo x.F.length x.fc, .slice x.co x.C.length x.cc], .agg #[.string y.nm, .slice y.ao y.T.length y.cap, .slice y.fo y.F.length y.fc, .slice y.co y.C.length y.cc]] w fun e w' => e = .returned (.bool (mdEq x y)) ∧ Below w.heap.size w w' := by
  have al1 := (Below.refl w.heap.size w).alloc (Nat.le_refl _) (.cells #[.string x.nm, .slice x.ao x.T.length x.cap, .slice x.fo x.F.length x.fc, .slice x.co x.C.length x.cc] 32)
  have al := al1.alloc (by simp) (.cells #[.string y.nm, .slice y.ao y.T.length y.cap, .slice y.fo y.F.length y.fc, .slice y.co y.C.length y.cc] 32)
  have HB := hide al
  have n1 := heap_alloc_new w (.cells #[.string x.nm, .slice x.ao x.T.length x.cap, .slice x.fo x.F.length x.fc, .slice x.co x.C.length x.cc] 32)
  have n2 := heap_alloc_new (w.alloc (.cells #[.string x.nm, .slice x.ao x.T.length x.cap, .slice x.fo x.F.length x.fc, .slice x.co x.C.length x.cc] 32)) (.cells #[.string y.nm, .slice y.ao y.T.length y.cap, .slice y.fo y.F.length y.fc, .slice y.co y.C.length y.cc] 32)
  rw [World.size_alloc] at n2
  have HC1 : Hid (Bx ((w.alloc (.cells #[.string x.nm, .slice x.ao x.T.length x.cap, .slice x.fo x.F.length x.fc, .slice x.co x.C.length x.cc] 32)).alloc (.cells #[.string y.nm, .slice y.ao y.T.length y.cap, .slice y.fo y.F.length y.fc, .slice y.co y.C.length y.cc] 32)) w.heap.size 32 #[.string x.nm, .slice x.ao x.T.length x.cap, .slice x.fo x.F.length x.fc, .slice x.co x.C.length x.cc]) := hide ((((Below.refl _ _).alloc (Nat.le_refl _) _).block w.heap.size (by simp)).trans n1)
  have HC2 : Hid (Bx ((w.alloc (.cells #[.string x.nm, .slice x.ao x.T.length x.cap, .slice x.fo x.F.length x.fc, .slice x.co x.C.length x.cc] 32)).alloc (.cells #[.string y.nm, .slice y.ao y.T.length y.cap, .slice y.fo y.F.length y.fc, .slice y.co y.C.length y.cc] 32)) (w.heap.size + 1) 32 #[.string y.nm, .slice y.ao y.T.length y.cap, .slice y.fo y.F.length y.fc, .slice y.co y.C.length y.cc]) := hide n2
  have HX := hide (h.below al)
  have HY := hide (hg.below al)
  have HQ : Hid (mdEq x y = ((x.nm.toList == y.nm.toList) && eqL clC x.T y.T && eqL fnC x.F y.F && eqL bsC x.C y.C)) := hide rfl
  have hlt : x.T.length < 9223372036854775000 := by have := h.tz; omega
  have hlf : x.F.length < 9223372036854775000 := by have := h.fz; omega
  have hlc : x.C.length < 9223372036854775000 := by have := h.cz; omega
  clear al1 al n1 n2 h hg
  go_enter Try.func12, Try.ntmps12
  go_upto_region 1 with fail
  generalize ((w.alloc (.cells #[.string x.nm, .slice x.ao x.T.length x.cap, .slice x.fo x.F.length x.fc, .slice x.co x.C.length x.cc] 32)).alloc (.cells #[.string y.nm, .slice y.ao y.T.length y.cap, .slice y.fo y.F.length y.fc, .slice y.co y.C.length y.cc] 32)) = W1 at HB HC1 HC2 HX HY ⊢
  have k0 := (unhide HC1).c 0 rfl
  have k1 := (unhide HC1).c 1 rfl
  have m0 := (unhide HC2).c 0 rfl
  have m1 := (unhide HC2).c 1 rfl
  cases hn : (x.nm.toList == y.nm.toList)
  · have HR : Hid (mdEq x y = false) := hide (by rw [unhide HQ, hn]; rfl)
    go_wp2
    go_ret
    exact ⟨ret_bool (unhide HR).symm, unhide HB⟩
  have HQ2 : Hid (mdEq x y = (eqL clC x.T y.T && eqL fnC x.F y.F && eqL bsC x.C y.C)) := hide (by rw [unhide HQ, hn]; simp)
  clear HQ
  go_wp2_with fail
  refine (EqualFuncC_any x.ao y.ao x.cap y.cap x.T y.T W1 (unhide HX).tab (unhide HY).tab hlt).mono ?_
  rintro e W2 ⟨rfl, hb2⟩
  have HB2 := hide ((unhide HB).trans (hb2.mono (unhide HB).size))
  have HD1 := hide ((unhide HC1).below hb2)
  have HD2 := hide ((unhide HC2).below hb2)
  have HX2 := hide ((unhide HX).below hb2)
  have HY2 := hide ((unhide HY).below hb2)
  clear k0 k1 m0 m1 HB HC1 HC2 HX HY hb2
  cases hs : eqL clC x.T y.T
  · have HR : Hid (mdEq x y = false) := hide (by rw [unhide HQ2, hs]; rfl)
    clear hs
    go_wp2
    go_ret
    exact ⟨ret_bool (unhide HR).symm, unhide HB2⟩
  have HQ3 : Hid (mdEq x y = (eqL fnC x.F y.F && eqL bsC x.C y.C)) := hide (by rw [unhide HQ2, hs]; simp)
  clear hs HQ2
  have k0 := (unhide HD1).c 2 rfl
  have m0 := (unhide HD2).c 2 rfl
  go_wp2_with fail
  refine (EqualFuncF_any x.fo y.fo x.fc y.fc x.F y.F W2 (unhide HX2).fns (unhide HY2).fns hlf).mono ?_
  rintro e W3 ⟨rfl, hb3⟩
  have HB3 := hide ((unhide HB2).trans (hb3.mono (unhide HB2).size))
  have HE1 := hide ((unhide HD1).below hb3)
  have HE2 := hide ((unhide HD2).below hb3)
  have HX3 := hide ((unhide HX2).below hb3)
  have HY3 := hide ((unhide HY2).below hb3)
  clear k0 m0 HB2 HD1 HD2 HX2 HY2 hb3
  cases hs : eqL fnC x.F y.F
  · have HR : Hid (mdEq x y = false) := hide (by rw [unhide HQ3, hs]; rfl)
    clear hs
    go_wp2
    go_ret
    exact ⟨ret_bool (unhide HR).symm, unhide HB3⟩
  have HQ4 : Hid (mdEq x y = eqL bsC x.C y.C) := hide (by rw [unhide HQ3, hs]; simp)
  clear hs HQ3
  have k0 := (unhide HE1).c 3 rfl
  have m0 := (unhide HE2).c 3 rfl
  go_wp2_with fail
  refine (EqualFuncB_any x.co y.co x.cc y.cc x.C y.C W3 (unhide HX3).cts (unhide HY3).cts hlc).mono ?_
  rintro e W4 ⟨rfl, hb4⟩
  have HB4 := hide ((unhide HB3).trans (hb4.mono (unhide HB3).size))
  clear k0 m0 hb4
  go_wp2
  go_ret
  exact ⟨ret_bool (unhide HQ4).symm, unhide HB4⟩

/-- The first function of a name, from k on. -/
def entR : List Fn → ByteArray → Nat → Option Nat
  | [], _, _ => none
  | f :: l, s, k => if (f.nm.toList == s.toList) = true then some k else entR l s (k + 1)
def entN (L : List Fn) (s : ByteArray) : Nat := (entR L s 0).getD 0
def entB (L : List Fn) (s : ByteArray) : Bool := (entR L s 0).isSome
theorem entR_drop {L : List Fn} {s : ByteArray} {k : Nat} {x : Fn} (h : L[k]? = some x) : entR (L.drop k) s k = if (x.nm.toList == s.toList) = true then some k else entR (L.drop (k + 1)) s (k + 1) := by
  obtain ⟨hk, e⟩ := List.getElem?_eq_some_iff.1 h
  rw [List.drop_eq_getElem_cons hk, entR, e]

set_option maxRecDepth 20000 in
set_option maxHeartbeats 4000000 in
theorem Entry_any (m : Md) (s : ByteArray) (w : World) (h : FnsAt w m.fo m.F) (hz : m.F.length * 80 ≤ 140737488351232) :
    Calls Try.prog 9 #[.agg #[.string m.nm, .slice m.ao m.T.length m.cap, .slice m.fo m.F.length m.fc, .slice m.co m.C.length m.cc], .string s] w fun e w' => e = .returned (.tuple #[.int .i64 (entN m.F s : Int), .bool (entB m.F s)]) ∧ Below w.heap.size w w' := by
  have al := (Below.refl w.heap.size w).alloc (Nat.le_refl _) (.cells #[.string m.nm, .slice m.ao m.T.length m.cap, .slice m.fo m.F.length m.fc, .slice m.co m.C.length m.cc] 32)
  have HB := hide al
  have HC : Hid (Bx (w.alloc (.cells #[.string m.nm, .slice m.ao m.T.length m.cap, .slice m.fo m.F.length m.fc, .slice m.co m.C.length m.cc] 32)) w.heap.size 32 #[.string m.nm, .slice m.ao m.T.length m.cap, .slice m.fo m.F.length m.fc, .slice m.co m.C.length m.cc]) := hide (heap_alloc_new w _)
  have H := hide (h.below al)
  have hl : m.F.length < 9223372036854775000 := by omega
  clear al h hz
  go_enter Try.func9, Try.ntmps9
  go_upto_region 1 with fail
  generalize (w.alloc (.cells #[.string m.nm, .slice m.ao m.T.length m.cap, .slice m.fo m.F.length m.fc, .slice m.co m.C.length m.cc] 32)) = W1 at HB HC H ⊢
  have k0 := (unhide HC).c 2 rfl
  go_wp2_with fail
  go_loopw [11] (fun i wr => ∃ k : Nat, k ≤ m.F.length ∧ i = .int .i64 (k : Int) ∧ Hid (entR m.F s 0 = entR (m.F.drop k) s k) ∧ Hid (Below W1.heap.size W1 wr)) (fun i _ => m.F.length - (intOf i).toNat)
  case atStart => exact ⟨0, by omega, rfl, hide rfl, hide (Below.refl _ _)⟩
  case round =>
    obtain ⟨k, hk, rfl, HK, HR⟩ := hrel
    have q0 := ((unhide HC).below (unhide HR)).c 2 rfl
    have HBW := hide ((unhide HB).trans ((unhide HR).mono (unhide HB).size))
    by_cases hlt : k < m.F.length
    · have i1 : ((k : Nat) : Int) < ((m.F.length : Nat) : Int) := by omega
      have i0 : (0 : Int) ≤ ((k : Nat) : Int) := by omega
      have hx := List.getElem?_eq_getElem hlt
      obtain ⟨b, off, eb, hxa⟩ := (unhide H).below (unhide HR) k _ hx
      generalize m.F[k] = x at hxa hx
      have HD := hide (entR_drop (s := s) hx)
      have c0 := hxa.c0
      have c1 := hxa.c1
      have c2 := hxa.c2
      have c3 := hxa.c3
      have c4 := hxa.c4
      rw [eb] at q0
      rw [eb]
      have hal : Below wr.heap.size wr (wr.alloc (.cells #[.string x.nm, .slice x.sg.po x.sg.ps.length x.sg.pc, .int .u8 (x.sg.rt : Int), .int .i64 x.lo, .slice x.ca x.cd.length x.cc] 60)) := (Below.refl _ _).alloc (Nat.le_refl _) _
      have HAL := hide hal
      clear hx hxa eb hal
      cases hn : (x.nm.toList == s.toList)
      · have HK2 : Hid (entR m.F s 0 = entR (m.F.drop (k + 1)) s (k + 1)) := hide (by rw [unhide HK, unhide HD, hn]; rfl)
        have HR2 : Hid (Below W1.heap.size W1 (wr.alloc (.cells #[.string x.nm, .slice x.sg.po x.sg.ps.length x.sg.pc, .int .u8 (x.sg.rt : Int), .int .i64 x.lo, .slice x.ca x.cd.length x.cc] 60))) := hide ((unhide HR).trans ((unhide HAL).mono (unhide HR).size))
        go_wp2
        go_roundw
        case rel => exact ⟨k + 1, by omega, by go_num, HK2, HR2⟩
        case measure => simp [intOf]; omega
      · have HE : Hid (entR m.F s 0 = some k) := hide (by rw [unhide HK, unhide HD, hn]; rfl)
        have HR2 : Hid (Below w.heap.size w (wr.alloc (.cells #[.string x.nm, .slice x.sg.po x.sg.ps.length x.sg.pc, .int .u8 (x.sg.rt : Int), .int .i64 x.lo, .slice x.ca x.cd.length x.cc] 60))) := hide ((unhide HBW).trans ((unhide HAL).mono (unhide HBW).size))
        have HF : Hid ((.tuple #[.int .i64 (k : Int), .bool true] : Value) = .tuple #[.int .i64 (entN m.F s : Int), .bool (entB m.F s)]) := hide (by unfold entN entB; rw [unhide HE]; rfl)
        go_wp2
        go_ret2
        exact ⟨congrArg Ending.returned (unhide HF), unhide HR2⟩
    · have i1 : ¬ ((k : Nat) : Int) < ((m.F.length : Nat) : Int) := by omega
      have HE : Hid (entR m.F s 0 = none) := hide (by rw [unhide HK, List.drop_eq_nil_of_le (by omega)]; rfl)
      have HF : Hid ((.tuple #[.int .i64 0, .bool false] : Value) = .tuple #[.int .i64 (entN m.F s : Int), .bool (entB m.F s)]) := hide (by unfold entN entB; rw [unhide HE]; rfl)
      go_wp2
      go_ret2
      exact ⟨congrArg Ending.returned (unhide HF), unhide HBW⟩

set_option maxRecDepth 20000 in
set_option maxHeartbeats 4000000 in
theorem refEntry_any (m : Md) (s : ByteArray) (w : World) (h : FnsAt w m.fo m.F) (hz : m.F.length * 80 ≤ 140737488351232) :
    Calls Try.prog 10 #[.agg #[.string m.nm, .slice m.ao m.T.length m.cap, .slice m.fo m.F.length m.fc, .slice m.co m.C.length m.cc], .string s] w fun e w' => e = .returned (.tuple #[.int .i64 (entN m.F s : Int), .bool (entB m.F s)]) ∧ Below w.heap.size w w' := by
  have al := (Below.refl w.heap.size w).alloc (Nat.le_refl _) (.cells #[.string m.nm, .slice m.ao m.T.length m.cap, .slice m.fo m.F.length m.fc, .slice m.co m.C.length m.cc] 32)
  have HB := hide al
  have HC : Hid (Bx (w.alloc (.cells #[.string m.nm, .slice m.ao m.T.length m.cap, .slice m.fo m.F.length m.fc, .slice m.co m.C.length m.cc] 32)) w.heap.size 32 #[.string m.nm, .slice m.ao m.T.length m.cap, .slice m.fo m.F.length m.fc, .slice m.co m.C.length m.cc]) := hide (heap_alloc_new w _)
  have H := hide (h.below al)
  have hl : m.F.length < 9223372036854775000 := by omega
  clear al h hz
  go_enter Try.func10, Try.ntmps10
  go_upto_region 1 with fail
  generalize (w.alloc (.cells #[.string m.nm, .slice m.ao m.T.length m.cap, .slice m.fo m.F.length m.fc, .slice m.co m.C.length m.cc] 32)) = W1 at HB HC H ⊢
  have k0 := (unhide HC).c 2 rfl
  go_wp2_with fail
  go_loopw [6] (fun i wr => ∃ k : Nat, k ≤ m.F.length ∧ i = .int .i64 (k : Int) ∧ Hid (entR m.F s 0 = entR (m.F.drop k) s k) ∧ Hid (Below W1.heap.size W1 wr)) (fun i _ => m.F.length - (intOf i).toNat)
  case atStart => exact ⟨0, by omega, rfl, hide rfl, hide (Below.refl _ _)⟩
  case round =>
    obtain ⟨k, hk, rfl, HK, HR⟩ := hrel
    have q0 := ((unhide HC).below (unhide HR)).c 2 rfl
    have HBW := hide ((unhide HB).trans ((unhide HR).mono (unhide HB).size))
    by_cases hlt : k < m.F.length
    · have i1 : ((k : Nat) : Int) < ((m.F.length : Nat) : Int) := by omega
      have i0 : (0 : Int) ≤ ((k : Nat) : Int) := by omega
      have hx := List.getElem?_eq_getElem hlt
      obtain ⟨b, off, eb, hxa⟩ := (unhide H).below (unhide HR) k _ hx
      generalize m.F[k] = x at hxa hx
      have HD := hide (entR_drop (s := s) hx)
      have c0 := hxa.c0
      have c1 := hxa.c1
      have c2 := hxa.c2
      have c3 := hxa.c3
      have c4 := hxa.c4
      rw [eb] at q0
      skip
      have hal : Below wr.heap.size wr (wr.alloc (.cells #[.string x.nm, .slice x.sg.po x.sg.ps.length x.sg.pc, .int .u8 (x.sg.rt : Int), .int .i64 x.lo, .slice x.ca x.cd.length x.cc] 60)) := (Below.refl _ _).alloc (Nat.le_refl _) _
      have HAL := hide hal
      clear hx hxa eb hal
      cases hn : (x.nm.toList == s.toList)
      · have HK2 : Hid (entR m.F s 0 = entR (m.F.drop (k + 1)) s (k + 1)) := hide (by rw [unhide HK, unhide HD, hn]; rfl)
        have HR2 : Hid (Below W1.heap.size W1 wr) := hide (unhide HR)
        go_wp2
        go_roundw
        case rel => exact ⟨k + 1, by omega, by go_num, HK2, HR2⟩
        case measure => simp [intOf]; omega
      · have HE : Hid (entR m.F s 0 = some k) := hide (by rw [unhide HK, unhide HD, hn]; rfl)
        have HR2 : Hid (Below w.heap.size w wr) := hide (unhide HBW)
        have HF : Hid ((.tuple #[.int .i64 (k : Int), .bool true] : Value) = .tuple #[.int .i64 (entN m.F s : Int), .bool (entB m.F s)]) := hide (by unfold entN entB; rw [unhide HE]; rfl)
        go_wp2
        go_ret2
        exact ⟨congrArg Ending.returned (unhide HF), unhide HR2⟩
    · have i1 : ¬ ((k : Nat) : Int) < ((m.F.length : Nat) : Int) := by omega
      have HE : Hid (entR m.F s 0 = none) := hide (by rw [unhide HK, List.drop_eq_nil_of_le (by omega)]; rfl)
      have HF : Hid ((.tuple #[.int .i64 0, .bool false] : Value) = .tuple #[.int .i64 (entN m.F s : Int), .bool (entB m.F s)]) := hide (by unfold entN entB; rw [unhide HE]; rfl)
      go_wp2
      go_ret2
      exact ⟨congrArg Ending.returned (unhide HF), unhide HBW⟩
end Go.Proofs.Ytfodkpnnanbaoaa
