/-
  provisoplain.SameFunc, SameClasses, SameModule: whether both hold the same. Conditions: lengths fit.
-/
import Derived.Test.YtgelbihdcfgjcaaDoorKMd4
namespace Go.Proofs.YtgelbihdcfgjcaaDoor
open Go.RowKit
set_option maxRecDepth 20000

set_option maxRecDepth 20000 in
set_option maxHeartbeats 4000000 in
theorem SameFunc_any (x y : Fn) (w : World) (h : FnOk w x) (hg : FnOk w y) :
    Calls Tryd.prog 26 #[.agg #[.string x.nm, .slice x.sg.po x.sg.ps.length x.sg.pc, .int .u8 (x.sg.rt : Int), .int .i64 x.lo, .slice x.ca x.cd.length x.cc], .agg #[.string y.nm, .slice y.sg.po y.sg.ps.length y.sg.pc, .int .u8 (y.sg.rt : Int), .int .i64 y.lo, .slice y.ca y.cd.length y.cc]] w fun e w' => e = .returned (.bool (decide (fnC x = fnC y))) ∧ Below w.heap.size w w' := by
  have al1 := (Below.refl w.heap.size w).alloc (Nat.le_refl _) (.cells #[.string x.nm, .slice x.sg.po x.sg.ps.length x.sg.pc, .int .u8 (x.sg.rt : Int), .int .i64 x.lo, .slice x.ca x.cd.length x.cc] 40)
  have al := al1.alloc (by simp) (.cells #[.string y.nm, .slice y.sg.po y.sg.ps.length y.sg.pc, .int .u8 (y.sg.rt : Int), .int .i64 y.lo, .slice y.ca y.cd.length y.cc] 40)
  have HB := hide al
  have n1 := heap_alloc_new w (.cells #[.string x.nm, .slice x.sg.po x.sg.ps.length x.sg.pc, .int .u8 (x.sg.rt : Int), .int .i64 x.lo, .slice x.ca x.cd.length x.cc] 40)
  have n2 := heap_alloc_new (w.alloc (.cells #[.string x.nm, .slice x.sg.po x.sg.ps.length x.sg.pc, .int .u8 (x.sg.rt : Int), .int .i64 x.lo, .slice x.ca x.cd.length x.cc] 40)) (.cells #[.string y.nm, .slice y.sg.po y.sg.ps.length y.sg.pc, .int .u8 (y.sg.rt : Int), .int .i64 y.lo, .slice y.ca y.cd.length y.cc] 40)
  rw [World.size_alloc] at n2
  have HC1 : Hid (Bx ((w.alloc (.cells #[.string x.nm, .slice x.sg.po x.sg.ps.length x.sg.pc, .int .u8 (x.sg.rt : Int), .int .i64 x.lo, .slice x.ca x.cd.length x.cc] 40)).alloc (.cells #[.string y.nm, .slice y.sg.po y.sg.ps.length y.sg.pc, .int .u8 (y.sg.rt : Int), .int .i64 y.lo, .slice y.ca y.cd.length y.cc] 40)) w.heap.size 40 #[.string x.nm, .slice x.sg.po x.sg.ps.length x.sg.pc, .int .u8 (x.sg.rt : Int), .int .i64 x.lo, .slice x.ca x.cd.length x.cc]) := hide ((((Below.refl _ _).alloc (Nat.le_refl _) _).block w.heap.size (by simp)).trans n1)
  have HC2 : Hid (Bx ((w.alloc (.cells #[.string x.nm, .slice x.sg.po x.sg.ps.length x.sg.pc, .int .u8 (x.sg.rt : Int), .int .i64 x.lo, .slice x.ca x.cd.length x.cc] 40)).alloc (.cells #[.string y.nm, .slice y.sg.po y.sg.ps.length y.sg.pc, .int .u8 (y.sg.rt : Int), .int .i64 y.lo, .slice y.ca y.cd.length y.cc] 40)) (w.heap.size + 1) 40 #[.string y.nm, .slice y.sg.po y.sg.ps.length y.sg.pc, .int .u8 (y.sg.rt : Int), .int .i64 y.lo, .slice y.ca y.cd.length y.cc]) := hide n2
  have HX := hide (h.below al)
  have HY := hide (hg.below al)
  have HQ := hide (fnEq x y)
  clear al1 al n1 n2 h hg
  go_enter Tryd.func26, Tryd.ntmps26
  go_upto_region 1 with fail
  generalize ((w.alloc (.cells #[.string x.nm, .slice x.sg.po x.sg.ps.length x.sg.pc, .int .u8 (x.sg.rt : Int), .int .i64 x.lo, .slice x.ca x.cd.length x.cc] 40)).alloc (.cells #[.string y.nm, .slice y.sg.po y.sg.ps.length y.sg.pc, .int .u8 (y.sg.rt : Int), .int .i64 y.lo, .slice y.ca y.cd.length y.cc] 40)) = W1 at HB HC1 HC2 HX HY ⊢
  have HS := hide (SameSig_any x.sg y.sg W1 (unhide HX).sg (unhide HY).sg)
  have k0 := (unhide HC1).c 0 rfl
  have k1 := (unhide HC1).c 1 rfl
  have k2 := (unhide HC1).c 2 rfl
  have m0 := (unhide HC2).c 0 rfl
  have m1 := (unhide HC2).c 1 rfl
  have m2 := (unhide HC2).c 2 rfl
  cases hn : (x.nm.toList == y.nm.toList)
  · have HR : Hid (decide (fnC x = fnC y) = false) := hide (by rw [unhide HQ, hn]; rfl)
    go_wp2
    go_ret
    exact ⟨ret_bool (unhide HR).symm, unhide HB⟩
  have HQ2 : Hid (decide (fnC x = fnC y) = (decide (sgC x.sg = sgC y.sg) && decide (x.lo = y.lo) && (x.cd == y.cd))) := hide (by rw [unhide HQ, hn]; simp)
  go_wp2_with fail
  refine (unhide HS).mono ?_
  rintro e W2 ⟨rfl, hB2⟩
  have HD1 := hide ((unhide HC1).below hB2)
  have HD2 := hide ((unhide HC2).below hB2)
  have HX2 := hide ((unhide HX).below hB2)
  have HY2 := hide ((unhide HY).below hB2)
  have HB2 := hide ((unhide HB).trans (hB2.mono (unhide HB).size))
  clear k0 k1 k2 m0 m1 m2 HC1 HC2 HX HY HB HS hB2
  have k0 := (unhide HD1).c 3 rfl
  have k1 := (unhide HD1).c 4 rfl
  have m0 := (unhide HD2).c 3 rfl
  have m1 := (unhide HD2).c 4 rfl
  cases hs : decide (sgC x.sg = sgC y.sg)
  · have HR : Hid (decide (fnC x = fnC y) = false) := hide (by rw [unhide HQ2, hs]; rfl)
    clear hs hn
    go_wp2
    go_ret
    exact ⟨ret_bool (unhide HR).symm, unhide HB2⟩
  by_cases hl : x.lo = y.lo
  · have b1 : (x.lo == y.lo) = true := beq_t hl
    have HR : Hid (decide (fnC x = fnC y) = (x.cd == y.cd)) := hide (by rw [unhide HQ2, hs]; simp [hl])
    have HE := hide (Equal_any x.ca y.ca x.cc y.cc x.cd y.cd W2 (unhide HX2).code (unhide HY2).code (by have := (unhide HX2).fit; unfold maxLen; omega) (by have := (unhide HY2).fit; unfold maxLen; omega))
    clear hs hn hl
    go_wp2_with fail
    refine (unhide HE).mono ?_
    rintro e W3 ⟨rfl, q, rfl⟩
    go_wp2
    go_ret
    exact ⟨ret_bool (unhide HR).symm, belowD (unhide HB2) _⟩
  · have b1 : (x.lo == y.lo) = false := beq_f hl
    have HR : Hid (decide (fnC x = fnC y) = false) := hide (by rw [unhide HQ2, hs]; simp [hl])
    clear hs hn hl
    go_wp2
    go_ret
    exact ⟨ret_bool (unhide HR).symm, unhide HB2⟩

set_option maxHeartbeats 4000000 in
theorem SameClasses_any (ga ao : Option Addr) (gc cap : Nat) (G T : List Cl) (w : World) (hG : TabAt w ga G) (hT : TabAt w ao T) (hz : G.length * 48 ≤ 140737488351232) :
    Calls Tryd.prog 25 #[.slice ga G.length gc, .slice ao T.length cap] w fun e w' => e = .returned (.bool (eqL clC G T)) ∧ ∃ k, w' = w.drewN k := by
  have hT2 : G.length < 9223372036854775000 := by omega
  clear hz
  by_cases hl : G.length = T.length
  rotate_left
  · have HR : Hid (eqL clC G T = false) := hide (eqL_len hl)
    have e0 : (((G.length : Nat) : Int) != ((T.length : Nat) : Int)) = true := bne_t (by omega)
    clear hl
    go_enter Tryd.func25, Tryd.ntmps25
    go_wp2
    go_ret
    exact ⟨ret_bool (unhide HR).symm, 0, rfl⟩
  have e0 : (((G.length : Nat) : Int) != ((T.length : Nat) : Int)) = false := bne_f (by omega)
  have HG := hide hG
  have HT := hide hT
  have HLn := hide hl
  clear hG hT hl
  go_enter Tryd.func25, Tryd.ntmps25
  go_wp2
  go_loopw [13] (fun i wr => ∃ k : Nat, k ≤ G.length ∧ i = .int .i64 (k : Int) ∧ Hid (∀ (j : Nat) x y, j < k → G[j]? = some x → T[j]? = some y → clC x = clC y) ∧ ∃ q, wr = w.drewN q) (fun i _ => G.length - (intOf i).toNat)
  case atStart => exact ⟨0, by omega, rfl, hide (fun j x y h => by omega), 0, rfl⟩
  case round =>
    obtain ⟨k, hk, rfl, HK, q, rfl⟩ := hrel
    by_cases hlt : k < G.length
    · have i1 : ((k : Nat) : Int) < ((G.length : Nat) : Int) := by omega
      have hkT : k < T.length := by have := unhide HLn; omega
      have i2 : ((k : Nat) : Int) < ((T.length : Nat) : Int) := by omega
      have hx := List.getElem?_eq_getElem hkT
      have hy := List.getElem?_eq_getElem hlt
      obtain ⟨b, off, rfl, hxa⟩ := unhide HT k _ hx
      obtain ⟨b', off', rfl, hya⟩ := unhide HG k _ hy
      obtain ⟨W, HW⟩ : ∃ W, Hid (w.drewN q = W) := ⟨_, hide rfl⟩
      have hbW : Below w.heap.size w W := by rw [← unhide HW]; exact below_drew _ _
      have hxb := hxa.below hbW
      have hyb := hya.below hbW
      rw [unhide HW]
      generalize G[k] = y at hyb hy
      generalize T[k] = x at hxb hx
      have HE : Hid (∀ n, Calls Tryd.prog 35 #[.slice y.fo y.fs.length y.fc, .slice x.fo x.fs.length x.fc] (W.drewN n) fun e w' => e = .returned (.bool (eqL flC y.fs x.fs)) ∧ ∃ j, w' = (W.drewN n).drewN j) := hide (fun n => equalF_any _ _ _ _ _ _ _ (hyb.flds.below (below_drew _ _)) (hxb.flds.below (below_drew _ _)) hyb.fit)
      have c0 := hxb.c0
      have c1 := hxb.c1
      have c2 := hxb.c2
      have d0 := hyb.c0
      have d1 := hyb.c1
      have d2 := hyb.c2
      have HQ := hide (clEq y x)
      have HNO : Hid (decide (clC y = clC x) = false → eqL clC G T = false) := hide (fun e => eqL_no hy hx (neOfDec e))
      have HK2 : Hid (decide (clC y = clC x) = true → ∀ (j : Nat) a b, j < k + 1 → G[j]? = some a → T[j]? = some b → clC a = clC b) := hide (fun e j a b h1 h2 h3 => by
        by_cases e' : j = k
        · rw [e', hy] at h2
          rw [e', hx] at h3
          injection h2 with h2
          injection h3 with h3
          rw [← h2, ← h3]; exact eqOfDec e
        · exact unhide HK j a b (by omega) h2 h3)
      clear hx hy hxa hya hxb hyb hbW HK
      cases hn : (y.nm.toList == x.nm.toList)
      · have e1 : (y.nm.toList != x.nm.toList) = true := by rw [bne, hn]; rfl
        have HR := hide (unhide HNO (by rw [unhide HQ, hn]; rfl))
        clear HE
        go_wp2
        go_quiet (fail)
        go_wp2
        go_ret
        exact ⟨ret_bool (unhide HR).symm, q + nq, by rw [← unhide HW, drew2]⟩
      have e1 : (y.nm.toList != x.nm.toList) = false := by rw [bne, hn]; rfl
      by_cases hp : y.par = x.par
      rotate_left
      · have e2 : (y.par != x.par) = true := bne_t hp
        have HR := hide (unhide HNO (by rw [unhide HQ, hn]; simp [hp]))
        clear hp HE
        go_wp2
        go_quiet (fail)
        go_wp2
        go_ret
        exact ⟨ret_bool (unhide HR).symm, q + nq, by rw [← unhide HW, drew2]⟩
      have e2 : (y.par != x.par) = false := bne_f hp
      cases hf : eqL flC y.fs x.fs
      · rw [hf] at HE
        have HR := hide (unhide HNO (by rw [unhide HQ, hn, hf]; simp))
        clear hp hf
        go_wp2
        go_quiet ((go_at_call 35; exact Calls.quiet_of (unhide HE _)))
        go_wp2
        go_ret
        exact ⟨ret_bool (unhide HR).symm, q + nq, by rw [← unhide HW, drew2]⟩
      · rw [hf] at HE
        have HR := hide (unhide HK2 (by rw [unhide HQ, hn, hf]; simp [hp]))
        clear hp hf
        go_wp2
        go_quiet ((go_at_call 35; exact Calls.quiet_of (unhide HE _)))
        go_wp2
        go_roundw
        case rel => exact ⟨k + 1, by omega, by go_num, HR, q + nq, by rw [← unhide HW, drew2]⟩
        case measure => simp [intOf]; omega
    · have i1 : ¬ ((k : Nat) : Int) < ((G.length : Nat) : Int) := by omega
      have HR : Hid (eqL clC G T = true) := hide (eqL_yes (unhide HLn) (fun i x y h1 h2 => unhide HK i x y (by have := (List.getElem?_eq_some_iff.1 h1).1; omega) h1 h2))
      go_wp2
      go_ret
      exact ⟨ret_bool (unhide HR).symm, _, rfl⟩

/-- Whether two modules hold the same. -/
def mdEq (x y : Md) : Bool := (x.nm.toList == y.nm.toList) && eqL clC x.T y.T && eqL fnC x.F y.F && eqL bsC x.C y.C

set_option maxRecDepth 20000 in
set_option maxHeartbeats 8000000 in
theorem SameModule_any (x y : Md) (w : World) (h : MdOk w x) (hg : MdOk w y) :
    Calls Tryd.prog 19 #[.agg #[.string x.nm, .slice x.ao x.T.length x.cap, .slice x.fo x.F.length x.fc, .slice x.co x.C.length x.cc], .agg #[.string y.nm, .slice y.ao y.T.length y.cap, .slice y.fo y.F.length y.fc, .slice y.co y.C.length y.cc]] w fun e w' => e = .returned (.bool (mdEq x y)) ∧ Below w.heap.size w w' := by
  have al1 := (Below.refl w.heap.size w).alloc (Nat.le_refl _) (.cells #[.string x.nm, .slice x.ao x.T.length x.cap, .slice x.fo x.F.length x.fc, .slice x.co x.C.length x.cc] 26)
  have al := al1.alloc (by simp) (.cells #[.string y.nm, .slice y.ao y.T.length y.cap, .slice y.fo y.F.length y.fc, .slice y.co y.C.length y.cc] 26)
  have HB := hide al
  have n1 := heap_alloc_new w (.cells #[.string x.nm, .slice x.ao x.T.length x.cap, .slice x.fo x.F.length x.fc, .slice x.co x.C.length x.cc] 26)
  have n2 := heap_alloc_new (w.alloc (.cells #[.string x.nm, .slice x.ao x.T.length x.cap, .slice x.fo x.F.length x.fc, .slice x.co x.C.length x.cc] 26)) (.cells #[.string y.nm, .slice y.ao y.T.length y.cap, .slice y.fo y.F.length y.fc, .slice y.co y.C.length y.cc] 26)
  rw [World.size_alloc] at n2
  have HC1 : Hid (Bx ((w.alloc (.cells #[.string x.nm, .slice x.ao x.T.length x.cap, .slice x.fo x.F.length x.fc, .slice x.co x.C.length x.cc] 26)).alloc (.cells #[.string y.nm, .slice y.ao y.T.length y.cap, .slice y.fo y.F.length y.fc, .slice y.co y.C.length y.cc] 26)) w.heap.size 26 #[.string x.nm, .slice x.ao x.T.length x.cap, .slice x.fo x.F.length x.fc, .slice x.co x.C.length x.cc]) := hide ((((Below.refl _ _).alloc (Nat.le_refl _) _).block w.heap.size (by simp)).trans n1)
  have HC2 : Hid (Bx ((w.alloc (.cells #[.string x.nm, .slice x.ao x.T.length x.cap, .slice x.fo x.F.length x.fc, .slice x.co x.C.length x.cc] 26)).alloc (.cells #[.string y.nm, .slice y.ao y.T.length y.cap, .slice y.fo y.F.length y.fc, .slice y.co y.C.length y.cc] 26)) (w.heap.size + 1) 26 #[.string y.nm, .slice y.ao y.T.length y.cap, .slice y.fo y.F.length y.fc, .slice y.co y.C.length y.cc]) := hide n2
  have HX := hide (h.below al)
  have HY := hide (hg.below al)
  have HQ : Hid (mdEq x y = ((x.nm.toList == y.nm.toList) && eqL clC x.T y.T && eqL fnC x.F y.F && eqL bsC x.C y.C)) := hide rfl
  have hlf : x.F.length < 9223372036854775000 := by have := h.fz; omega
  have hlc : x.C.length < 9223372036854775000 := by have := h.cz; omega
  clear al1 al n1 n2 h hg
  go_enter Tryd.func19, Tryd.ntmps19
  go_upto_region 1 with fail
  generalize ((w.alloc (.cells #[.string x.nm, .slice x.ao x.T.length x.cap, .slice x.fo x.F.length x.fc, .slice x.co x.C.length x.cc] 26)).alloc (.cells #[.string y.nm, .slice y.ao y.T.length y.cap, .slice y.fo y.F.length y.fc, .slice y.co y.C.length y.cc] 26)) = W1 at HB HC1 HC2 HX HY ⊢
  have HS := hide (SameClasses_any x.ao y.ao x.cap y.cap x.T y.T W1 (unhide HX).tab (unhide HY).tab (unhide HX).tz)
  have k0 := (unhide HC1).c 0 rfl
  have k1 := (unhide HC1).c 1 rfl
  have k2 := (unhide HC1).c 2 rfl
  have k3 := (unhide HC1).c 3 rfl
  have m0 := (unhide HC2).c 0 rfl
  have m1 := (unhide HC2).c 1 rfl
  have m2 := (unhide HC2).c 2 rfl
  have m3 := (unhide HC2).c 3 rfl
  cases hn : (x.nm.toList == y.nm.toList)
  · have HR : Hid (mdEq x y = false) := hide (by rw [unhide HQ, hn]; rfl)
    have e1 : (x.nm.toList != y.nm.toList) = true := by rw [bne, hn]; rfl
    go_wp2
    go_ret
    exact ⟨ret_bool (unhide HR).symm, unhide HB⟩
  have e1 : (x.nm.toList != y.nm.toList) = false := by rw [bne, hn]; rfl
  have HQ2 : Hid (mdEq x y = (eqL clC x.T y.T && eqL fnC x.F y.F && eqL bsC x.C y.C)) := hide (by rw [unhide HQ, hn]; simp)
  clear HQ
  go_wp2_with fail
  refine (unhide HS).mono ?_
  rintro e W2 ⟨rfl, q, rfl⟩
  cases hs : eqL clC x.T y.T
  · have HR : Hid (mdEq x y = false) := hide (by rw [unhide HQ2, hs]; rfl)
    clear hs
    go_wp2
    go_ret
    exact ⟨ret_bool (unhide HR).symm, belowD (unhide HB) _⟩
  have HQ3 : Hid (mdEq x y = (eqL fnC x.F y.F && eqL bsC x.C y.C)) := hide (by rw [unhide HQ2, hs]; simp)
  clear hs HQ2
  by_cases hf : x.F.length = y.F.length
  rotate_left
  · have HR : Hid (mdEq x y = false) := hide (by rw [unhide HQ3, eqL_len hf]; rfl)
    have b1 : (((x.F.length : Nat) : Int) != ((y.F.length : Nat) : Int)) = true := bne_t (by omega)
    clear hf
    go_wp2
    go_ret
    exact ⟨ret_bool (unhide HR).symm, belowD (unhide HB) _⟩
  have b1 : (((x.F.length : Nat) : Int) != ((y.F.length : Nat) : Int)) = false := bne_f (by omega)
  have HFL := hide hf
  clear hf
  by_cases hc : x.C.length = y.C.length
  rotate_left
  · have HR : Hid (mdEq x y = false) := hide (by rw [unhide HQ3, eqL_len hc]; simp)
    have b2 : (((x.C.length : Nat) : Int) != ((y.C.length : Nat) : Int)) = true := bne_t (by omega)
    clear hc
    go_wp2
    go_ret
    exact ⟨ret_bool (unhide HR).symm, belowD (unhide HB) _⟩
  have b2 : (((x.C.length : Nat) : Int) != ((y.C.length : Nat) : Int)) = false := bne_f (by omega)
  have HCL := hide hc
  clear hc HS
  obtain ⟨W3, HW3⟩ : ∃ W3, Hid (W1.drewN q = W3) := ⟨_, hide rfl⟩
  rw [unhide HW3]
  have hb3 : Below W1.heap.size W1 W3 := by rw [← unhide HW3]; exact below_drew _ _
  have HB3 := hide ((unhide HB).trans (hb3.mono (unhide HB).size))
  have HD1 := hide ((unhide HC1).below hb3)
  have HD2 := hide ((unhide HC2).below hb3)
  have HX3 := hide ((unhide HX).below hb3)
  have HY3 := hide ((unhide HY).below hb3)
  clear k0 k1 k2 k3 m0 m1 m2 m3 HB HC1 HC2 HX HY hb3 HW3 W1
  have k2 := (unhide HD1).c 2 rfl
  have k3 := (unhide HD1).c 3 rfl
  have m2 := (unhide HD2).c 2 rfl
  have m3 := (unhide HD2).c 3 rfl
  go_wp2_with fail
  clear k2 k3 m2 m3
  go_loopw [41] (fun i wr => ∃ (k : Nat), k ≤ x.F.length ∧ i = .int .i64 (k : Int) ∧ Hid (∀ (j : Nat) a b, j < k → x.F[j]? = some a → y.F[j]? = some b → fnC a = fnC b) ∧ Hid (Below W3.heap.size W3 wr)) (fun i _ => x.F.length - (intOf i).toNat)
  case atStart => exact ⟨0, by omega, rfl, hide (fun j a b h => by omega), hide (Below.refl _ _)⟩
  case round =>
    obtain ⟨k, hk, rfl, HK, HR⟩ := hrel
    by_cases hlt : k < x.F.length
    · have i1 : ((k : Nat) : Int) < ((x.F.length : Nat) : Int) := by omega
      have hlm : k < y.F.length := by have := unhide HFL; omega
      have i2 : ((k : Nat) : Int) < ((y.F.length : Nat) : Int) := by omega
      have i0 : (0 : Int) ≤ ((k : Nat) : Int) := by omega
      have hx := List.getElem?_eq_getElem hlt
      have hy := List.getElem?_eq_getElem hlm
      obtain ⟨b, off, eb, hxa⟩ := (unhide HX3).fns.below (unhide HR) k _ hx
      obtain ⟨b', off', eb', hya⟩ := (unhide HY3).fns.below (unhide HR) k _ hy
      generalize x.F[k] = f at hxa hx
      generalize y.F[k]'hlm = f' at hya hy
      have HNO : Hid (decide (fnC f = fnC f') = false → mdEq x y = false) := hide (fun e => by rw [unhide HQ3, eqL_no hx hy (neOfDec e)]; rfl)
      have HK2 : Hid (decide (fnC f = fnC f') = true → ∀ (j : Nat) a b, j < k + 1 → x.F[j]? = some a → y.F[j]? = some b → fnC a = fnC b) := hide (fun e j a b h1 h2 h3 => by
        by_cases e' : j = k
        · rw [e', hx] at h2
          rw [e', hy] at h3
          injection h2 with h2
          injection h3 with h3
          rw [← h2, ← h3]; exact eqOfDec e
        · exact unhide HK j a b (by omega) h2 h3)
      have HCC := hide (SameFunc_any f f' wr.drew (hxa.ok.below (show Below wr.heap.size wr wr.drew from belowD (Below.refl _ _) 1)) (hya.ok.below (show Below wr.heap.size wr wr.drew from belowD (Below.refl _ _) 1)))
      have c0 := hxa.c0
      have c1 := hxa.c1
      have c2 := hxa.c2
      have c3 := hxa.c3
      have c4 := hxa.c4
      have d0 := hya.c0
      have d1 := hya.c1
      have d2 := hya.c2
      have d3 := hya.c3
      have d4 := hya.c4
      have p1 := ((unhide HD1).below (unhide HR)).c 2 rfl
      have p2 := ((unhide HD2).below (unhide HR)).c 2 rfl
      rw [eb] at p1
      rw [eb'] at p2
      have l1 := World.block_lt_of_cell? wr _ c0
      have l2 := World.block_lt_of_cell? wr _ d0
      have l3 := World.block_lt_of_cell? wr _ p1
      have l4 := World.block_lt_of_cell? wr _ p2
      have HBB := hide (fun W (hW : Below wr.heap.size wr.drew W) => (unhide HR).trans ((show Below wr.heap.size wr W from (show Below wr.heap.size wr wr.drew from belowD (Below.refl _ _) 1).trans hW).mono (unhide HR).size))
      clear hx hy hxa hya HK eb eb'
      go_upto_region 6 with fail
      go_region_held3 (fun w' => w'.cell? ⟨w.heap.size, 2, none⟩ = some (.slice (some ⟨b, off, none⟩) x.F.length x.fc) ∧ w'.cell? ⟨w.heap.size + 1, 2, none⟩ = some (.slice (some ⟨b', off', none⟩) y.F.length y.fc) ∧ w'.cell? ⟨b, off + k * 5, none⟩ = some (.string f.nm) ∧ w'.cell? ⟨b, off + k * 5 + 1, none⟩ = some (.slice f.sg.po f.sg.ps.length f.sg.pc) ∧ w'.cell? ⟨b, off + k * 5 + 2, none⟩ = some (.int .u8 (f.sg.rt : Int)) ∧ w'.cell? ⟨b, off + k * 5 + 3, none⟩ = some (.int .i64 f.lo) ∧ w'.cell? ⟨b, off + k * 5 + 4, none⟩ = some (.slice f.ca f.cd.length f.cc) ∧ w'.cell? ⟨b', off' + k * 5, none⟩ = some (.string f'.nm) ∧ w'.cell? ⟨b', off' + k * 5 + 1, none⟩ = some (.slice f'.sg.po f'.sg.ps.length f'.sg.pc) ∧ w'.cell? ⟨b', off' + k * 5 + 2, none⟩ = some (.int .u8 (f'.sg.rt : Int)) ∧ w'.cell? ⟨b', off' + k * 5 + 3, none⟩ = some (.int .i64 f'.lo) ∧ w'.cell? ⟨b', off' + k * 5 + 4, none⟩ = some (.slice f'.ca f'.cd.length f'.cc)) (first | exact ⟨(hB2.cell (p := ⟨w.heap.size, 2, none⟩) l3).trans p1, (hB2.cell (p := ⟨w.heap.size + 1, 2, none⟩) l4).trans p2, (hB2.cell (p := ⟨b, off + k * 5, none⟩) l1).trans c0, (hB2.cell (p := ⟨b, off + k * 5 + 1, none⟩) l1).trans c1, (hB2.cell (p := ⟨b, off + k * 5 + 2, none⟩) l1).trans c2, (hB2.cell (p := ⟨b, off + k * 5 + 3, none⟩) l1).trans c3, (hB2.cell (p := ⟨b, off + k * 5 + 4, none⟩) l1).trans c4, (hB2.cell (p := ⟨b', off' + k * 5, none⟩) l2).trans d0, (hB2.cell (p := ⟨b', off' + k * 5 + 1, none⟩) l2).trans d1, (hB2.cell (p := ⟨b', off' + k * 5 + 2, none⟩) l2).trans d2, (hB2.cell (p := ⟨b', off' + k * 5 + 3, none⟩) l2).trans d3, (hB2.cell (p := ⟨b', off' + k * 5 + 4, none⟩) l2).trans d4⟩ | go_keep) (first | (go_at_call 26; refine (unhide HCC).mono ?_; rintro e w2 ⟨rfl, hB2⟩) | fail)
      have HR2 := hide (unhide HBB _ hB2)
      cases hd : decide (fnC f = fnC f')
      · have HE := hide (unhide HNO hd)
        clear hB2 hd
        go_wp2
        go_ret
        exact ⟨ret_bool (unhide HE).symm, (unhide HB3).trans ((unhide HR2).mono (unhide HB3).size)⟩
      · have HE := hide (unhide HK2 hd)
        clear hB2 hd
        go_wp2
        go_roundw
        case rel => exact ⟨k + 1, by omega, by go_num, HE, HR2⟩
        case measure => simp [intOf]; omega
    · have i1 : ¬ ((k : Nat) : Int) < ((x.F.length : Nat) : Int) := by omega
      have HQ4 : Hid (mdEq x y = eqL bsC x.C y.C) := hide (by rw [unhide HQ3, eqL_yes (unhide HFL) (fun i a b h1 h2 => unhide HK i a b (by have := (List.getElem?_eq_some_iff.1 h1).1; omega) h1 h2)]; rfl)
      have k3 := ((unhide HD1).below (unhide HR)).c 3 rfl
      go_wp2_with fail
      clear k3 HK HQ3
      obtain ⟨W4, HW4⟩ : ∃ W4, Hid (wr = W4) := ⟨_, hide rfl⟩
      rw [unhide HW4] at HR ⊢
      have HB4 := hide ((unhide HB3).trans ((unhide HR).mono (unhide HB3).size))
      have HE1 := hide ((unhide HD1).below (unhide HR))
      have HE2 := hide ((unhide HD2).below (unhide HR))
      have HX4 := hide ((unhide HX3).below (unhide HR))
      have HY4 := hide ((unhide HY3).below (unhide HR))
      clear HB3 HD1 HD2 HX3 HY3 HR HW4
      go_loopw [60] (fun i wr => ∃ (k : Nat), k ≤ x.C.length ∧ i = .int .i64 (k : Int) ∧ Hid (∀ (j : Nat) a b, j < k → x.C[j]? = some a → y.C[j]? = some b → bsC a = bsC b) ∧ ∃ q, wr = W4.drewN q) (fun i _ => x.C.length - (intOf i).toNat)
      case atStart => exact ⟨0, by omega, rfl, hide (fun j a b h => by omega), 0, rfl⟩
      case round =>
        obtain ⟨k, hk, rfl, HK, q, rfl⟩ := hrel
        by_cases hlt : k < x.C.length
        · have i1 : ((k : Nat) : Int) < ((x.C.length : Nat) : Int) := by omega
          have hlm : k < y.C.length := by have := unhide HCL; omega
          have i2 : ((k : Nat) : Int) < ((y.C.length : Nat) : Int) := by omega
          have i0 : (0 : Int) ≤ ((k : Nat) : Int) := by omega
          have hx := List.getElem?_eq_getElem hlt
          have hy := List.getElem?_eq_getElem hlm
          obtain ⟨W, HW⟩ : ∃ W, Hid (W4.drewN q = W) := ⟨_, hide rfl⟩
          have hbW : Below W4.heap.size W4 W := by rw [← unhide HW]; exact below_drew _ _
          obtain ⟨b, off, eb, hxa⟩ := (unhide HX4).cts.below hbW k _ hx
          obtain ⟨b', off', eb', hya⟩ := (unhide HY4).cts.below hbW k _ hy
          rw [unhide HW]
          generalize x.C[k] = f at hxa hx
          generalize y.C[k]'hlm = f' at hya hy
          have HNO : Hid ((f.cd == f'.cd) = false → mdEq x y = false) := hide (fun e => by rw [unhide HQ4]; exact eqL_no hx hy (by unfold bsC; exact beq_eq_false_iff_ne.1 e))
          have HK2 : Hid ((f.cd == f'.cd) = true → ∀ (j : Nat) a b, j < k + 1 → x.C[j]? = some a → y.C[j]? = some b → bsC a = bsC b) := hide (fun e j a b h1 h2 h3 => by
            by_cases e' : j = k
            · rw [e', hx] at h2
              rw [e', hy] at h3
              injection h2 with h2
              injection h3 with h3
              rw [← h2, ← h3]; unfold bsC; exact beq_iff_eq.1 e
            · exact unhide HK j a b (by omega) h2 h3)
          have HCC : Hid (∀ n, Calls Tryd.prog 27 #[.slice f.ca f.cd.length f.cc, .slice f'.ca f'.cd.length f'.cc] (W.drewN n) fun e w' => e = .returned (.bool (f.cd == f'.cd)) ∧ ∃ j, w' = (W.drewN n).drewN j) := hide (fun n => Equal_any _ _ _ _ _ _ _ (hxa.code.drewN n) (hya.code.drewN n) (by have := hxa.fit; unfold maxLen; omega) (by have := hya.fit; unfold maxLen; omega))
          have c0 := hxa.c0
          have d0 := hya.c0
          have p1 := ((unhide HE1).below hbW).c 3 rfl
          have p2 := ((unhide HE2).below hbW).c 3 rfl
          rw [eb] at p1
          rw [eb'] at p2
          clear hx hy hxa hya HK eb eb' hbW
          cases hd : (f.cd == f'.cd)
          · have HE := hide (unhide HNO hd)
            rw [hd] at HCC
            clear hd
            go_wp2
            go_quiet ((go_at_call 27; exact Calls.quiet_of (unhide HCC _)))
            go_wp2
            go_ret
            exact ⟨ret_bool (unhide HE).symm, by rw [← unhide HW]; exact belowD (belowD (unhide HB4) _) _⟩
          · have HE := hide (unhide HK2 hd)
            rw [hd] at HCC
            clear hd
            go_wp2
            go_quiet ((go_at_call 27; exact Calls.quiet_of (unhide HCC _)))
            go_wp2
            go_roundw
            case rel => exact ⟨k + 1, by omega, by go_num, HE, q + nq, by rw [← unhide HW, drew2]⟩
            case measure => simp [intOf]; omega
        · have i1 : ¬ ((k : Nat) : Int) < ((x.C.length : Nat) : Int) := by omega
          have HE : Hid (mdEq x y = true) := hide (by rw [unhide HQ4]; exact eqL_yes (unhide HCL) (fun i a b h1 h2 => unhide HK i a b (by have := (List.getElem?_eq_some_iff.1 h1).1; omega) h1 h2))
          go_wp2
          go_ret
          exact ⟨ret_bool (unhide HE).symm, belowD (unhide HB4) _⟩
end Go.Proofs.YtgelbihdcfgjcaaDoor
