/-
  Texts of contracts and plain lemmas, one behind another; each says at its head what it holds.
-/
import Derived.Test.YtibgfdjopikafaaGreatDoorKMd2
import Derived.Laws.IdiomStrings
import Derived.Deep.MidRow
import Derived.Test.YtibgfdjopikafaaGreatDoorJCK
/-
  What modules hold, plainly, and the contracts that compare: slices.Equal at fields and at types, provisoplain.SameSig, SameFunc, SameClasses: whether both hold the same. Conditions: lengths fit.
-/
namespace Go.Proofs.YtibgfdjopikafaaGreatDoor
open Go.RowKit
set_option maxRecDepth 20000

def flC (f : Fl) : List UInt8 × Nat := (f.nm.toList, f.ty)
def clC (x : Cl) : List UInt8 × Int × List (List UInt8 × Nat) := (x.nm.toList, x.par, x.fs.map flC)
def sgC (s : Sg) : List Nat × Nat := (s.ps, s.rt)
def fnC (f : Fn) : List UInt8 × (List Nat × Nat) × Int × List UInt8 := (f.nm.toList, sgC f.sg, f.lo, f.cd)
def bsC (x : Bs) : List UInt8 := x.cd
def eqL {α β : Type} [DecidableEq β] (c : α → β) (L M : List α) : Bool := decide (L.map c = M.map c)
theorem eqL_no {α β : Type} [DecidableEq β] {c : α → β} {L M : List α} {i : Nat} {x y : α} (hx : L[i]? = some x) (hy : M[i]? = some y) (h : c x ≠ c y) : eqL c L M = false := by
  unfold eqL
  rw [decide_eq_false_iff_not]
  intro e
  have := congrArg (fun l => l[i]?) e
  simp only [List.getElem?_map, hx, hy, Option.map_some] at this
  exact h (Option.some.inj this)
theorem eqL_len {α β : Type} [DecidableEq β] {c : α → β} {L M : List α} (h : L.length ≠ M.length) : eqL c L M = false := by
  unfold eqL
  rw [decide_eq_false_iff_not]
  intro e
  have := congrArg List.length e
  simp at this
  exact h this
theorem eqL_yes {α β : Type} [DecidableEq β] {c : α → β} {L M : List α} (hl : L.length = M.length) (h : ∀ (i : Nat) x y, L[i]? = some x → M[i]? = some y → c x = c y) : eqL c L M = true := by
  unfold eqL
  rw [decide_eq_true_iff]
  apply List.ext_getElem?
  intro i
  simp only [List.getElem?_map]
  by_cases hi : i < L.length
  · have hx := List.getElem?_eq_getElem hi
    have hy := List.getElem?_eq_getElem (show i < M.length by omega)
    rw [hx, hy, Option.map_some, Option.map_some, h i _ _ hx hy]
  · rw [List.getElem?_eq_none (by omega), List.getElem?_eq_none (by omega)]
theorem decP {p q : Prop} [Decidable p] [Decidable q] (h : p ↔ q) : decide p = decide q := by simp [h]
theorem beqD {α : Type} [DecidableEq α] (a b : α) : (a == b) = decide (a = b) := rfl
theorem fnEq (x y : Fn) : decide (fnC x = fnC y) = ((x.nm.toList == y.nm.toList) && decide (sgC x.sg = sgC y.sg) && decide (x.lo = y.lo) && (x.cd == y.cd)) := by
  unfold fnC
  rw [Bool.eq_iff_iff]
  simp [Prod.ext_iff, and_assoc]
theorem sgEq (x y : Sg) : decide (sgC x = sgC y) = (decide (x.rt = y.rt) && decide (x.ps = y.ps)) := by
  unfold sgC
  rw [Bool.eq_iff_iff]
  simp [Prod.ext_iff, and_comm]
theorem clEq (x y : Cl) : decide (clC x = clC y) = ((x.nm.toList == y.nm.toList) && decide (x.par = y.par) && eqL flC x.fs y.fs) := by
  unfold clC eqL
  rw [Bool.eq_iff_iff]
  simp [Prod.ext_iff, and_assoc]
theorem flEq (x y : Fl) : decide (flC x = flC y) = ((x.nm.toList == y.nm.toList) && decide (x.ty = y.ty)) := by
  unfold flC
  rw [Bool.eq_iff_iff]
  simp [Prod.ext_iff]
theorem neOfDec {p : Prop} [Decidable p] (h : decide p = false) : ¬ p := by simpa using h
theorem eqOfDec {p : Prop} [Decidable p] (h : decide p = true) : p := by simpa using h
theorem intOfNat {a b : Nat} (h : a ≠ b) : ((a : Int) == (b : Int)) = false := beq_f (by omega)
theorem intOfNatT {a b : Nat} (h : a = b) : ((a : Int) == (b : Int)) = true := beq_t (by omega)

set_option maxHeartbeats 2000000 in
theorem equalF_any (fo go : Option Addr) (fc gc : Nat) (l m : List Fl) (w : World) (h : FsAt w fo l) (hg : FsAt w go m) (hb : l.length * 24 ≤ 140737488351232) :
    Calls Tryz.prog 64 #[.slice fo l.length fc, .slice go m.length gc] w fun e w' => e = .returned (.bool (eqL flC l m)) ∧ ∃ k, w' = w.drewN k := by
  have hb' : l.length < 9223372036854775000 := by omega
  clear hb
  by_cases hl : l.length = m.length
  rotate_left
  · have HR : Hid (eqL flC l m = false) := hide (eqL_len hl)
    have e0 : (((l.length : Nat) : Int) != ((m.length : Nat) : Int)) = true := bne_t (by omega)
    clear hl
    go_enter Tryz.func64, Tryz.ntmps64
    go_wp2
    go_ret
    exact ⟨ret_bool (unhide HR).symm, 0, rfl⟩
  have e0 : (((l.length : Nat) : Int) != ((m.length : Nat) : Int)) = false := bne_f (by omega)
  have HL := hide hl
  clear hl
  go_enter Tryz.func64, Tryz.ntmps64
  go_wp2
  go_loopw [13] (fun i wr => ∃ k : Nat, k ≤ l.length ∧ i = .int .i64 (k : Int) ∧ Hid (∀ (j : Nat) x y, j < k → l[j]? = some x → m[j]? = some y → flC x = flC y) ∧ ∃ q, wr = w.drewN q) (fun i _ => l.length - (intOf i).toNat)
  case atStart => exact ⟨0, by omega, rfl, hide (fun j x y h => by omega), 0, rfl⟩
  case round =>
    obtain ⟨k, hk, rfl, HK, q, rfl⟩ := hrel
    by_cases hlt : k < l.length
    · have i1 : ((k : Nat) : Int) < ((l.length : Nat) : Int) := by omega
      have hltm : k < m.length := by have := unhide HL; omega
      have i2 : ((k : Nat) : Int) < ((m.length : Nat) : Int) := by omega
      have hx := List.getElem?_eq_getElem hlt
      have hy := List.getElem?_eq_getElem hltm
      obtain ⟨b, off, rfl, hxa⟩ := h k _ hx
      obtain ⟨b', off', rfl, hya⟩ := hg k _ hy
      have d0 := hxa.c0
      have d1 := hxa.c1
      have g0 := hya.c0
      have g1 := hya.c1
      have HX := hide hx
      have HY := hide hy
      generalize l[k] = f at d0 d1 HX
      generalize m[k] = f' at g0 g1 HY
      clear hx hy hxa hya h hg
      have HE := hide (flEq f f')
      have HNO : Hid (decide (flC f = flC f') = false → eqL flC l m = false) := hide (fun e => eqL_no (unhide HX) (unhide HY) (neOfDec e))
      have HK2 : Hid (decide (flC f = flC f') = true → ∀ (j : Nat) x y, j < k + 1 → l[j]? = some x → m[j]? = some y → flC x = flC y) := hide (fun e j x y h1 h2 h3 => by
        by_cases e' : j = k
        · rw [e', unhide HX] at h2
          rw [e', unhide HY] at h3
          injection h2 with h2
          injection h3 with h3
          rw [← h2, ← h3]; exact eqOfDec e
        · exact unhide HK j x y (by omega) h2 h3)
      cases hn : (f.nm.toList == f'.nm.toList)
      · have HR := hide (unhide HNO (by rw [unhide HE, hn]; rfl))
        by_cases ht : f.ty = f'.ty
        · have t1 := intOfNatT ht
          clear ht
          go_wp2
          go_quiet (fail)
          go_wp2
          go_ret
          exact ⟨ret_bool (unhide HR).symm, _, drew2 _ _ _⟩
        · have t1 := intOfNat ht
          clear ht
          go_wp2
          go_quiet (fail)
          go_wp2
          go_ret
          exact ⟨ret_bool (unhide HR).symm, _, drew2 _ _ _⟩
      · by_cases ht : f.ty = f'.ty
        · have t1 := intOfNatT ht
          have HR := hide (unhide HK2 (by rw [unhide HE, hn]; simp [ht]))
          clear ht
          go_wp2
          go_quiet (fail)
          go_wp2
          go_roundw
          case rel => exact ⟨k + 1, by omega, by go_num, HR, _, rfl⟩
          case measure => simp [intOf]; omega
        · have t1 := intOfNat ht
          have HR := hide (unhide HNO (by rw [unhide HE, hn]; simp [ht]))
          clear ht
          go_wp2
          go_quiet (fail)
          go_wp2
          go_ret
          exact ⟨ret_bool (unhide HR).symm, _, drew2 _ _ _⟩
    · have i1 : ¬ ((k : Nat) : Int) < ((l.length : Nat) : Int) := by omega
      have HR : Hid (eqL flC l m = true) := hide (eqL_yes (unhide HL) (fun i x y h1 h2 => unhide HK i x y (by have := (List.getElem?_eq_some_iff.1 h1).1; omega) h1 h2))
      go_wp2
      go_ret
      exact ⟨ret_bool (unhide HR).symm, _, rfl⟩

set_option maxHeartbeats 2000000 in
theorem equalP_any (fo go : Option Addr) (fc gc : Nat) (l m : List Nat) (w : World) (h : PAt w fo l) (hg : PAt w go m) (hb : l.length ≤ 140737488351232) :
    Calls Tryz.prog 99 #[.slice fo l.length fc, .slice go m.length gc] w fun e w' => e = .returned (.bool (decide (l = m))) ∧ ∃ k, w' = w.drewN k := by
  have hmm : decide (l = m) = eqL (fun x => x) l m := by unfold eqL; simp
  rw [hmm]
  clear hmm
  have hb' : l.length < 9223372036854775000 := by omega
  clear hb
  by_cases hl : l.length = m.length
  rotate_left
  · have HR : Hid (eqL (fun x => x) l m = false) := hide (eqL_len hl)
    have e0 : (((l.length : Nat) : Int) != ((m.length : Nat) : Int)) = true := bne_t (by omega)
    clear hl
    go_enter Tryz.func99, Tryz.ntmps99
    go_wp2
    go_ret
    exact ⟨ret_bool (unhide HR).symm, 0, rfl⟩
  have e0 : (((l.length : Nat) : Int) != ((m.length : Nat) : Int)) = false := bne_f (by omega)
  have HL := hide hl
  clear hl
  go_enter Tryz.func99, Tryz.ntmps99
  go_wp2
  go_loopw [13] (fun i wr => ∃ k : Nat, k ≤ l.length ∧ i = .int .i64 (k : Int) ∧ Hid (∀ (j : Nat) x y, j < k → l[j]? = some x → m[j]? = some y → x = y) ∧ ∃ q, wr = w.drewN q) (fun i _ => l.length - (intOf i).toNat)
  case atStart => exact ⟨0, by omega, rfl, hide (fun j x y h => by omega), 0, rfl⟩
  case round =>
    obtain ⟨k, hk, rfl, HK, q, rfl⟩ := hrel
    by_cases hlt : k < l.length
    · have i1 : ((k : Nat) : Int) < ((l.length : Nat) : Int) := by omega
      have hltm : k < m.length := by have := unhide HL; omega
      have i2 : ((k : Nat) : Int) < ((m.length : Nat) : Int) := by omega
      have hx := List.getElem?_eq_getElem hlt
      have hy := List.getElem?_eq_getElem hltm
      obtain ⟨b, off, rfl, d0⟩ := h k _ hx
      obtain ⟨b', off', rfl, g0⟩ := hg k _ hy
      have HX := hide hx
      have HY := hide hy
      generalize l[k] = f at d0 HX
      generalize m[k] = f' at g0 HY
      clear hx hy h hg
      by_cases ht : f = f'
      · have t1 : ((f : Int) != (f' : Int)) = false := bne_f (by omega)
        have HR : Hid (∀ (j : Nat) x y, j < k + 1 → l[j]? = some x → m[j]? = some y → x = y) := hide (fun j x y h1 h2 h3 => by
          by_cases e' : j = k
          · rw [e', unhide HX] at h2
            rw [e', unhide HY] at h3
            injection h2 with h2
            injection h3 with h3
            rw [← h2, ← h3]; exact ht
          · exact unhide HK j x y (by omega) h2 h3)
        clear ht
        go_wp2
        go_quiet (fail)
        go_wp2
        go_roundw
        case rel => exact ⟨k + 1, by omega, by go_num, HR, _, rfl⟩
        case measure => simp [intOf]; omega
      · have t1 : ((f : Int) != (f' : Int)) = true := bne_t (by omega)
        have HR : Hid (eqL (fun x => x) l m = false) := hide (eqL_no (unhide HX) (unhide HY) ht)
        clear ht
        go_wp2
        go_quiet (fail)
        go_wp2
        go_ret
        exact ⟨ret_bool (unhide HR).symm, _, drew2 _ _ _⟩
    · have i1 : ¬ ((k : Nat) : Int) < ((l.length : Nat) : Int) := by omega
      have HR : Hid (eqL (fun x => x) l m = true) := hide (eqL_yes (unhide HL) (fun i x y h1 h2 => unhide HK i x y (by have := (List.getElem?_eq_some_iff.1 h1).1; omega) h1 h2))
      go_wp2
      go_ret
      exact ⟨ret_bool (unhide HR).symm, _, rfl⟩

set_option maxRecDepth 20000 in
set_option maxHeartbeats 2000000 in
theorem SameSig_any (x y : Sg) (w : World) (h : SgOk w x) (hg : SgOk w y) :
    Calls Tryz.prog 65 #[.agg #[.slice x.po x.ps.length x.pc, .int .u8 (x.rt : Int)], .agg #[.slice y.po y.ps.length y.pc, .int .u8 (y.rt : Int)]] w fun e w' => e = .returned (.bool (decide (sgC x = sgC y))) ∧ Below w.heap.size w w' := by
  have al1 := (Below.refl w.heap.size w).alloc (Nat.le_refl _) (.cells #[.slice x.po x.ps.length x.pc, .int .u8 (x.rt : Int)] 42)
  have al := al1.alloc (by simp) (.cells #[.slice y.po y.ps.length y.pc, .int .u8 (y.rt : Int)] 42)
  have HB := hide al
  have n1 := heap_alloc_new w (.cells #[.slice x.po x.ps.length x.pc, .int .u8 (x.rt : Int)] 42)
  have n2 := heap_alloc_new (w.alloc (.cells #[.slice x.po x.ps.length x.pc, .int .u8 (x.rt : Int)] 42)) (.cells #[.slice y.po y.ps.length y.pc, .int .u8 (y.rt : Int)] 42)
  rw [World.size_alloc] at n2
  have HC1 : Hid (SBx ((w.alloc (.cells #[.slice x.po x.ps.length x.pc, .int .u8 (x.rt : Int)] 42)).alloc (.cells #[.slice y.po y.ps.length y.pc, .int .u8 (y.rt : Int)] 42)) w.heap.size (.slice x.po x.ps.length x.pc) x.rt) := hide ((((Below.refl _ _).alloc (Nat.le_refl _) _).block w.heap.size (by simp)).trans n1)
  have HC2 : Hid (SBx ((w.alloc (.cells #[.slice x.po x.ps.length x.pc, .int .u8 (x.rt : Int)] 42)).alloc (.cells #[.slice y.po y.ps.length y.pc, .int .u8 (y.rt : Int)] 42)) (w.heap.size + 1) (.slice y.po y.ps.length y.pc) y.rt) := hide n2
  have HE := hide (equalP_any x.po y.po x.pc y.pc x.ps y.ps _ (h.prm.below al) (hg.prm.below al) h.fit)
  have HQ := hide (sgEq x y)
  clear al1 al n1 n2 h hg
  go_enter Tryz.func65, Tryz.ntmps65
  go_upto_region 1 with fail
  generalize ((w.alloc (.cells #[.slice x.po x.ps.length x.pc, .int .u8 (x.rt : Int)] 42)).alloc (.cells #[.slice y.po y.ps.length y.pc, .int .u8 (y.rt : Int)] 42)) = W1 at HB HC1 HC2 HE ⊢
  have k1 := (unhide HC1).c0
  have k2 := (unhide HC1).c1
  have k3 := (unhide HC2).c0
  have k4 := (unhide HC2).c1
  by_cases hr : x.rt = y.rt
  · have b1 := intOfNatT hr
    have HR : Hid (decide (sgC x = sgC y) = decide (x.ps = y.ps)) := hide (by rw [unhide HQ]; simp [hr])
    clear hr
    go_wp2_with fail
    refine (unhide HE).mono ?_
    rintro e W2 ⟨rfl, q, rfl⟩
    go_wp2
    go_ret
    exact ⟨ret_bool (unhide HR).symm, belowD (unhide HB) _⟩
  · have b1 := intOfNat hr
    have HR : Hid (decide (sgC x = sgC y) = false) := hide (by rw [unhide HQ]; simp [hr])
    clear hr
    go_wp2
    go_ret
    exact ⟨ret_bool (unhide HR).symm, unhide HB⟩
end Go.Proofs.YtibgfdjopikafaaGreatDoor

/-
  provisoplain.SameFunc, SameClasses, SameModule: whether both hold the same. Conditions: lengths fit.
-/
namespace Go.Proofs.YtibgfdjopikafaaGreatDoor
open Go.RowKit
set_option maxRecDepth 20000

set_option maxRecDepth 20000 in
set_option maxHeartbeats 4000000 in
theorem SameFunc_any (x y : Fn) (w : World) (h : FnOk w x) (hg : FnOk w y) :
    Calls Tryz.prog 33 #[.agg #[.string x.nm, .slice x.sg.po x.sg.ps.length x.sg.pc, .int .u8 (x.sg.rt : Int), .int .i64 x.lo, .slice x.ca x.cd.length x.cc], .agg #[.string y.nm, .slice y.sg.po y.sg.ps.length y.sg.pc, .int .u8 (y.sg.rt : Int), .int .i64 y.lo, .slice y.ca y.cd.length y.cc]] w fun e w' => e = .returned (.bool (decide (fnC x = fnC y))) ∧ Below w.heap.size w w' := by
  have al1 := (Below.refl w.heap.size w).alloc (Nat.le_refl _) (.cells #[.string x.nm, .slice x.sg.po x.sg.ps.length x.sg.pc, .int .u8 (x.sg.rt : Int), .int .i64 x.lo, .slice x.ca x.cd.length x.cc] 44)
  have al := al1.alloc (by simp) (.cells #[.string y.nm, .slice y.sg.po y.sg.ps.length y.sg.pc, .int .u8 (y.sg.rt : Int), .int .i64 y.lo, .slice y.ca y.cd.length y.cc] 44)
  have HB := hide al
  have n1 := heap_alloc_new w (.cells #[.string x.nm, .slice x.sg.po x.sg.ps.length x.sg.pc, .int .u8 (x.sg.rt : Int), .int .i64 x.lo, .slice x.ca x.cd.length x.cc] 44)
  have n2 := heap_alloc_new (w.alloc (.cells #[.string x.nm, .slice x.sg.po x.sg.ps.length x.sg.pc, .int .u8 (x.sg.rt : Int), .int .i64 x.lo, .slice x.ca x.cd.length x.cc] 44)) (.cells #[.string y.nm, .slice y.sg.po y.sg.ps.length y.sg.pc, .int .u8 (y.sg.rt : Int), .int .i64 y.lo, .slice y.ca y.cd.length y.cc] 44)
  rw [World.size_alloc] at n2
  have HC1 : Hid (Bx ((w.alloc (.cells #[.string x.nm, .slice x.sg.po x.sg.ps.length x.sg.pc, .int .u8 (x.sg.rt : Int), .int .i64 x.lo, .slice x.ca x.cd.length x.cc] 44)).alloc (.cells #[.string y.nm, .slice y.sg.po y.sg.ps.length y.sg.pc, .int .u8 (y.sg.rt : Int), .int .i64 y.lo, .slice y.ca y.cd.length y.cc] 44)) w.heap.size 44 #[.string x.nm, .slice x.sg.po x.sg.ps.length x.sg.pc, .int .u8 (x.sg.rt : Int), .int .i64 x.lo, .slice x.ca x.cd.length x.cc]) := hide ((((Below.refl _ _).alloc (Nat.le_refl _) _).block w.heap.size (by simp)).trans n1)
  have HC2 : Hid (Bx ((w.alloc (.cells #[.string x.nm, .slice x.sg.po x.sg.ps.length x.sg.pc, .int .u8 (x.sg.rt : Int), .int .i64 x.lo, .slice x.ca x.cd.length x.cc] 44)).alloc (.cells #[.string y.nm, .slice y.sg.po y.sg.ps.length y.sg.pc, .int .u8 (y.sg.rt : Int), .int .i64 y.lo, .slice y.ca y.cd.length y.cc] 44)) (w.heap.size + 1) 44 #[.string y.nm, .slice y.sg.po y.sg.ps.length y.sg.pc, .int .u8 (y.sg.rt : Int), .int .i64 y.lo, .slice y.ca y.cd.length y.cc]) := hide n2
  have HX := hide (h.below al)
  have HY := hide (hg.below al)
  have HQ := hide (fnEq x y)
  clear al1 al n1 n2 h hg
  go_enter Tryz.func33, Tryz.ntmps33
  go_upto_region 1 with fail
  generalize ((w.alloc (.cells #[.string x.nm, .slice x.sg.po x.sg.ps.length x.sg.pc, .int .u8 (x.sg.rt : Int), .int .i64 x.lo, .slice x.ca x.cd.length x.cc] 44)).alloc (.cells #[.string y.nm, .slice y.sg.po y.sg.ps.length y.sg.pc, .int .u8 (y.sg.rt : Int), .int .i64 y.lo, .slice y.ca y.cd.length y.cc] 44)) = W1 at HB HC1 HC2 HX HY ⊢
  have HS := hide (SameSig_any x.sg y.sg W1 (unhide HX).sg (unhide HY).sg)
  have k0 := (unhide HC1).c 0 rfl
  have k1 := (unhide HC1).c 1 rfl
  have k2 := (unhide HC1).c 2 rfl
  have m0 := (unhide HC2).c 0 rfl
  have m1 := (unhide HC2).c 1 rfl
  have m2 := (unhide HC2).c 2 rfl
  cases hn : (x.nm.toList == y.nm.toList)
  · have HR : Hid (decide (fnC x = fnC y) = false) := hide (by rw [unhide HQ, hn]; rfl)
    go_wp2
    go_ret
    exact ⟨ret_bool (unhide HR).symm, unhide HB⟩
  have HQ2 : Hid (decide (fnC x = fnC y) = (decide (sgC x.sg = sgC y.sg) && decide (x.lo = y.lo) && (x.cd == y.cd))) := hide (by rw [unhide HQ, hn]; simp)
  go_wp2_with fail
  refine (unhide HS).mono ?_
  rintro e W2 ⟨rfl, hB2⟩
  have HD1 := hide ((unhide HC1).below hB2)
  have HD2 := hide ((unhide HC2).below hB2)
  have HX2 := hide ((unhide HX).below hB2)
  have HY2 := hide ((unhide HY).below hB2)
  have HB2 := hide ((unhide HB).trans (hB2.mono (unhide HB).size))
  clear k0 k1 k2 m0 m1 m2 HC1 HC2 HX HY HB HS hB2
  have k0 := (unhide HD1).c 3 rfl
  have k1 := (unhide HD1).c 4 rfl
  have m0 := (unhide HD2).c 3 rfl
  have m1 := (unhide HD2).c 4 rfl
  cases hs : decide (sgC x.sg = sgC y.sg)
  · have HR : Hid (decide (fnC x = fnC y) = false) := hide (by rw [unhide HQ2, hs]; rfl)
    clear hs hn
    go_wp2
    go_ret
    exact ⟨ret_bool (unhide HR).symm, unhide HB2⟩
  by_cases hl : x.lo = y.lo
  · have b1 : (x.lo == y.lo) = true := beq_t hl
    have HR : Hid (decide (fnC x = fnC y) = (x.cd == y.cd)) := hide (by rw [unhide HQ2, hs]; simp [hl])
    have HE := hide (Equal_any x.ca y.ca x.cc y.cc x.cd y.cd W2 (unhide HX2).code (unhide HY2).code (by have := (unhide HX2).fit; unfold maxLen; omega) (by have := (unhide HY2).fit; unfold maxLen; omega))
    clear hs hn hl
    go_wp2_with fail
    refine (unhide HE).mono ?_
    rintro e W3 ⟨rfl, q, rfl⟩
    go_wp2
    go_ret
    exact ⟨ret_bool (unhide HR).symm, belowD (unhide HB2) _⟩
  · have b1 : (x.lo == y.lo) = false := beq_f hl
    have HR : Hid (decide (fnC x = fnC y) = false) := hide (by rw [unhide HQ2, hs]; simp [hl])
    clear hs hn hl
    go_wp2
    go_ret
    exact ⟨ret_bool (unhide HR).symm, unhide HB2⟩

set_option maxHeartbeats 4000000 in
theorem SameClasses_any (ga ao : Option Addr) (gc cap : Nat) (G T : List Cl) (w : World) (hG : TabAt w ga G) (hT : TabAt w ao T) (hz : G.length * 48 ≤ 140737488351232) :
    Calls Tryz.prog 32 #[.slice ga G.length gc, .slice ao T.length cap] w fun e w' => e = .returned (.bool (eqL clC G T)) ∧ ∃ k, w' = w.drewN k := by
  have hT2 : G.length < 9223372036854775000 := by omega
  clear hz
  by_cases hl : G.length = T.length
  rotate_left
  · have HR : Hid (eqL clC G T = false) := hide (eqL_len hl)
    have e0 : (((G.length : Nat) : Int) != ((T.length : Nat) : Int)) = true := bne_t (by omega)
    clear hl
    go_enter Tryz.func32, Tryz.ntmps32
    go_wp2
    go_ret
    exact ⟨ret_bool (unhide HR).symm, 0, rfl⟩
  have e0 : (((G.length : Nat) : Int) != ((T.length : Nat) : Int)) = false := bne_f (by omega)
  have HG := hide hG
  have HT := hide hT
  have HLn := hide hl
  clear hG hT hl
  go_enter Tryz.func32, Tryz.ntmps32
  go_wp2
  go_loopw [13] (fun i wr => ∃ k : Nat, k ≤ G.length ∧ i = .int .i64 (k : Int) ∧ Hid (∀ (j : Nat) x y, j < k → G[j]? = some x → T[j]? = some y → clC x = clC y) ∧ ∃ q, wr = w.drewN q) (fun i _ => G.length - (intOf i).toNat)
  case atStart => exact ⟨0, by omega, rfl, hide (fun j x y h => by omega), 0, rfl⟩
  case round =>
    obtain ⟨k, hk, rfl, HK, q, rfl⟩ := hrel
    by_cases hlt : k < G.length
    · have i1 : ((k : Nat) : Int) < ((G.length : Nat) : Int) := by omega
      have hkT : k < T.length := by have := unhide HLn; omega
      have i2 : ((k : Nat) : Int) < ((T.length : Nat) : Int) := by omega
      have hx := List.getElem?_eq_getElem hkT
      have hy := List.getElem?_eq_getElem hlt
      obtain ⟨b, off, rfl, hxa⟩ := unhide HT k _ hx
      obtain ⟨b', off', rfl, hya⟩ := unhide HG k _ hy
      obtain ⟨W, HW⟩ : ∃ W, Hid (w.drewN q = W) := ⟨_, hide rfl⟩
      have hbW : Below w.heap.size w W := by rw [← unhide HW]; exact below_drew _ _
      have hxb := hxa.below hbW
      have hyb := hya.below hbW
      rw [unhide HW]
      generalize G[k] = y at hyb hy
      generalize T[k] = x at hxb hx
      have HE : Hid (∀ n, Calls Tryz.prog 64 #[.slice y.fo y.fs.length y.fc, .slice x.fo x.fs.length x.fc] (W.drewN n) fun e w' => e = .returned (.bool (eqL flC y.fs x.fs)) ∧ ∃ j, w' = (W.drewN n).drewN j) := hide (fun n => equalF_any _ _ _ _ _ _ _ (hyb.flds.below (below_drew _ _)) (hxb.flds.below (below_drew _ _)) hyb.fit)
      have c0 := hxb.c0
      have c1 := hxb.c1
      have c2 := hxb.c2
      have d0 := hyb.c0
      have d1 := hyb.c1
      have d2 := hyb.c2
      have HQ := hide (clEq y x)
      have HNO : Hid (decide (clC y = clC x) = false → eqL clC G T = false) := hide (fun e => eqL_no hy hx (neOfDec e))
      have HK2 : Hid (decide (clC y = clC x) = true → ∀ (j : Nat) a b, j < k + 1 → G[j]? = some a → T[j]? = some b → clC a = clC b) := hide (fun e j a b h1 h2 h3 => by
        by_cases e' : j = k
        · rw [e', hy] at h2
          rw [e', hx] at h3
          injection h2 with h2
          injection h3 with h3
          rw [← h2, ← h3]; exact eqOfDec e
        · exact unhide HK j a b (by omega) h2 h3)
      clear hx hy hxa hya hxb hyb hbW HK
      cases hn : (y.nm.toList == x.nm.toList)
      · have e1 : (y.nm.toList != x.nm.toList) = true := by rw [bne, hn]; rfl
        have HR := hide (unhide HNO (by rw [unhide HQ, hn]; rfl))
        clear HE
        go_wp2
        go_quiet (fail)
        go_wp2
        go_ret
        exact ⟨ret_bool (unhide HR).symm, q + nq, by rw [← unhide HW, drew2]⟩
      have e1 : (y.nm.toList != x.nm.toList) = false := by rw [bne, hn]; rfl
      by_cases hp : y.par = x.par
      rotate_left
      · have e2 : (y.par != x.par) = true := bne_t hp
        have HR := hide (unhide HNO (by rw [unhide HQ, hn]; simp [hp]))
        clear hp HE
        go_wp2
        go_quiet (fail)
        go_wp2
        go_ret
        exact ⟨ret_bool (unhide HR).symm, q + nq, by rw [← unhide HW, drew2]⟩
      have e2 : (y.par != x.par) = false := bne_f hp
      cases hf : eqL flC y.fs x.fs
      · rw [hf] at HE
        have HR := hide (unhide HNO (by rw [unhide HQ, hn, hf]; simp))
        clear hp hf
        go_wp2
        go_quiet ((go_at_call 64; exact Calls.quiet_of (unhide HE _)))
        go_wp2
        go_ret
        exact ⟨ret_bool (unhide HR).symm, q + nq, by rw [← unhide HW, drew2]⟩
      · rw [hf] at HE
        have HR := hide (unhide HK2 (by rw [unhide HQ, hn, hf]; simp [hp]))
        clear hp hf
        go_wp2
        go_quiet ((go_at_call 64; exact Calls.quiet_of (unhide HE _)))
        go_wp2
        go_roundw
        case rel => exact ⟨k + 1, by omega, by go_num, HR, q + nq, by rw [← unhide HW, drew2]⟩
        case measure => simp [intOf]; omega
    · have i1 : ¬ ((k : Nat) : Int) < ((G.length : Nat) : Int) := by omega
      have HR : Hid (eqL clC G T = true) := hide (eqL_yes (unhide HLn) (fun i x y h1 h2 => unhide HK i x y (by have := (List.getElem?_eq_some_iff.1 h1).1; omega) h1 h2))
      go_wp2
      go_ret
      exact ⟨ret_bool (unhide HR).symm, _, rfl⟩

/-- Whether two modules hold the same. -/
def mdEq (x y : Md) : Bool := (x.nm.toList == y.nm.toList) && eqL clC x.T y.T && eqL fnC x.F y.F && eqL bsC x.C y.C

set_option maxRecDepth 20000 in
set_option maxHeartbeats 8000000 in
theorem SameModule_any (x y : Md) (w : World) (h : MdOk w x) (hg : MdOk w y) :
    Calls Tryz.prog 13 #[.agg #[.string x.nm, .slice x.ao x.T.length x.cap, .slice x.fo x.F.length x.fc, .slice x.co x.C.length x.cc], .agg #[.string y.nm, .slice y.ao y.T.length y.cap, .slice y.fo y.F.length y.fc, .slice y.co y.C.length y.cc]] w fun e w' => e = .returned (.bool (mdEq x y)) ∧ Below w.heap.size w w' := by
  have al1 := (Below.refl w.heap.size w).alloc (Nat.le_refl _) (.cells #[.string x.nm, .slice x.ao x.T.length x.cap, .slice x.fo x.F.length x.fc, .slice x.co x.C.length x.cc] 26)
  have al := al1.alloc (by simp) (.cells #[.string y.nm, .slice y.ao y.T.length y.cap, .slice y.fo y.F.length y.fc, .slice y.co y.C.length y.cc] 26)
  have HB := hide al
  have n1 := heap_alloc_new w (.cells #[.string x.nm, .slice x.ao x.T.length x.cap, .slice x.fo x.F.length x.fc, .slice x.co x.C.length x.cc] 26)
  have n2 := heap_alloc_new (w.alloc (.cells #[.string x.nm, .slice x.ao x.T.length x.cap, .slice x.fo x.F.length x.fc, .slice x.co x.C.length x.cc] 26)) (.cells #[.string y.nm, .slice y.ao y.T.length y.cap, .slice y.fo y.F.length y.fc, .slice y.co y.C.length y.cc] 26)
  rw [World.size_alloc] at n2
  have HC1 : Hid (Bx ((w.alloc (.cells #[.string x.nm, .slice x.ao x.T.length x.cap, .slice x.fo x.F.length x.fc, .slice x.co x.C.length x.cc] 26)).alloc (.cells #[.string y.nm, .slice y.ao y.T.length y.cap, .slice y.fo y.F.length y.fc, .slice y.co y.C.length y.cc] 26)) w.heap.size 26 #[.string x.nm, .slice x.ao x.T.length x.cap, .slice x.fo x.F.length x.fc, .slice x.co x.C.length x.cc]) := hide ((((Below.refl _ _).alloc (Nat.le_refl _) _).block w.heap.size (by simp)).trans n1)
  have HC2 : Hid (Bx ((w.alloc (.cells #[.string x.nm, .slice x.ao x.T.length x.cap, .slice x.fo x.F.length x.fc, .slice x.co x.C.length x.cc] 26)).alloc (.cells #[.string y.nm, .slice y.ao y.T.length y.cap, .slice y.fo y.F.length y.fc, .slice y.co y.C.length y.cc] 26)) (w.heap.size + 1) 26 #[.string y.nm, .slice y.ao y.T.length y.cap, .slice y.fo y.F.length y.fc, .slice y.co y.C.length y.cc]) := hide n2
  have HX := hide (h.below al)
  have HY := hide (hg.below al)
  have HQ : Hid (mdEq x y = ((x.nm.toList == y.nm.toList) && eqL clC x.T y.T && eqL fnC x.F y.F && eqL bsC x.C y.C)) := hide rfl
  have hlf : x.F.length < 9223372036854775000 := by have := h.fz; omega
  have hlc : x.C.length < 9223372036854775000 := by have := h.cz; omega
  clear al1 al n1 n2 h hg
  go_enter Tryz.func13, Tryz.ntmps13
  go_upto_region 1 with fail
  generalize ((w.alloc (.cells #[.string x.nm, .slice x.ao x.T.length x.cap, .slice x.fo x.F.length x.fc, .slice x.co x.C.length x.cc] 26)).alloc (.cells #[.string y.nm, .slice y.ao y.T.length y.cap, .slice y.fo y.F.length y.fc, .slice y.co y.C.length y.cc] 26)) = W1 at HB HC1 HC2 HX HY ⊢
  have HS := hide (SameClasses_any x.ao y.ao x.cap y.cap x.T y.T W1 (unhide HX).tab (unhide HY).tab (unhide HX).tz)
  have k0 := (unhide HC1).c 0 rfl
  have k1 := (unhide HC1).c 1 rfl
  have k2 := (unhide HC1).c 2 rfl
  have k3 := (unhide HC1).c 3 rfl
  have m0 := (unhide HC2).c 0 rfl
  have m1 := (unhide HC2).c 1 rfl
  have m2 := (unhide HC2).c 2 rfl
  have m3 := (unhide HC2).c 3 rfl
  cases hn : (x.nm.toList == y.nm.toList)
  · have HR : Hid (mdEq x y = false) := hide (by rw [unhide HQ, hn]; rfl)
    have e1 : (x.nm.toList != y.nm.toList) = true := by rw [bne, hn]; rfl
    go_wp2
    go_ret
    exact ⟨ret_bool (unhide HR).symm, unhide HB⟩
  have e1 : (x.nm.toList != y.nm.toList) = false := by rw [bne, hn]; rfl
  have HQ2 : Hid (mdEq x y = (eqL clC x.T y.T && eqL fnC x.F y.F && eqL bsC x.C y.C)) := hide (by rw [unhide HQ, hn]; simp)
  clear HQ
  go_wp2_with fail
  refine (unhide HS).mono ?_
  rintro e W2 ⟨rfl, q, rfl⟩
  cases hs : eqL clC x.T y.T
  · have HR : Hid (mdEq x y = false) := hide (by rw [unhide HQ2, hs]; rfl)
    clear hs
    go_wp2
    go_ret
    exact ⟨ret_bool (unhide HR).symm, belowD (unhide HB) _⟩
  have HQ3 : Hid (mdEq x y = (eqL fnC x.F y.F && eqL bsC x.C y.C)) := hide (by rw [unhide HQ2, hs]; simp)
  clear hs HQ2
  by_cases hf : x.F.length = y.F.length
  rotate_left
  · have HR : Hid (mdEq x y = false) := hide (by rw [unhide HQ3, eqL_len hf]; rfl)
    have b1 : (((x.F.length : Nat) : Int) != ((y.F.length : Nat) : Int)) = true := bne_t (by omega)
    clear hf
    go_wp2
    go_ret
    exact ⟨ret_bool (unhide HR).symm, belowD (unhide HB) _⟩
  have b1 : (((x.F.length : Nat) : Int) != ((y.F.length : Nat) : Int)) = false := bne_f (by omega)
  have HFL := hide hf
  clear hf
  by_cases hc : x.C.length = y.C.length
  rotate_left
  · have HR : Hid (mdEq x y = false) := hide (by rw [unhide HQ3, eqL_len hc]; simp)
    have b2 : (((x.C.length : Nat) : Int) != ((y.C.length : Nat) : Int)) = true := bne_t (by omega)
    clear hc
    go_wp2
    go_ret
    exact ⟨ret_bool (unhide HR).symm, belowD (unhide HB) _⟩
  have b2 : (((x.C.length : Nat) : Int) != ((y.C.length : Nat) : Int)) = false := bne_f (by omega)
  have HCL := hide hc
  clear hc HS
  obtain ⟨W3, HW3⟩ : ∃ W3, Hid (W1.drewN q = W3) := ⟨_, hide rfl⟩
  rw [unhide HW3]
  have hb3 : Below W1.heap.size W1 W3 := by rw [← unhide HW3]; exact below_drew _ _
  have HB3 := hide ((unhide HB).trans (hb3.mono (unhide HB).size))
  have HD1 := hide ((unhide HC1).below hb3)
  have HD2 := hide ((unhide HC2).below hb3)
  have HX3 := hide ((unhide HX).below hb3)
  have HY3 := hide ((unhide HY).below hb3)
  clear k0 k1 k2 k3 m0 m1 m2 m3 HB HC1 HC2 HX HY hb3 HW3 W1
  have k2 := (unhide HD1).c 2 rfl
  have k3 := (unhide HD1).c 3 rfl
  have m2 := (unhide HD2).c 2 rfl
  have m3 := (unhide HD2).c 3 rfl
  go_wp2_with fail
  clear k2 k3 m2 m3
  go_loopw [41] (fun i wr => ∃ (k : Nat), k ≤ x.F.length ∧ i = .int .i64 (k : Int) ∧ Hid (∀ (j : Nat) a b, j < k → x.F[j]? = some a → y.F[j]? = some b → fnC a = fnC b) ∧ Hid (Below W3.heap.size W3 wr)) (fun i _ => x.F.length - (intOf i).toNat)
  case atStart => exact ⟨0, by omega, rfl, hide (fun j a b h => by omega), hide (Below.refl _ _)⟩
  case round =>
    obtain ⟨k, hk, rfl, HK, HR⟩ := hrel
    by_cases hlt : k < x.F.length
    · have i1 : ((k : Nat) : Int) < ((x.F.length : Nat) : Int) := by omega
      have hlm : k < y.F.length := by have := unhide HFL; omega
      have i2 : ((k : Nat) : Int) < ((y.F.length : Nat) : Int) := by omega
      have i0 : (0 : Int) ≤ ((k : Nat) : Int) := by omega
      have hx := List.getElem?_eq_getElem hlt
      have hy := List.getElem?_eq_getElem hlm
      obtain ⟨b, off, eb, hxa⟩ := (unhide HX3).fns.below (unhide HR) k _ hx
      obtain ⟨b', off', eb', hya⟩ := (unhide HY3).fns.below (unhide HR) k _ hy
      generalize x.F[k] = f at hxa hx
      generalize y.F[k]'hlm = f' at hya hy
      have HNO : Hid (decide (fnC f = fnC f') = false → mdEq x y = false) := hide (fun e => by rw [unhide HQ3, eqL_no hx hy (neOfDec e)]; rfl)
      have HK2 : Hid (decide (fnC f = fnC f') = true → ∀ (j : Nat) a b, j < k + 1 → x.F[j]? = some a → y.F[j]? = some b → fnC a = fnC b) := hide (fun e j a b h1 h2 h3 => by
        by_cases e' : j = k
        · rw [e', hx] at h2
          rw [e', hy] at h3
          injection h2 with h2
          injection h3 with h3
          rw [← h2, ← h3]; exact eqOfDec e
        · exact unhide HK j a b (by omega) h2 h3)
      have HCC := hide (SameFunc_any f f' wr.drew (hxa.ok.below (show Below wr.heap.size wr wr.drew from belowD (Below.refl _ _) 1)) (hya.ok.below (show Below wr.heap.size wr wr.drew from belowD (Below.refl _ _) 1)))
      have c0 := hxa.c0
      have c1 := hxa.c1
      have c2 := hxa.c2
      have c3 := hxa.c3
      have c4 := hxa.c4
      have d0 := hya.c0
      have d1 := hya.c1
      have d2 := hya.c2
      have d3 := hya.c3
      have d4 := hya.c4
      have p1 := ((unhide HD1).below (unhide HR)).c 2 rfl
      have p2 := ((unhide HD2).below (unhide HR)).c 2 rfl
      rw [eb] at p1
      rw [eb'] at p2
      have l1 := World.block_lt_of_cell? wr _ c0
      have l2 := World.block_lt_of_cell? wr _ d0
      have l3 := World.block_lt_of_cell? wr _ p1
      have l4 := World.block_lt_of_cell? wr _ p2
      have HBB := hide (fun W (hW : Below wr.heap.size wr.drew W) => (unhide HR).trans ((show Below wr.heap.size wr W from (show Below wr.heap.size wr wr.drew from belowD (Below.refl _ _) 1).trans hW).mono (unhide HR).size))
      clear hx hy hxa hya HK eb eb'
      go_upto_region 6 with fail
      go_region_held3 (fun w' => w'.cell? ⟨w.heap.size, 2, none⟩ = some (.slice (some ⟨b, off, none⟩) x.F.length x.fc) ∧ w'.cell? ⟨w.heap.size + 1, 2, none⟩ = some (.slice (some ⟨b', off', none⟩) y.F.length y.fc) ∧ w'.cell? ⟨b, off + k * 5, none⟩ = some (.string f.nm) ∧ w'.cell? ⟨b, off + k * 5 + 1, none⟩ = some (.slice f.sg.po f.sg.ps.length f.sg.pc) ∧ w'.cell? ⟨b, off + k * 5 + 2, none⟩ = some (.int .u8 (f.sg.rt : Int)) ∧ w'.cell? ⟨b, off + k * 5 + 3, none⟩ = some (.int .i64 f.lo) ∧ w'.cell? ⟨b, off + k * 5 + 4, none⟩ = some (.slice f.ca f.cd.length f.cc) ∧ w'.cell? ⟨b', off' + k * 5, none⟩ = some (.string f'.nm) ∧ w'.cell? ⟨b', off' + k * 5 + 1, none⟩ = some (.slice f'.sg.po f'.sg.ps.length f'.sg.pc) ∧ w'.cell? ⟨b', off' + k * 5 + 2, none⟩ = some (.int .u8 (f'.sg.rt : Int)) ∧ w'.cell? ⟨b', off' + k * 5 + 3, none⟩ = some (.int .i64 f'.lo) ∧ w'.cell? ⟨b', off' + k * 5 + 4, none⟩ = some (.slice f'.ca f'.cd.length f'.cc)) (first | exact ⟨(hB2.cell (p := ⟨w.heap.size, 2, none⟩) l3).trans p1, (hB2.cell (p := ⟨w.heap.size + 1, 2, none⟩) l4).trans p2, (hB2.cell (p := ⟨b, off + k * 5, none⟩) l1).trans c0, (hB2.cell (p := ⟨b, off + k * 5 + 1, none⟩) l1).trans c1, (hB2.cell (p := ⟨b, off + k * 5 + 2, none⟩) l1).trans c2, (hB2.cell (p := ⟨b, off + k * 5 + 3, none⟩) l1).trans c3, (hB2.cell (p := ⟨b, off + k * 5 + 4, none⟩) l1).trans c4, (hB2.cell (p := ⟨b', off' + k * 5, none⟩) l2).trans d0, (hB2.cell (p := ⟨b', off' + k * 5 + 1, none⟩) l2).trans d1, (hB2.cell (p := ⟨b', off' + k * 5 + 2, none⟩) l2).trans d2, (hB2.cell (p := ⟨b', off' + k * 5 + 3, none⟩) l2).trans d3, (hB2.cell (p := ⟨b', off' + k * 5 + 4, none⟩) l2).trans d4⟩ | go_keep) (first | (go_at_call 33; refine (unhide HCC).mono ?_; rintro e w2 ⟨rfl, hB2⟩) | fail)
      have HR2 := hide (unhide HBB _ hB2)
      cases hd : decide (fnC f = fnC f')
      · have HE := hide (unhide HNO hd)
        clear hB2 hd
        go_wp2
        go_ret
        exact ⟨ret_bool (unhide HE).symm, (unhide HB3).trans ((unhide HR2).mono (unhide HB3).size)⟩
      · have HE := hide (unhide HK2 hd)
        clear hB2 hd
        go_wp2
        go_roundw
        case rel => exact ⟨k + 1, by omega, by go_num, HE, HR2⟩
        case measure => simp [intOf]; omega
    · have i1 : ¬ ((k : Nat) : Int) < ((x.F.length : Nat) : Int) := by omega
      have HQ4 : Hid (mdEq x y = eqL bsC x.C y.C) := hide (by rw [unhide HQ3, eqL_yes (unhide HFL) (fun i a b h1 h2 => unhide HK i a b (by have := (List.getElem?_eq_some_iff.1 h1).1; omega) h1 h2)]; rfl)
      have k3 := ((unhide HD1).below (unhide HR)).c 3 rfl
      go_wp2_with fail
      clear k3 HK HQ3
      obtain ⟨W4, HW4⟩ : ∃ W4, Hid (wr = W4) := ⟨_, hide rfl⟩
      rw [unhide HW4] at HR ⊢
      have HB4 := hide ((unhide HB3).trans ((unhide HR).mono (unhide HB3).size))
      have HE1 := hide ((unhide HD1).below (unhide HR))
      have HE2 := hide ((unhide HD2).below (unhide HR))
      have HX4 := hide ((unhide HX3).below (unhide HR))
      have HY4 := hide ((unhide HY3).below (unhide HR))
      clear HB3 HD1 HD2 HX3 HY3 HR HW4
      go_loopw [60] (fun i wr => ∃ (k : Nat), k ≤ x.C.length ∧ i = .int .i64 (k : Int) ∧ Hid (∀ (j : Nat) a b, j < k → x.C[j]? = some a → y.C[j]? = some b → bsC a = bsC b) ∧ ∃ q, wr = W4.drewN q) (fun i _ => x.C.length - (intOf i).toNat)
      case atStart => exact ⟨0, by omega, rfl, hide (fun j a b h => by omega), 0, rfl⟩
      case round =>
        obtain ⟨k, hk, rfl, HK, q, rfl⟩ := hrel
        by_cases hlt : k < x.C.length
        · have i1 : ((k : Nat) : Int) < ((x.C.length : Nat) : Int) := by omega
          have hlm : k < y.C.length := by have := unhide HCL; omega
          have i2 : ((k : Nat) : Int) < ((y.C.length : Nat) : Int) := by omega
          have i0 : (0 : Int) ≤ ((k : Nat) : Int) := by omega
          have hx := List.getElem?_eq_getElem hlt
          have hy := List.getElem?_eq_getElem hlm
          obtain ⟨W, HW⟩ : ∃ W, Hid (W4.drewN q = W) := ⟨_, hide rfl⟩
          have hbW : Below W4.heap.size W4 W := by rw [← unhide HW]; exact below_drew _ _
          obtain ⟨b, off, eb, hxa⟩ := (unhide HX4).cts.below hbW k _ hx
          obtain ⟨b', off', eb', hya⟩ := (unhide HY4).cts.below hbW k _ hy
          rw [unhide HW]
          generalize x.C[k] = f at hxa hx
          generalize y.C[k]'hlm = f' at hya hy
          have HNO : Hid ((f.cd == f'.cd) = false → mdEq x y = false) := hide (fun e => by rw [unhide HQ4]; exact eqL_no hx hy (by unfold bsC; exact beq_eq_false_iff_ne.1 e))
          have HK2 : Hid ((f.cd == f'.cd) = true → ∀ (j : Nat) a b, j < k + 1 → x.C[j]? = some a → y.C[j]? = some b → bsC a = bsC b) := hide (fun e j a b h1 h2 h3 => by
            by_cases e' : j = k
            · rw [e', hx] at h2
              rw [e', hy] at h3
              injection h2 with h2
              injection h3 with h3
              rw [← h2, ← h3]; unfold bsC; exact beq_iff_eq.1 e
            · exact unhide HK j a b (by omega) h2 h3)
          have HCC : Hid (∀ n, Calls Tryz.prog 12 #[.slice f.ca f.cd.length f.cc, .slice f'.ca f'.cd.length f'.cc] (W.drewN n) fun e w' => e = .returned (.bool (f.cd == f'.cd)) ∧ ∃ j, w' = (W.drewN n).drewN j) := hide (fun n => Equal_any _ _ _ _ _ _ _ (hxa.code.drewN n) (hya.code.drewN n) (by have := hxa.fit; unfold maxLen; omega) (by have := hya.fit; unfold maxLen; omega))
          have c0 := hxa.c0
          have d0 := hya.c0
          have p1 := ((unhide HE1).below hbW).c 3 rfl
          have p2 := ((unhide HE2).below hbW).c 3 rfl
          rw [eb] at p1
          rw [eb'] at p2
          clear hx hy hxa hya HK eb eb' hbW
          cases hd : (f.cd == f'.cd)
          · have HE := hide (unhide HNO hd)
            rw [hd] at HCC
            clear hd
            go_wp2
            go_quiet ((go_at_call 12; exact Calls.quiet_of (unhide HCC _)))
            go_wp2
            go_ret
            exact ⟨ret_bool (unhide HE).symm, by rw [← unhide HW]; exact belowD (belowD (unhide HB4) _) _⟩
          · have HE := hide (unhide HK2 hd)
            rw [hd] at HCC
            clear hd
            go_wp2
            go_quiet ((go_at_call 12; exact Calls.quiet_of (unhide HCC _)))
            go_wp2
            go_roundw
            case rel => exact ⟨k + 1, by omega, by go_num, HE, q + nq, by rw [← unhide HW, drew2]⟩
            case measure => simp [intOf]; omega
        · have i1 : ¬ ((k : Nat) : Int) < ((x.C.length : Nat) : Int) := by omega
          have HE : Hid (mdEq x y = true) := hide (by rw [unhide HQ4]; exact eqL_yes (unhide HCL) (fun i a b h1 h2 => unhide HK i a b (by have := (List.getElem?_eq_some_iff.1 h1).1; omega) h1 h2))
          go_wp2
          go_ret
          exact ⟨ret_bool (unhide HE).symm, belowD (unhide HB4) _⟩
end Go.Proofs.YtibgfdjopikafaaGreatDoor

/-
  module.sameClass, sameFunc, Same, bytes.Equal, slices.EqualFunc over them: whether both hold the same; module.Entry and provisoref16.Entry: the first function of a name. Conditions: lengths fit.
-/
namespace Go.Proofs.YtibgfdjopikafaaGreatDoor
open Go.RowKit
set_option maxRecDepth 20000

theorem conv_bytes {w : World} {ao : Option Addr} {l : List UInt8} (h : BAt w ao l) (hn : ao = none → l = []) (c : Nat) : (convert 28 9 (.slice ao l.length c)).run Tryz.prog w = .ok (.string ⟨l.toArray⟩) w := by
  cases ao with
  | some x =>
    refine run_convert_bytes_back w 28 9 5 x c l Tryz.underlying28 Tryz.underlying5 Tryz.underlying9 (fun j hj => ?_)
    obtain ⟨b, off, e, hc⟩ := h j hj
    injection e with e
    subst e
    rw [Addr.add_lit, hc]
    unfold at8
    rw [List.getD_eq_getElem?_getD, List.getElem?_eq_getElem hj]
    rfl
  | none =>
    have := hn rfl
    subst this
    show (convert 28 9 (.slice none 0 c)).run Tryz.prog w = _
    rw [run_convert_bytes_string w 28 9 5 none 0 c Tryz.underlying28 Tryz.underlying5 Tryz.underlying9]
    rfl
/-- The first function of a name, from k on. -/
def entR : List Fn → ByteArray → Nat → Option Nat
  | [], _, _ => none
  | f :: l, s, k => if (f.nm.toList == s.toList) = true then some k else entR l s (k + 1)
def entN (L : List Fn) (s : ByteArray) : Nat := (entR L s 0).getD 0
def entB (L : List Fn) (s : ByteArray) : Bool := (entR L s 0).isSome
theorem entR_drop {L : List Fn} {s : ByteArray} {k : Nat} {x : Fn} (h : L[k]? = some x) : entR (L.drop k) s k = if (x.nm.toList == s.toList) = true then some k else entR (L.drop (k + 1)) s (k + 1) := by
  obtain ⟨hk, e⟩ := List.getElem?_eq_some_iff.1 h
  rw [List.drop_eq_getElem_cons hk, entR, e]

set_option maxRecDepth 20000 in
set_option maxHeartbeats 4000000 in
theorem Entry_any (m : Md) (s : ByteArray) (w : World) (h : FnsAt w m.fo m.F) (hz : m.F.length * 80 ≤ 140737488351232) :
    Calls Tryz.prog 89 #[.agg #[.string m.nm, .slice m.ao m.T.length m.cap, .slice m.fo m.F.length m.fc, .slice m.co m.C.length m.cc], .string s] w fun e w' => e = .returned (.tuple #[.int .i64 (entN m.F s : Int), .bool (entB m.F s)]) ∧ Below w.heap.size w w' := by
  have al := (Below.refl w.heap.size w).alloc (Nat.le_refl _) (.cells #[.string m.nm, .slice m.ao m.T.length m.cap, .slice m.fo m.F.length m.fc, .slice m.co m.C.length m.cc] 26)
  have HB := hide al
  have HC : Hid (Bx (w.alloc (.cells #[.string m.nm, .slice m.ao m.T.length m.cap, .slice m.fo m.F.length m.fc, .slice m.co m.C.length m.cc] 26)) w.heap.size 26 #[.string m.nm, .slice m.ao m.T.length m.cap, .slice m.fo m.F.length m.fc, .slice m.co m.C.length m.cc]) := hide (heap_alloc_new w _)
  have H := hide (h.below al)
  have hl : m.F.length < 9223372036854775000 := by omega
  clear al h hz
  go_enter Tryz.func89, Tryz.ntmps89
  go_upto_region 1 with fail
  generalize (w.alloc (.cells #[.string m.nm, .slice m.ao m.T.length m.cap, .slice m.fo m.F.length m.fc, .slice m.co m.C.length m.cc] 26)) = W1 at HB HC H ⊢
  have k0 := (unhide HC).c 2 rfl
  go_wp2_with fail
  go_loopw [11] (fun i wr => ∃ k : Nat, k ≤ m.F.length ∧ i = .int .i64 (k : Int) ∧ Hid (entR m.F s 0 = entR (m.F.drop k) s k) ∧ Hid (Below W1.heap.size W1 wr)) (fun i _ => m.F.length - (intOf i).toNat)
  case atStart => exact ⟨0, by omega, rfl, hide rfl, hide (Below.refl _ _)⟩
  case round =>
    obtain ⟨k, hk, rfl, HK, HR⟩ := hrel
    have q0 := ((unhide HC).below (unhide HR)).c 2 rfl
    have HBW := hide ((unhide HB).trans ((unhide HR).mono (unhide HB).size))
    by_cases hlt : k < m.F.length
    · have i1 : ((k : Nat) : Int) < ((m.F.length : Nat) : Int) := by omega
      have i0 : (0 : Int) ≤ ((k : Nat) : Int) := by omega
      have hx := List.getElem?_eq_getElem hlt
      obtain ⟨b, off, eb, hxa⟩ := (unhide H).below (unhide HR) k _ hx
      generalize m.F[k] = x at hxa hx
      have HD := hide (entR_drop (s := s) hx)
      have c0 := hxa.c0
      have c1 := hxa.c1
      have c2 := hxa.c2
      have c3 := hxa.c3
      have c4 := hxa.c4
      rw [eb] at q0
      rw [eb]
      have hal : Below wr.heap.size wr (wr.alloc (.cells #[.string x.nm, .slice x.sg.po x.sg.ps.length x.sg.pc, .int .u8 (x.sg.rt : Int), .int .i64 x.lo, .slice x.ca x.cd.length x.cc] 44)) := (Below.refl _ _).alloc (Nat.le_refl _) _
      have HAL := hide hal
      clear hx hxa eb hal
      cases hn : (x.nm.toList == s.toList)
      · have HK2 : Hid (entR m.F s 0 = entR (m.F.drop (k + 1)) s (k + 1)) := hide (by rw [unhide HK, unhide HD, hn]; rfl)
        have HR2 : Hid (Below W1.heap.size W1 (wr.alloc (.cells #[.string x.nm, .slice x.sg.po x.sg.ps.length x.sg.pc, .int .u8 (x.sg.rt : Int), .int .i64 x.lo, .slice x.ca x.cd.length x.cc] 44))) := hide ((unhide HR).trans ((unhide HAL).mono (unhide HR).size))
        go_wp2
        go_roundw
        case rel => exact ⟨k + 1, by omega, by go_num, HK2, HR2⟩
        case measure => simp [intOf]; omega
      · have HE : Hid (entR m.F s 0 = some k) := hide (by rw [unhide HK, unhide HD, hn]; rfl)
        have HR2 : Hid (Below w.heap.size w (wr.alloc (.cells #[.string x.nm, .slice x.sg.po x.sg.ps.length x.sg.pc, .int .u8 (x.sg.rt : Int), .int .i64 x.lo, .slice x.ca x.cd.length x.cc] 44))) := hide ((unhide HBW).trans ((unhide HAL).mono (unhide HBW).size))
        have HF : Hid ((.tuple #[.int .i64 (k : Int), .bool true] : Value) = .tuple #[.int .i64 (entN m.F s : Int), .bool (entB m.F s)]) := hide (by unfold entN entB; rw [unhide HE]; rfl)
        go_wp2
        go_ret2
        exact ⟨congrArg Ending.returned (unhide HF), unhide HR2⟩
    · have i1 : ¬ ((k : Nat) : Int) < ((m.F.length : Nat) : Int) := by omega
      have HE : Hid (entR m.F s 0 = none) := hide (by rw [unhide HK, List.drop_eq_nil_of_le (by omega)]; rfl)
      have HF : Hid ((.tuple #[.int .i64 0, .bool false] : Value) = .tuple #[.int .i64 (entN m.F s : Int), .bool (entB m.F s)]) := hide (by unfold entN entB; rw [unhide HE]; rfl)
      go_wp2
      go_ret2
      exact ⟨congrArg Ending.returned (unhide HF), unhide HBW⟩

end Go.Proofs.YtibgfdjopikafaaGreatDoor

/-
  What is wrong with a function of a module: plainly; module.isStored, mayStand, checkFunc, checkCerts and provisoref16.function say so. Conditions: lengths fit.
-/
namespace Go.Proofs.YtibgfdjopikafaaGreatDoor
open Go.RowKit
set_option maxRecDepth 20000

/-- What a function holds. -/
structure Kt where
  nm : ByteArray
  ps : List Nat
  rt : Nat
  lo : Int
  cd : List UInt8
def fnK (f : Fn) : Kt := ⟨f.nm, f.sg.ps, f.sg.rt, f.lo, f.cd⟩
/-- Does a function ahead of the place have that name? -/
def twF (K : List Kt) (i : Nat) (s : ByteArray) : Bool := (K.take i).any fun x => x.nm.toList == s.toList
/-- The error of the function at a place. -/
def fnE (n : Nat) (K : List Kt) (i : Nat) (x : Kt) : Int :=
  if nameB x.nm = false then 6 else if twF K i x.nm = true then 20 else if 8 < x.ps.length then 4 else if sgD n x.ps x.rt = false then 22 else if x.lo < (x.ps.length : Int) ∨ 16 < x.lo then 5 else if x.cd.length = 0 then 2 else if 4096 < x.cd.length then 4 else 0
theorem entR_some : ∀ (L : List Fn) (s : ByteArray) (k : Nat), (entR L s k).isSome = L.any fun x => x.nm.toList == s.toList
  | [], s, k => rfl
  | f :: l, s, k => by
    rw [entR, List.any_cons]
    cases h : (f.nm.toList == s.toList)
    · rw [if_neg (by simp), entR_some l s (k + 1)]; rfl
    · rw [if_pos rfl]; rfl
theorem entB_tw (F : List Fn) (i : Nat) (s : ByteArray) : entB (F.take i) s = twF (F.map fnK) i s := by
  unfold entB twF
  rw [entR_some, ← List.map_take, List.any_map]
  rfl
theorem twF_no {K : List Kt} {i : Nat} {s : ByteArray} (h : ∀ (j : Nat) x, j < i → K[j]? = some x → (x.nm.toList == s.toList) = false) : twF K i s = false := by
  unfold twF
  rw [List.any_eq_false]
  intro x hx
  obtain ⟨j, hj, e⟩ := List.mem_iff_getElem.1 hx
  rw [List.length_take] at hj
  rw [h j x (by omega) (by rw [← e, List.getElem_take]; exact List.getElem?_eq_getElem _)]
  simp
theorem twF_yes {K : List Kt} {i j : Nat} {s : ByteArray} {x : Kt} (hj : j < i) (hx : K[j]? = some x) (h : (x.nm.toList == s.toList) = true) : twF K i s = true := by
  unfold twF
  rw [List.any_eq_true]
  refine ⟨x, List.mem_of_getElem? (i := j) ?_, h⟩
  rw [List.getElem?_take_of_lt hj]
  exact hx

theorem isStoredM_any (ao : Option Addr) (c n t : Nat) (w : World) (ht : t < 256) :
    Calls Tryz.prog 118 #[.slice ao n c, .int .u8 (t : Int)] w fun e w' => e = .returned (.bool (storedD n t)) ∧ w' = w := by
  have HV := hide (Valid_any ao n c t w ht)
  have HQ : Hid (storedD n t = (validD n t && decide (t ≠ 0) && decide (t ≠ 3))) := hide rfl
  go_enter Tryz.func118, Tryz.ntmps118
  go_wp2_with fail
  refine (unhide HV).mono ?_
  rintro e W ⟨rfl, rfl⟩
  cases hv : validD n t
  · have HR : Hid (storedD n t = false) := hide (by rw [unhide HQ, hv]; rfl)
    clear hv
    go_wp2
    go_ret
    exact ⟨ret_bool (unhide HR).symm, rfl⟩
  by_cases h0 : t = 0
  · have HR : Hid (storedD n t = false) := hide (by rw [unhide HQ]; simp [h0])
    have b0 : (((t : Nat) : Int) != 0) = false := bne_f (by omega)
    clear hv h0
    go_wp2
    go_ret
    exact ⟨ret_bool (unhide HR).symm, rfl⟩
  have b0 : (((t : Nat) : Int) != 0) = true := bne_t (by omega)
  by_cases h3 : t = 3
  · have HR : Hid (storedD n t = false) := hide (by rw [unhide HQ]; simp [h3])
    have b3 : (((t : Nat) : Int) != 3) = false := bne_f (by omega)
    clear hv h0 h3
    go_wp2
    go_ret
    exact ⟨ret_bool (unhide HR).symm, rfl⟩
  · have HR : Hid (storedD n t = true) := hide (by rw [unhide HQ, hv]; simp [h0, h3])
    have b3 : (((t : Nat) : Int) != 3) = true := bne_t (by omega)
    clear hv h0 h3
    go_wp2
    go_ret
    exact ⟨ret_bool (unhide HR).symm, rfl⟩

set_option maxRecDepth 20000 in
set_option maxHeartbeats 2000000 in
theorem mayStand_any (ao : Option Addr) (n cap : Nat) (po : Option Addr) (pc : Nat) (ps : List Nat) (rt : Nat) (w : World) (hP : PAt w po ps) (hp : ∀ t ∈ ps, t < 256) (h8 : ps.length ≤ 8) (hr : rt < 256) :
    Calls Tryz.prog 90 #[.slice ao n cap, .agg #[.slice po ps.length pc, .int .u8 (rt : Int)]] w fun e w' => e = .returned (.bool (sgD n ps rt)) ∧ Below w.heap.size w w' := by
  have al := (Below.refl w.heap.size w).alloc (Nat.le_refl _) (.cells #[.slice po ps.length pc, .int .u8 (rt : Int)] 42)
  have HB := hide al
  have HC : Hid (SBx (w.alloc (.cells #[.slice po ps.length pc, .int .u8 (rt : Int)] 42)) w.heap.size (.slice po ps.length pc) rt) := hide (heap_alloc_new w _)
  have HP := hide (hP.below al)
  have HPB := hide hp
  clear al hP hp
  go_enter Tryz.func90, Tryz.ntmps90
  go_upto_region 1 with fail
  generalize (w.alloc (.cells #[.slice po ps.length pc, .int .u8 (rt : Int)] 42)) = W1 at HB HC HP ⊢
  have k1 := (unhide HC).c0
  have k2 := (unhide HC).c1
  go_wp2_with fail
  go_loopw [10] (fun i wr => ∃ k : Nat, k ≤ ps.length ∧ i = .int .i64 (k : Int) ∧ Hid (∀ j t, j < k → ps[j]? = some t → storedD n t = true) ∧ wr = W1) (fun i _ => ps.length - (intOf i).toNat)
  case atStart => exact ⟨0, by omega, rfl, hide (fun j t h => by omega), rfl⟩
  case round =>
    obtain ⟨k, hk, rfl, HK, rfl⟩ := hrel
    by_cases hlt : k < ps.length
    · have j1 : ((k : Nat) : Int) < ((ps.length : Nat) : Int) := by omega
      have hx := List.getElem?_eq_getElem hlt
      have x256 := unhide HPB _ (List.getElem_mem hlt)
      obtain ⟨b, off, eb, cx⟩ := unhide HP k _ hx
      have HXX := hide hx
      generalize ps[k] = x at cx x256 HXX
      rw [eb]
      rw [eb] at k1
      clear hx
      go_wp2_with fail
      refine (isStoredM_any ao cap n x _ x256).mono ?_
      rintro e W2 ⟨rfl, rfl⟩
      cases hv : storedD n x
      · have HR : Hid (sgD n ps rt = false) := hide (by
          have : ps.all (storedD n) = false := by
            cases hq : ps.all (storedD n)
            · rfl
            · rw [List.all_eq_true] at hq
              have := hq x (List.mem_of_getElem? (unhide HXX))
              rw [hv] at this
              cases this
          unfold sgD
          rw [this]
          rfl)
        clear hv
        go_wp2
        go_ret
        exact ⟨ret_boolG (unhide HR).symm, unhide HB⟩
      · have HK2 : Hid (∀ j t, j < k + 1 → ps[j]? = some t → storedD n t = true) := hide (fun j t h1 h2 => by
          by_cases e : j = k
          · rw [e, unhide HXX] at h2
            injection h2 with h2
            rw [← h2]; exact hv
          · exact unhide HK j t (by omega) h2)
        clear hv HK HXX
        go_wp2
        go_roundw
        case rel => exact ⟨k + 1, by omega, by go_num, HK2, trivial⟩
        case measure => simp [intOf]; omega
    · have j1 : ¬ ((k : Nat) : Int) < ((ps.length : Nat) : Int) := by omega
      have HA : Hid (ps.all (storedD n) = true) := hide (by
        rw [List.all_eq_true]
        intro t ht
        obtain ⟨j, hj, rfl⟩ := List.getElem_of_mem ht
        exact unhide HK j _ (by omega) (List.getElem?_eq_getElem hj))
      by_cases h0 : rt = 0
      · subst h0
        have HR : Hid (sgD n ps 0 = true) := hide (by unfold sgD; rw [unhide HA]; rfl)
        have k2' : wr.cell? ⟨w.heap.size, 1, none⟩ = some (.int .u8 0) := k2
        clear k2 HK
        go_wp2
        go_ret
        exact ⟨ret_boolG (unhide HR).symm, unhide HB⟩
      · have HR : Hid (sgD n ps rt = storedD n rt) := hide (by unfold sgD; rw [unhide HA, show (rt == 0) = false from by simpa using h0]; rfl)
        have b1 : (((rt : Nat) : Int) == 0) = false := by simp; omega
        clear HK
        go_wp2_with fail
        refine (isStoredM_any ao cap n rt _ hr).mono ?_
        rintro e W2 ⟨rfl, rfl⟩
        go_wp2
        go_ret
        exact ⟨ret_boolG (unhide HR).symm, unhide HB⟩

/-- The boxes of a module and a function. -/
structure CB (w W : World) (m : Md) (f : Fn) : Prop where
  m : Bx W w.heap.size 26 #[.string m.nm, .slice m.ao m.T.length m.cap, .slice m.fo m.F.length m.fc, .slice m.co m.C.length m.cc]
  f : Bx W (w.heap.size + 1) 44 #[.string f.nm, .slice f.sg.po f.sg.ps.length f.sg.pc, .int .u8 (f.sg.rt : Int), .int .i64 f.lo, .slice f.ca f.cd.length f.cc]
  bel : Below w.heap.size w W
theorem CB.below {w W W' : World} {m : Md} {f : Fn} (h : CB w W m f) (hb : Below W.heap.size W W') : CB w W' m f := ⟨h.m.below hb, h.f.below hb, h.bel.trans (hb.mono h.bel.size)⟩

set_option maxRecDepth 20000 in
set_option maxHeartbeats 8000000 in
theorem checkFunc_any (m : Md) (i : Nat) (f : Fn) (w : World) (hF : FnsAt w m.fo m.F) (hfz : m.F.length * 80 ≤ 140737488351232) (hfc : m.F.length ≤ m.fc) (hi : m.F[i]? = some f) (hok : FnOk w f) :
    Calls Tryz.prog 42 #[.agg #[.string m.nm, .slice m.ao m.T.length m.cap, .slice m.fo m.F.length m.fc, .slice m.co m.C.length m.cc], .int .i64 (i : Int), .agg #[.string f.nm, .slice f.sg.po f.sg.ps.length f.sg.pc, .int .u8 (f.sg.rt : Int), .int .i64 f.lo, .slice f.ca f.cd.length f.cc]] w fun e w' => e = .returned (.int .i64 (fnE m.T.length (m.F.map fnK) i (fnK f))) ∧ Below w.heap.size w w' := by
  have al1 := (Below.refl w.heap.size w).alloc (Nat.le_refl _) (.cells #[.string m.nm, .slice m.ao m.T.length m.cap, .slice m.fo m.F.length m.fc, .slice m.co m.C.length m.cc] 26)
  have al := al1.alloc (by simp) (.cells #[.string f.nm, .slice f.sg.po f.sg.ps.length f.sg.pc, .int .u8 (f.sg.rt : Int), .int .i64 f.lo, .slice f.ca f.cd.length f.cc] 44)
  have n1 := heap_alloc_new w (.cells #[.string m.nm, .slice m.ao m.T.length m.cap, .slice m.fo m.F.length m.fc, .slice m.co m.C.length m.cc] 26)
  have n2 := heap_alloc_new (w.alloc (.cells #[.string m.nm, .slice m.ao m.T.length m.cap, .slice m.fo m.F.length m.fc, .slice m.co m.C.length m.cc] 26)) (.cells #[.string f.nm, .slice f.sg.po f.sg.ps.length f.sg.pc, .int .u8 (f.sg.rt : Int), .int .i64 f.lo, .slice f.ca f.cd.length f.cc] 44)
  rw [World.size_alloc] at n2
  have HX : Hid (CB w ((w.alloc (.cells #[.string m.nm, .slice m.ao m.T.length m.cap, .slice m.fo m.F.length m.fc, .slice m.co m.C.length m.cc] 26)).alloc (.cells #[.string f.nm, .slice f.sg.po f.sg.ps.length f.sg.pc, .int .u8 (f.sg.rt : Int), .int .i64 f.lo, .slice f.ca f.cd.length f.cc] 44)) m f) := hide ⟨(((Below.refl _ _).alloc (Nat.le_refl _) _).block w.heap.size (by simp)).trans n1, n2, al⟩
  clear al1 al n1 n2
  have hil := (List.getElem?_eq_some_iff.1 hi).1
  have HF := hide (fun W (hb : Below w.heap.size w W) => Entry_any ⟨⟨#[]⟩, none, 0, [], m.fo, m.fc, m.F.take i, none, 0, []⟩ f.nm W (fun j x hx => (hF.below hb) j x (by rw [List.getElem?_take] at hx; split at hx <;> simp_all)) (by show (m.F.take i).length * 80 ≤ _; rw [List.length_take]; omega))
  simp only [List.length_take, Nat.min_eq_left (Nat.le_of_lt hil), entB_tw] at HF
  have HOK := hide hok
  generalize entN (m.F.take i) f.nm = en at HF
  have i0 : (0 : Int) ≤ ((i : Nat) : Int) := by omega
  have i1 : ((i : Nat) : Int) ≤ ((m.fc : Nat) : Int) := by omega
  have i3 : m.fc ≠ 0 := by omega
  have hmap : Option.map (fun x : Addr => x.add 0) m.fo = m.fo := by
    cases m.fo with
    | none => rfl
    | some x => cases x; simp [Addr.add]
  clear hF hfz hfc hi hok
  go_enter Tryz.func42, Tryz.ntmps42
  go_upto_region 1 with fail
  generalize ((w.alloc (.cells #[.string m.nm, .slice m.ao m.T.length m.cap, .slice m.fo m.F.length m.fc, .slice m.co m.C.length m.cc] 26)).alloc (.cells #[.string f.nm, .slice f.sg.po f.sg.ps.length f.sg.pc, .int .u8 (f.sg.rt : Int), .int .i64 f.lo, .slice f.ca f.cd.length f.cc] 44)) = W1 at HX ⊢
  have HX301 := hide ((unhide HX).below (below_drew W1 1))
  refine wp_region_held_drew (S := fun w' => CB w w' m f) (by kernel_rfl) (unhide HX301) (fun hS303 => ?_)
  clear HX
  generalize hWd : W1.drewN 1 = W302 at HX301
  change W1.drew = W302 at hWd
  rw [hWd] at hS303 ⊢
  clear hWd
  refine wpAnyH_take (i := 0) (v := .pointer (some ⟨w.heap.size, 2, none⟩)) rfl (by kernel_rfl) (by kernel_rfl) (by kernel_rfl) (fun _ _ _ h => h) (Or.inl ⟨by rfl, fun w _ => by go_simp⟩) hS303 ?_
  refine wpAnyH_take (i := 1) (v := .slice m.fo m.F.length m.fc) rfl (by kernel_rfl) (by kernel_rfl) (by kernel_rfl) (fun _ _ _ h => h) (Or.inl ⟨by rfl, fun W h => by have h0 := h.m.c 2 rfl; go_simp⟩) hS303 ?_
  refine wpAnyH_take (i := 2) (v := .int .i64 (i : Int)) rfl (by kernel_rfl) (by kernel_rfl) (by kernel_rfl) (fun _ _ _ h => h) (Or.inl ⟨by rfl, fun w _ => by go_simp⟩) hS303 ?_
  refine wpAnyH_take (i := 3) (v := .slice m.fo i m.fc) rfl (by kernel_rfl) (by kernel_rfl) (by kernel_rfl) (fun _ _ _ h => h) (Or.inl ⟨by rfl, fun w _ => by go_simp⟩) hS303 ?_
  refine wpAnyH_take (i := 4) (v := .agg #[.string ⟨#[]⟩, .slice none 0 0, .slice m.fo i m.fc, .slice none 0 0]) rfl (by kernel_rfl) (by kernel_rfl) (by kernel_rfl) (fun _ _ _ h => h) (Or.inl ⟨by rfl, fun w _ => by go_simp⟩) hS303 ?_
  refine wpAnyH_take (i := 5) (v := .pointer (some ⟨w.heap.size + 1, 0, none⟩)) rfl (by kernel_rfl) (by kernel_rfl) (by kernel_rfl) (fun _ _ _ h => h) (Or.inl ⟨by rfl, fun w _ => by go_simp⟩) hS303 ?_
  refine wpAnyH_take (i := 6) (v := .string f.nm) rfl (by kernel_rfl) (by kernel_rfl) (by kernel_rfl) (fun _ _ _ h => h) (Or.inl ⟨by rfl, fun W h => by have h0 := h.f.c 0 rfl; go_simp⟩) hS303 ?_
  refine wpAnyH_ready (rs := [7]) (by kernel_rfl) (by simp) ?_
  refine AllReadyH.cons rfl (fun K hK => ?_) AllReadyH.nil
  go_simp
  go_wp2_with (go_at_call 89; refine (unhide HF W302 (unhide HX301).bel).mono ?_; rintro e W304 ⟨rfl, hB305⟩)
  have HX306 := hide ((unhide HX301).below hB305)
  refine hK.out _ _ (unhide HX306) (fun hS307 => ?_)
  clear hK K hS303 HX301 hB305
  refine wpAnyH_take (i := 8) (v := .tuple #[.int .i64 (en : Int), .bool (twF (m.F.map fnK) i f.nm)]) rfl (by kernel_rfl) (by kernel_rfl) (by kernel_rfl) (fun _ _ _ h => h) (Or.inl ⟨by rfl, fun w _ => by go_simp⟩) hS307 ?_
  refine wpAnyH_take (i := 9) (v := .int .i64 (en : Int)) rfl (by kernel_rfl) (by kernel_rfl) (by kernel_rfl) (fun _ _ _ h => h) (Or.inl ⟨by rfl, fun w _ => by go_simp⟩) hS307 ?_
  refine wpAnyH_take (i := 10) (v := .bool (twF (m.F.map fnK) i f.nm)) rfl (by kernel_rfl) (by kernel_rfl) (by kernel_rfl) (fun _ _ _ h => h) (Or.inl ⟨by rfl, fun w _ => by go_simp⟩) hS307 ?_
  refine wpAnyH_ready (rs := [11]) (by kernel_rfl) (by simp) ?_
  refine AllReadyH.cons rfl (fun K hK => ?_) AllReadyH.nil
  go_simp
  refine hK.out _ _ (unhide HX306) (fun hS308 => ?_)
  clear hK K hS307
  refine wpAnyH_ready (rs := [12]) (by kernel_rfl) (by simp) ?_
  refine AllReadyH.cons rfl (fun K hK => ?_) AllReadyH.nil
  go_simp
  refine hK.out _ _ (unhide HX306) (fun hS309 => ?_)
  clear hK K hS308
  refine wpAnyH_done (by kernel_rfl) ?_ _
  have HX4 := HX306
  generalize W304 = W4 at HX4 ⊢
  clear HF hmap
  have k0 := (unhide HX4).f.c 0 rfl
  have HN := hide (IsName_any f.nm W4 (by have := (unhide HOK).name; unfold maxLen; omega))
  go_wp2_with fail
  refine (unhide HN).mono ?_
  rintro e W5 ⟨rfl, rfl⟩
  clear k0 HN
  obtain ⟨W4, HW4⟩ : ∃ x, x = W5 := ⟨_, rfl⟩
  subst HW4
  cases hn : nameB f.nm
  · have HR : Hid (fnE m.T.length (m.F.map fnK) i (fnK f) = 6) := hide (by simp [fnE, fnK, hn])
    clear hn
    go_wp2
    go_ret
    exact ⟨ret_int (unhide HR).symm, (unhide HX4).bel⟩
  cases hw : twF (m.F.map fnK) i f.nm
  rotate_left
  · have HR : Hid (fnE m.T.length (m.F.map fnK) i (fnK f) = 20) := hide (by simp [fnE, fnK, hn, hw])
    clear hn hw
    go_wp2
    go_ret
    exact ⟨ret_int (unhide HR).symm, (unhide HX4).bel⟩
  have k3 := (unhide HX4).f.c 1 rfl
  have k4 := (unhide HX4).f.c 2 rfl
  have k5 := (unhide HX4).m.c 1 rfl
  by_cases h8 : 8 < f.sg.ps.length
  · have i8 : ((f.sg.ps.length : Nat) : Int) > 8 := by omega
    have HR : Hid (fnE m.T.length (m.F.map fnK) i (fnK f) = 4) := hide (by simp [fnE, fnK, hn, hw, h8])
    clear hn hw h8
    go_wp2
    go_ret
    exact ⟨ret_int (unhide HR).symm, (unhide HX4).bel⟩
  have i8 : ¬ ((f.sg.ps.length : Nat) : Int) > 8 := by omega
  have HMS := hide (mayStand_any m.ao m.T.length m.cap f.sg.po f.sg.pc f.sg.ps f.sg.rt W4 ((unhide HOK).sg.prm.below (unhide HX4).bel) (unhide HOK).sg.bts (by omega) (unhide HOK).sg.res)
  go_wp2_with fail
  refine (unhide HMS).mono ?_
  rintro e W5 ⟨rfl, hb5⟩
  have HX5 := hide ((unhide HX4).below hb5)
  clear k3 k4 k5 HMS HX4 hb5
  cases hg : sgD m.T.length f.sg.ps f.sg.rt
  · have h8e := h8
    have HR : Hid (fnE m.T.length (m.F.map fnK) i (fnK f) = 22) := hide (by simp [fnE, fnK, hn, hw, h8, hg])
    clear hn hw h8 hg h8e
    go_wp2
    go_ret
    exact ⟨ret_int (unhide HR).symm, (unhide HX5).bel⟩
  have k3 := (unhide HX5).f.c 1 rfl
  have k4 := (unhide HX5).f.c 3 rfl
  have k5 := (unhide HX5).f.c 4 rfl
  by_cases hl1 : f.lo < (f.sg.ps.length : Int)
  · have hl1e := hl1
    have HR : Hid (fnE m.T.length (m.F.map fnK) i (fnK f) = 5) := hide (by simp [fnE, fnK, hn, hw, h8, hg, hl1])
    clear hn hw h8 hg
    go_wp2
    go_ret
    exact ⟨ret_int (unhide HR).symm, (unhide HX5).bel⟩
  by_cases hl2 : 16 < f.lo
  · have i16 : f.lo > 16 := hl2
    have HR : Hid (fnE m.T.length (m.F.map fnK) i (fnK f) = 5) := hide (by simp [fnE, fnK, hn, hw, h8, hg, hl2])
    clear hn hw h8 hg
    go_wp2
    go_ret
    exact ⟨ret_int (unhide HR).symm, (unhide HX5).bel⟩
  have i16 : ¬ f.lo > 16 := hl2
  by_cases hc0 : f.cd.length = 0
  · have c0 : (((f.cd.length : Nat) : Int) == 0) = true := beq_t (by omega)
    have HR : Hid (fnE m.T.length (m.F.map fnK) i (fnK f) = 2) := hide (by simp [fnE, fnK, hn, hw, h8, hg, hl1, hl2, hc0])
    clear hn hw h8 hg hc0
    go_wp2
    go_ret
    exact ⟨ret_int (unhide HR).symm, (unhide HX5).bel⟩
  have c0 : (((f.cd.length : Nat) : Int) == 0) = false := beq_f (by omega)
  by_cases hc1 : 4096 < f.cd.length
  · have c1 : ((f.cd.length : Nat) : Int) > 4096 := by omega
    have hc0' : ¬ f.cd = [] := fun e => hc0 (by rw [e]; rfl)
    have HR : Hid (fnE m.T.length (m.F.map fnK) i (fnK f) = 4) := hide (by simp [fnE, fnK, hn, hw, h8, hg, hl1, hl2, hc0', hc1])
    clear hn hw h8 hg hc0 hc0' hc1
    go_wp2
    go_ret
    exact ⟨ret_int (unhide HR).symm, (unhide HX5).bel⟩
  · have c1 : ¬ ((f.cd.length : Nat) : Int) > 4096 := by omega
    have hc0' : ¬ f.cd = [] := fun e => hc0 (by rw [e]; rfl)
    have HR : Hid (fnE m.T.length (m.F.map fnK) i (fnK f) = 0) := hide (by simp [fnE, fnK, hn, hw, h8, hg, hl1, hl2, hc0', hc1])
    clear hn hw h8 hg hc0 hc0' hc1
    go_wp2
    go_ret
    exact ⟨ret_int (unhide HR).symm, (unhide HX5).bel⟩
end Go.Proofs.YtibgfdjopikafaaGreatDoor

/-
  provisoref16.function, module.checkCerts, module.Check and provisoref16.Check: which class or function of a module is at fault, plainly. Conditions: lengths fit.
-/
namespace Go.Proofs.YtibgfdjopikafaaGreatDoor
open Go.RowKit
set_option maxRecDepth 20000

set_option maxRecDepth 20000 in
set_option maxHeartbeats 8000000 in
theorem refFunction_any (m : Md) (i : Nat) (f : Fn) (w : World) (hF : FnsAt w m.fo m.F) (hfz : m.F.length * 80 ≤ 140737488351232) (hi : m.F[i]? = some f) :
    Calls Tryz.prog 60 #[.agg #[.string m.nm, .slice m.ao m.T.length m.cap, .slice m.fo m.F.length m.fc, .slice m.co m.C.length m.cc], .int .i64 (i : Int)] w fun e w' => e = .returned (.int .i64 (fnE m.T.length (m.F.map fnK) i (fnK f))) ∧ Below w.heap.size w w' := by
  obtain ⟨b0, off0, eb0, hfa⟩ := hF i f hi
  have HOK := hide hfa.ok
  have hok := hfa.ok
  have al0 := (Below.refl w.heap.size w).alloc (Nat.le_refl _) (.cells #[.string m.nm, .slice m.ao m.T.length m.cap, .slice m.fo m.F.length m.fc, .slice m.co m.C.length m.cc] 26)
  have al1 := (Below.refl w.heap.size w).alloc (Nat.le_refl _) (.cells #[.string m.nm, .slice m.ao m.T.length m.cap, .slice m.fo m.F.length m.fc, .slice m.co m.C.length m.cc] 26)
  have al := al1.alloc (by simp) (.cells #[.string f.nm, .slice f.sg.po f.sg.ps.length f.sg.pc, .int .u8 (f.sg.rt : Int), .int .i64 f.lo, .slice f.ca f.cd.length f.cc] 44)
  have n1 := heap_alloc_new w (.cells #[.string m.nm, .slice m.ao m.T.length m.cap, .slice m.fo m.F.length m.fc, .slice m.co m.C.length m.cc] 26)
  have n2 := heap_alloc_new (w.alloc (.cells #[.string m.nm, .slice m.ao m.T.length m.cap, .slice m.fo m.F.length m.fc, .slice m.co m.C.length m.cc] 26)) (.cells #[.string f.nm, .slice f.sg.po f.sg.ps.length f.sg.pc, .int .u8 (f.sg.rt : Int), .int .i64 f.lo, .slice f.ca f.cd.length f.cc] 44)
  rw [World.size_alloc] at n2
  have HX : Hid (CB w ((w.alloc (.cells #[.string m.nm, .slice m.ao m.T.length m.cap, .slice m.fo m.F.length m.fc, .slice m.co m.C.length m.cc] 26)).alloc (.cells #[.string f.nm, .slice f.sg.po f.sg.ps.length f.sg.pc, .int .u8 (f.sg.rt : Int), .int .i64 f.lo, .slice f.ca f.cd.length f.cc] 44)) m f) := hide ⟨(((Below.refl _ _).alloc (Nat.le_refl _) _).block w.heap.size (by simp)).trans n1, n2, al⟩
  clear al1 al n1 n2
  have HFS := hide hF
  have HA := hide (hfa.below al0)
  have hil := (List.getElem?_eq_some_iff.1 hi).1
  have HB0 : Hid (Bx (w.alloc (.cells #[.string m.nm, .slice m.ao m.T.length m.cap, .slice m.fo m.F.length m.fc, .slice m.co m.C.length m.cc] 26)) w.heap.size 26 #[.string m.nm, .slice m.ao m.T.length m.cap, .slice m.fo m.F.length m.fc, .slice m.co m.C.length m.cc]) := hide (heap_alloc_new w _)
  have i1 : ((i : Nat) : Int) < ((m.F.length : Nat) : Int) := by omega
  have i0 : (0 : Int) ≤ ((i : Nat) : Int) := by omega
  have hil2 : i < 9223372036854775000 := by omega
  have HEB := hide eb0
  clear hF hfz hok al0 hfa eb0
  go_enter Tryz.func60, Tryz.ntmps60
  go_upto_region 1 with fail
  have q0 : (w.alloc (.cells #[.string m.nm, .slice m.ao m.T.length m.cap, .slice m.fo m.F.length m.fc, .slice m.co m.C.length m.cc] 26)).cell? ⟨w.heap.size, 2, none⟩ = some (.slice (some ⟨b0, off0, none⟩) m.F.length m.fc) := by rw [← unhide HEB]; exact (unhide HB0).c 2 rfl
  have q1 := (unhide HA).c0
  have q2 := (unhide HA).c1
  have q3 := (unhide HA).c2
  have q4 := (unhide HA).c3
  have q5 := (unhide HA).c4
  clear HA HB0
  generalize HG : w.alloc (.cells #[.string m.nm, .slice m.ao m.T.length m.cap, .slice m.fo m.F.length m.fc, .slice m.co m.C.length m.cc] 26) = W0 at q0 q1 q2 q3 q4 q5 HX ⊢
  have hW0 : W0.heap.size = w.heap.size + 1 := by rw [← HG]; simp
  clear HG
  have HSZ := hide hW0
  clear hW0
  go_upto_region 2 with fail
  rw [unhide HSZ]
  clear q0 q1 q2 q3 q4 q5
  generalize W0.alloc (.cells #[.string f.nm, .slice f.sg.po f.sg.ps.length f.sg.pc, .int .u8 (f.sg.rt : Int), .int .i64 f.lo, .slice f.ca f.cd.length f.cc] 44) = W4 at HX ⊢
  have k0 := (unhide HX).f.c 0 rfl
  have HN := hide (refName_any f.nm W4 (by have := (unhide HOK).name; unfold maxLen; omega))
  go_wp2_with fail
  refine (unhide HN).mono ?_
  rintro e W5 ⟨rfl, rfl⟩
  clear k0 HN
  obtain ⟨W3, HW3⟩ : ∃ x, x = W5 := ⟨_, rfl⟩
  subst HW3
  cases hn : nameB f.nm
  · have HR : Hid (fnE m.T.length (m.F.map fnK) i (fnK f) = 6) := hide (by simp [fnE, fnK, hn])
    clear hn
    go_wp2
    go_ret
    exact ⟨ret_int (unhide HR).symm, (unhide HX).bel⟩
  have HNN := hide hn
  clear hn
  go_wp2_with fail
  go_loopw [6] (fun j wr => ∃ k : Nat, k ≤ i ∧ j = .int .i64 (k : Int) ∧ Hid (∀ (j : Nat) x, j < k → (m.F.map fnK)[j]? = some x → (x.nm.toList == f.nm.toList) = false) ∧ ∃ q, wr = W3.drewN q) (fun j _ => i - (intOf j).toNat)
  case atStart => exact ⟨0, by omega, rfl, hide (fun j x h => by omega), 0, rfl⟩
  case round =>
    obtain ⟨k, hk, rfl, HK, q, rfl⟩ := hrel
    obtain ⟨W4, HW4⟩ : ∃ W, Hid (W3.drewN q = W) := ⟨_, hide rfl⟩
    have hbW : Below W3.heap.size W3 W4 := by rw [← unhide HW4]; exact below_drew _ _
    have HX4 := hide ((unhide HX).below hbW)
    rw [unhide HW4]
    clear hbW
    by_cases hlt : k < i
    · have j1 : ((k : Nat) : Int) < ((i : Nat) : Int) := by omega
      have j2 : ((k : Nat) : Int) < ((m.F.length : Nat) : Int) := by omega
      have j0 : (0 : Int) ≤ ((k : Nat) : Int) := by omega
      have hx := List.getElem?_eq_getElem (show k < m.F.length by omega)
      obtain ⟨b, off, eb, hxa⟩ := (unhide HFS).below (unhide HX4).bel k _ hx
      generalize m.F[k]'(by omega) = x at hx hxa
      have hxk : (m.F.map fnK)[k]? = some (fnK x) := by rw [List.getElem?_map, hx]; rfl
      have HXK := hide hxk
      have p0 := hxa.c0
      have p1 := (unhide HX4).f.c 0 rfl
      have p2 := (unhide HX4).m.c 2 rfl
      rw [eb] at p2
      clear hx hxk hxa eb
      cases hq : (x.nm.toList == f.nm.toList)
      · have HK2 : Hid (∀ (j : Nat) x, j < k + 1 → (m.F.map fnK)[j]? = some x → (x.nm.toList == f.nm.toList) = false) := hide (fun j y h1 h2 => by
          by_cases e : j = k
          · rw [e, unhide HXK] at h2
            injection h2 with h2
            rw [← h2]; exact hq
          · exact unhide HK j y (by omega) h2)
        go_wp2
        go_quiet (fail)
        go_wp2
        go_roundw
        case rel => exact ⟨k + 1, by omega, by go_num, HK2, q + nq, by rw [← unhide HW4, drew2]⟩
        case measure => simp [intOf]; omega
      · have hw : twF (m.F.map fnK) i f.nm = true := twF_yes hlt (unhide HXK) hq
        have hn := unhide HNN
        have HR : Hid (fnE m.T.length (m.F.map fnK) i (fnK f) = 20) := hide (by simp [fnE, fnK, hn, hw])
        clear hn hw
        go_wp2
        go_quiet (fail)
        go_wp2
        go_ret
        exact ⟨ret_int (unhide HR).symm, belowD (unhide HX4).bel _⟩
    · have j1 : ¬ ((k : Nat) : Int) < ((i : Nat) : Int) := by omega
      have hw : twF (m.F.map fnK) i f.nm = false := twF_no (fun j x h1 h2 => unhide HK j x (by omega) h2)
      have hn := unhide HNN
      have k3 := (unhide HX4).f.c 1 rfl
      have k4 := (unhide HX4).f.c 2 rfl
      have k5 := (unhide HX4).m.c 1 rfl
      by_cases h8 : 8 < f.sg.ps.length
      · have i8 : ((f.sg.ps.length : Nat) : Int) > 8 := by omega
        have HR : Hid (fnE m.T.length (m.F.map fnK) i (fnK f) = 4) := hide (by simp [fnE, fnK, hn, hw, h8])
        clear hn hw h8
        go_wp2
        go_ret
        exact ⟨ret_int (unhide HR).symm, (unhide HX4).bel⟩
      have i8 : ¬ ((f.sg.ps.length : Nat) : Int) > 8 := by omega
      have HMS := hide (SigMay_any m.ao m.T.length m.cap f.sg.po f.sg.pc f.sg.ps f.sg.rt W4 ((unhide HOK).sg.prm.below (unhide HX4).bel) (unhide HOK).sg.bts (by omega) (unhide HOK).sg.res)
      go_wp2_with fail
      refine (unhide HMS).mono ?_
      rintro e W5 ⟨rfl, hb5⟩
      have HX5 := hide ((unhide HX4).below hb5)
      clear k3 k4 k5 HMS HX4 hb5
      cases hg : sgD m.T.length f.sg.ps f.sg.rt
      · have h8e := h8
        have HR : Hid (fnE m.T.length (m.F.map fnK) i (fnK f) = 22) := hide (by simp [fnE, fnK, hn, hw, h8, hg])
        clear hn hw h8 hg h8e
        go_wp2
        go_ret
        exact ⟨ret_int (unhide HR).symm, (unhide HX5).bel⟩
      have k3 := (unhide HX5).f.c 1 rfl
      have k4 := (unhide HX5).f.c 3 rfl
      have k5 := (unhide HX5).f.c 4 rfl
      by_cases hl1 : f.lo < (f.sg.ps.length : Int)
      · have hl1e := hl1
        have HR : Hid (fnE m.T.length (m.F.map fnK) i (fnK f) = 5) := hide (by simp [fnE, fnK, hn, hw, h8, hg, hl1])
        clear hn hw h8 hg
        go_wp2
        go_ret
        exact ⟨ret_int (unhide HR).symm, (unhide HX5).bel⟩
      by_cases hl2 : 16 < f.lo
      · have i16 : f.lo > 16 := hl2
        have HR : Hid (fnE m.T.length (m.F.map fnK) i (fnK f) = 5) := hide (by simp [fnE, fnK, hn, hw, h8, hg, hl2])
        clear hn hw h8 hg
        go_wp2
        go_ret
        exact ⟨ret_int (unhide HR).symm, (unhide HX5).bel⟩
      have i16 : ¬ f.lo > 16 := hl2
      by_cases hc0 : f.cd.length = 0
      · have c0 : (((f.cd.length : Nat) : Int) == 0) = true := beq_t (by omega)
        have HR : Hid (fnE m.T.length (m.F.map fnK) i (fnK f) = 2) := hide (by simp [fnE, fnK, hn, hw, h8, hg, hl1, hl2, hc0])
        clear hn hw h8 hg hc0
        go_wp2
        go_ret
        exact ⟨ret_int (unhide HR).symm, (unhide HX5).bel⟩
      have c0 : (((f.cd.length : Nat) : Int) == 0) = false := beq_f (by omega)
      by_cases hc1 : 4096 < f.cd.length
      · have c1 : ((f.cd.length : Nat) : Int) > 4096 := by omega
        have hc0' : ¬ f.cd = [] := fun e => hc0 (by rw [e]; rfl)
        have HR : Hid (fnE m.T.length (m.F.map fnK) i (fnK f) = 4) := hide (by simp [fnE, fnK, hn, hw, h8, hg, hl1, hl2, hc0', hc1])
        clear hn hw h8 hg hc0 hc0' hc1
        go_wp2
        go_ret
        exact ⟨ret_int (unhide HR).symm, (unhide HX5).bel⟩
      · have c1 : ¬ ((f.cd.length : Nat) : Int) > 4096 := by omega
        have hc0' : ¬ f.cd = [] := fun e => hc0 (by rw [e]; rfl)
        have HR : Hid (fnE m.T.length (m.F.map fnK) i (fnK f) = 0) := hide (by simp [fnE, fnK, hn, hw, h8, hg, hl1, hl2, hc0', hc1])
        clear hn hw h8 hg hc0 hc0' hc1
        go_wp2
        go_ret
        exact ⟨ret_int (unhide HR).symm, (unhide HX5).bel⟩

/-- The first slice that is too long. -/
def ctR : List (List UInt8) → Nat → Option Nat
  | [], _ => none
  | c :: l, k => if 65535 < c.length then some k else ctR l (k + 1)
def ctE (n : Nat) (C : List (List UInt8)) : Nat × Int := if 0 < C.length ∧ C.length ≠ n then (0, 162) else match ctR C 0 with | some k => (k, 4) | none => (0, 0)
theorem ctR_drop {L : List (List UInt8)} {k : Nat} {x : List UInt8} (h : L[k]? = some x) : ctR (L.drop k) k = if 65535 < x.length then some k else ctR (L.drop (k + 1)) (k + 1) := by
  obtain ⟨hk, e⟩ := List.getElem?_eq_some_iff.1 h
  rw [List.drop_eq_getElem_cons hk, ctR, e]
/-- The first function at fault. -/
def fltR (n : Nat) (K : List Kt) : List Kt → Nat → Option (Nat × Int)
  | [], _ => none
  | x :: l, k => if fnE n K k x = 0 then fltR n K l (k + 1) else some (k, fnE n K k x)
theorem fltR_drop {n : Nat} {K : List Kt} {k : Nat} {x : Kt} (h : K[k]? = some x) : fltR n K (K.drop k) k = if fnE n K k x = 0 then fltR n K (K.drop (k + 1)) (k + 1) else some (k, fnE n K k x) := by
  obtain ⟨hk, e⟩ := List.getElem?_eq_some_iff.1 h
  rw [List.drop_eq_getElem_cons hk, fltR, e]
def restE (n : Nat) (K : List Kt) (C : List (List UInt8)) : Nat × Int := if 64 < K.length then (64, 4) else match fltR n K K 0 with | some x => x | none => ctE K.length C
/-- What a check of a module says. -/
def CkR (m : Md) (n : Nat) (e : Int) : Prop := (nameB m.nm = false ∧ n = 0 ∧ e = 6) ∨ (nameB m.nm = true ∧ IsFirst m.T n e) ∨ (nameB m.nm = true ∧ madeD m.T = true ∧ (n, e) = restE m.T.length (m.F.map fnK) (m.C.map bsC))
theorem ret_two {n k : Nat} {a b : Int} (h : (n, a) = (k, b)) : (Value.tuple #[.int .i64 (n : Int), .int .i64 a]) = .tuple #[.int .i64 (k : Int), .int .i64 b] := by
  injection h with h1 h2
  rw [h1, h2]

set_option maxRecDepth 20000 in
set_option maxHeartbeats 4000000 in
theorem checkCerts_any (m : Md) (w : World) (h : BssAt w m.co m.C) (hz : m.C.length * 24 ≤ 140737488351232) :
    Calls Tryz.prog 43 #[.agg #[.string m.nm, .slice m.ao m.T.length m.cap, .slice m.fo m.F.length m.fc, .slice m.co m.C.length m.cc]] w fun e w' => (∃ (n : Nat) (er : Int), e = .returned (.tuple #[.int .i64 (n : Int), .int .i64 er]) ∧ (n, er) = ctE m.F.length (m.C.map bsC)) ∧ Below w.heap.size w w' := by
  have al := (Below.refl w.heap.size w).alloc (Nat.le_refl _) (.cells #[.string m.nm, .slice m.ao m.T.length m.cap, .slice m.fo m.F.length m.fc, .slice m.co m.C.length m.cc] 26)
  have HB := hide al
  have HC : Hid (Bx (w.alloc (.cells #[.string m.nm, .slice m.ao m.T.length m.cap, .slice m.fo m.F.length m.fc, .slice m.co m.C.length m.cc] 26)) w.heap.size 26 #[.string m.nm, .slice m.ao m.T.length m.cap, .slice m.fo m.F.length m.fc, .slice m.co m.C.length m.cc]) := hide (heap_alloc_new w _)
  have H := hide (h.below al)
  have hl : m.C.length < 9223372036854775000 := by omega
  clear al h hz
  go_enter Tryz.func43, Tryz.ntmps43
  go_upto_region 1 with fail
  generalize (w.alloc (.cells #[.string m.nm, .slice m.ao m.T.length m.cap, .slice m.fo m.F.length m.fc, .slice m.co m.C.length m.cc] 26)) = W1 at HB HC H ⊢
  have k2 := (unhide HC).c 2 rfl
  have k3 := (unhide HC).c 3 rfl
  have HQ : Hid (ctE m.F.length (m.C.map bsC) = if 0 < m.C.length ∧ m.C.length ≠ m.F.length then ((0, 162) : Nat × Int) else match ctR (m.C.map bsC) 0 with | some k => (k, 4) | none => (0, 0)) := hide (by unfold ctE; rw [List.length_map])
  by_cases hc : 0 < m.C.length
  · have c1 : ((m.C.length : Nat) : Int) > 0 := by omega
    by_cases hn : m.C.length = m.F.length
    rotate_left
    · have c2 : (((m.C.length : Nat) : Int) != ((m.F.length : Nat) : Int)) = true := bne_t (by omega)
      have HR : Hid ((0, (162 : Int)) = ctE m.F.length (m.C.map bsC)) := hide (by rw [unhide HQ, if_pos ⟨hc, hn⟩])
      clear hn hc
      go_wp2
      go_ret2
      exact ⟨⟨0, 162, rfl, unhide HR⟩, unhide HB⟩
    have c2 : (((m.C.length : Nat) : Int) != ((m.F.length : Nat) : Int)) = false := bne_f (by omega)
    have HQ2 : Hid (ctE m.F.length (m.C.map bsC) = match ctR (m.C.map bsC) 0 with | some k => (k, 4) | none => (0, 0)) := hide (by rw [unhide HQ, if_neg (fun h => h.2 hn)])
    clear hn hc HQ
    go_wp2_with fail
    go_loopw [22] (fun i wr => ∃ k : Nat, k ≤ m.C.length ∧ i = .int .i64 (k : Int) ∧ Hid (ctR (m.C.map bsC) 0 = ctR ((m.C.map bsC).drop k) k) ∧ wr = W1) (fun i _ => m.C.length - (intOf i).toNat)
    case atStart => exact ⟨0, by omega, rfl, hide rfl, rfl⟩
    case round =>
      obtain ⟨k, hk, rfl, HK, rfl⟩ := hrel
      by_cases hlt : k < m.C.length
      · have i1 : ((k : Nat) : Int) < ((m.C.length : Nat) : Int) := by omega
        have i0 : (0 : Int) ≤ ((k : Nat) : Int) := by omega
        have hx := List.getElem?_eq_getElem hlt
        obtain ⟨b, off, eb, hxa⟩ := (unhide H) k _ hx
        generalize m.C[k] = x at hxa hx
        have hxk : (m.C.map bsC)[k]? = some x.cd := by rw [List.getElem?_map, hx]; rfl
        have HD := hide (ctR_drop hxk)
        have c0 := hxa.c0
        rw [eb] at k3
        rw [eb]
        clear hx hxa hxk eb
        by_cases hq : 65535 < x.cd.length
        · have j1 : ((x.cd.length : Nat) : Int) > 65535 := by omega
          have HR : Hid ((k, (4 : Int)) = ctE m.F.length (m.C.map bsC)) := hide (by rw [unhide HQ2, unhide HK, unhide HD, if_pos hq])
          clear hq
          go_wp2
          go_ret2
          exact ⟨⟨k, 4, rfl, unhide HR⟩, unhide HB⟩
        · have j1 : ¬ ((x.cd.length : Nat) : Int) > 65535 := by omega
          have HK2 : Hid (ctR (m.C.map bsC) 0 = ctR ((m.C.map bsC).drop (k + 1)) (k + 1)) := hide (by rw [unhide HK, unhide HD, if_neg hq])
          clear hq
          go_wp2
          go_roundw
          case rel => exact ⟨k + 1, by omega, by go_num, HK2, trivial⟩
          case measure => simp [intOf]; omega
      · have i1 : ¬ ((k : Nat) : Int) < ((m.C.length : Nat) : Int) := by omega
        have HR : Hid ((0, (0 : Int)) = ctE m.F.length (m.C.map bsC)) := hide (by rw [unhide HQ2, unhide HK, List.drop_eq_nil_of_le (by rw [List.length_map]; omega)]; rfl)
        go_wp2
        go_ret2
        exact ⟨⟨0, 0, rfl, unhide HR⟩, unhide HB⟩
  · have c1 : ¬ ((m.C.length : Nat) : Int) > 0 := by omega
    have HQ2 : Hid (ctE m.F.length (m.C.map bsC) = match ctR (m.C.map bsC) 0 with | some k => (k, 4) | none => (0, 0)) := hide (by rw [unhide HQ, if_neg (fun h => hc h.1)])
    clear hc HQ
    go_wp2_with fail
    go_loopw [22] (fun i wr => ∃ k : Nat, k ≤ m.C.length ∧ i = .int .i64 (k : Int) ∧ Hid (ctR (m.C.map bsC) 0 = ctR ((m.C.map bsC).drop k) k) ∧ wr = W1) (fun i _ => m.C.length - (intOf i).toNat)
    case atStart => exact ⟨0, by omega, rfl, hide rfl, rfl⟩
    case round =>
      obtain ⟨k, hk, rfl, HK, rfl⟩ := hrel
      by_cases hlt : k < m.C.length
      · exact absurd hlt (by omega)
      · have i1 : ¬ ((k : Nat) : Int) < ((m.C.length : Nat) : Int) := by omega
        have HR : Hid ((0, (0 : Int)) = ctE m.F.length (m.C.map bsC)) := hide (by rw [unhide HQ2, unhide HK, List.drop_eq_nil_of_le (by rw [List.length_map]; omega)]; rfl)
        go_wp2
        go_ret2
        exact ⟨⟨0, 0, rfl, unhide HR⟩, unhide HB⟩

set_option maxRecDepth 20000 in
set_option maxHeartbeats 8000000 in
theorem Check16_any (m : Md) (w : World) (h : MdOk w m) (hcap : m.T.length ≤ m.cap) (hfc : m.F.length ≤ m.fc) (hW : WordsAt w) :
    Calls Tryz.prog 22 #[.agg #[.string m.nm, .slice m.ao m.T.length m.cap, .slice m.fo m.F.length m.fc, .slice m.co m.C.length m.cc]] w fun e w' => (∃ (n : Nat) (er : Int), e = .returned (.tuple #[.int .i64 (n : Int), .int .i64 er]) ∧ CkR m n er) ∧ Below w.heap.size w w' := by
  have al := (Below.refl w.heap.size w).alloc (Nat.le_refl _) (.cells #[.string m.nm, .slice m.ao m.T.length m.cap, .slice m.fo m.F.length m.fc, .slice m.co m.C.length m.cc] 26)
  have HB := hide al
  have HC : Hid (Bx (w.alloc (.cells #[.string m.nm, .slice m.ao m.T.length m.cap, .slice m.fo m.F.length m.fc, .slice m.co m.C.length m.cc] 26)) w.heap.size 26 #[.string m.nm, .slice m.ao m.T.length m.cap, .slice m.fo m.F.length m.fc, .slice m.co m.C.length m.cc]) := hide (heap_alloc_new w _)
  have H := hide (h.below al)
  have HWD := hide (hW.below al)
  have hlf : m.F.length < 9223372036854775000 := by have := h.fz; omega
  clear al h
  go_enter Tryz.func22, Tryz.ntmps22
  go_upto_region 1 with fail
  generalize (w.alloc (.cells #[.string m.nm, .slice m.ao m.T.length m.cap, .slice m.fo m.F.length m.fc, .slice m.co m.C.length m.cc] 26)) = W1 at HB HC H HWD ⊢
  have k0 := (unhide HC).c 0 rfl
  have HN := hide (IsName_any m.nm W1 (by have := (unhide H).name; unfold maxLen; omega))
  go_wp2_with fail
  refine (unhide HN).mono ?_
  rintro e W2 ⟨rfl, rfl⟩
  obtain ⟨W1, HW1⟩ : ∃ x, x = W2 := ⟨_, rfl⟩
  subst HW1
  clear HN
  cases hn : nameB m.nm
  · have HR : Hid (CkR m 0 6) := hide (.inl ⟨hn, rfl, rfl⟩)
    clear hn
    go_wp2
    go_ret2
    exact ⟨⟨0, 6, rfl, unhide HR⟩, unhide HB⟩
  have HNN := hide hn
  have HCK := hide (Check_any m.ao m.cap m.T W1 (unhide H).tab hcap (unhide HWD) (unhide H).tz)
  have k1 := (unhide HC).c 1 rfl
  go_wp2_with fail
  refine (unhide HCK).mono ?_
  rintro e W2 ⟨⟨n1, e1, rfl, h1⟩, hb1⟩
  have HF1 := hide h1
  have HB2 := hide ((unhide HB).trans (hb1.mono (unhide HB).size))
  have HC2 := hide ((unhide HC).below hb1)
  have H2 := hide ((unhide H).below hb1)
  clear h1 hb1 hn k0 k1 HCK HB HC H
  by_cases he : e1 = 0
  rotate_left
  · have t1 : (e1 != 0) = true := bne_t he
    have HR : Hid (CkR m n1 e1) := hide (.inr (.inl ⟨unhide HNN, (unhide HF1).resolve_left (fun h => he h.2.1)⟩))
    clear he
    go_wp2
    go_ret2
    exact ⟨⟨n1, e1, rfl, unhide HR⟩, unhide HB2⟩
  have t1 : (e1 != 0) = false := bne_f he
  have HMD : Hid (madeD m.T = true) := hide ((unhide HF1).elim (fun h => h.2.2) (fun h => absurd he h.one.2.1))
  clear he HF1
  have HRR : Hid (∀ n er, (n, er) = restE m.T.length (m.F.map fnK) (m.C.map bsC) → CkR m n er) := hide (fun n er e => .inr (.inr ⟨unhide HNN, unhide HMD, e⟩))
  clear HNN HMD
  have k2 := (unhide HC2).c 2 rfl
  by_cases h64 : 64 < m.F.length
  · have t2 : ((m.F.length : Nat) : Int) > 64 := by omega
    have HR : Hid (CkR m 64 4) := hide (unhide HRR _ _ (by unfold restE; rw [if_pos (by rw [List.length_map]; exact h64)]))
    clear h64
    go_wp2
    go_ret2
    exact ⟨⟨64, 4, rfl, unhide HR⟩, unhide HB2⟩
  have t2 : ¬ ((m.F.length : Nat) : Int) > 64 := by omega
  have HRS : Hid (restE m.T.length (m.F.map fnK) (m.C.map bsC) = match fltR m.T.length (m.F.map fnK) (m.F.map fnK) 0 with | some x => x | none => ctE m.F.length (m.C.map bsC)) := hide (by unfold restE; rw [if_neg (by rw [List.length_map]; exact h64), List.length_map])
  clear h64
  go_wp2_with fail
  go_loopw [30] (fun i wr => ∃ k : Nat, k ≤ m.F.length ∧ i = .int .i64 (k : Int) ∧ Hid (fltR m.T.length (m.F.map fnK) (m.F.map fnK) 0 = fltR m.T.length (m.F.map fnK) ((m.F.map fnK).drop k) k) ∧ Hid (Below W2.heap.size W2 wr)) (fun i _ => m.F.length - (intOf i).toNat)
  case atStart => exact ⟨0, by omega, rfl, hide rfl, hide (Below.refl _ _)⟩
  case round =>
    obtain ⟨k, hk, rfl, HK, HR⟩ := hrel
    have HBW := hide ((unhide HB2).trans ((unhide HR).mono (unhide HB2).size))
    have HCW := hide ((unhide HC2).below (unhide HR))
    have HW := hide ((unhide H2).below (unhide HR))
    clear k2
    have q0 := (unhide HCW).c 0 rfl
    have q1 := (unhide HCW).c 1 rfl
    have q2 := (unhide HCW).c 2 rfl
    have q3 := (unhide HCW).c 3 rfl
    by_cases hlt : k < m.F.length
    · have i1 : ((k : Nat) : Int) < ((m.F.length : Nat) : Int) := by omega
      have i0 : (0 : Int) ≤ ((k : Nat) : Int) := by omega
      have hx := List.getElem?_eq_getElem hlt
      obtain ⟨b, off, eb, hxa⟩ := (unhide HW).fns k _ hx
      generalize m.F[k] = x at hxa hx
      have hxk : (m.F.map fnK)[k]? = some (fnK x) := by rw [List.getElem?_map, hx]; rfl
      have HD := hide (fltR_drop (n := m.T.length) hxk)
      have c0 := hxa.c0
      have c1 := hxa.c1
      have c2 := hxa.c2
      have c3 := hxa.c3
      have c4 := hxa.c4
      have hal : Below wr.heap.size wr (wr.alloc (.cells #[.string x.nm, .slice x.sg.po x.sg.ps.length x.sg.pc, .int .u8 (x.sg.rt : Int), .int .i64 x.lo, .slice x.ca x.cd.length x.cc] 44)) := (Below.refl _ _).alloc (Nat.le_refl _) _
      have HFN := hide (checkFunc_any m k x (wr.alloc (.cells #[.string x.nm, .slice x.sg.po x.sg.ps.length x.sg.pc, .int .u8 (x.sg.rt : Int), .int .i64 x.lo, .slice x.ca x.cd.length x.cc] 44)) ((unhide HW).fns.below hal) (unhide HW).fz hfc hx (hxa.ok.below hal))
      have HAL := hide hal
      have lt0 := World.block_lt_of_cell? wr _ q0
      rw [eb]
      clear hx hxa hxk eb hal
      go_wp2_with fail
      refine (unhide HFN).mono ?_
      rintro e W3 ⟨rfl, hb3⟩
      have HR2 := hide ((unhide HR).trans (((unhide HAL).trans (hb3.mono (unhide HAL).size)).mono (unhide HR).size))
      have HB3 := hide ((unhide HBW).trans (((unhide HAL).trans (hb3.mono (unhide HAL).size)).mono (unhide HBW).size))
      clear hb3 q0 q1 q2 q3
      by_cases hq : fnE m.T.length (m.F.map fnK) k (fnK x) = 0
      · have t3 : (fnE m.T.length (m.F.map fnK) k (fnK x) != 0) = false := bne_f hq
        have HK2 : Hid (fltR m.T.length (m.F.map fnK) (m.F.map fnK) 0 = fltR m.T.length (m.F.map fnK) ((m.F.map fnK).drop (k + 1)) (k + 1)) := hide (by rw [unhide HK, unhide HD, if_pos hq])
        clear hq
        go_wp2
        go_roundw
        case rel => exact ⟨k + 1, by omega, by go_num, HK2, HR2⟩
        case measure => simp [intOf]; omega
      · have t3 : (fnE m.T.length (m.F.map fnK) k (fnK x) != 0) = true := bne_t hq
        have HRF : Hid (CkR m k (fnE m.T.length (m.F.map fnK) k (fnK x))) := hide (unhide HRR _ _ (by rw [unhide HRS, unhide HK, unhide HD, if_neg hq]))
        clear hq
        generalize fnE m.T.length (m.F.map fnK) k (fnK x) = ee at HRF t3 ⊢
        go_wp2
        go_ret2
        exact ⟨⟨k, ee, rfl, unhide HRF⟩, unhide HB3⟩
    · have i1 : ¬ ((k : Nat) : Int) < ((m.F.length : Nat) : Int) := by omega
      have HQQ : Hid (restE m.T.length (m.F.map fnK) (m.C.map bsC) = ctE m.F.length (m.C.map bsC)) := hide (by rw [unhide HRS, unhide HK, List.drop_eq_nil_of_le (by rw [List.length_map]; omega)]; rfl)
      have HCT := hide (checkCerts_any m wr (unhide HW).cts (unhide HW).cz)
      go_wp2_with fail
      refine (unhide HCT).mono ?_
      rintro e W3 ⟨⟨n3, e3, rfl, h3⟩, hb3⟩
      have HB3 := hide ((unhide HBW).trans (hb3.mono (unhide HBW).size))
      have HRF : Hid (CkR m n3 e3) := hide (unhide HRR _ _ (by rw [unhide HQQ]; exact h3))
      clear h3 hb3
      go_wp2
      go_ret2
      exact ⟨⟨n3, e3, rfl, unhide HRF⟩, unhide HB3⟩


set_option maxRecDepth 20000 in
set_option maxHeartbeats 8000000 in
theorem refCheck16_any (m : Md) (w : World) (h : MdOk w m) :
    Calls Tryz.prog 28 #[.agg #[.string m.nm, .slice m.ao m.T.length m.cap, .slice m.fo m.F.length m.fc, .slice m.co m.C.length m.cc]] w fun e w' => (∃ (n : Nat) (er : Int), e = .returned (.tuple #[.int .i64 (n : Int), .int .i64 er]) ∧ CkR m n er) ∧ Below w.heap.size w w' := by
  have al := (Below.refl w.heap.size w).alloc (Nat.le_refl _) (.cells #[.string m.nm, .slice m.ao m.T.length m.cap, .slice m.fo m.F.length m.fc, .slice m.co m.C.length m.cc] 26)
  have HB := hide al
  have HC : Hid (Bx (w.alloc (.cells #[.string m.nm, .slice m.ao m.T.length m.cap, .slice m.fo m.F.length m.fc, .slice m.co m.C.length m.cc] 26)) w.heap.size 26 #[.string m.nm, .slice m.ao m.T.length m.cap, .slice m.fo m.F.length m.fc, .slice m.co m.C.length m.cc]) := hide (heap_alloc_new w _)
  have H := hide (h.below al)
  have hlf : m.F.length < 9223372036854775000 := by have := h.fz; omega
  clear al h
  go_enter Tryz.func28, Tryz.ntmps28
  go_upto_region 1 with fail
  generalize (w.alloc (.cells #[.string m.nm, .slice m.ao m.T.length m.cap, .slice m.fo m.F.length m.fc, .slice m.co m.C.length m.cc] 26)) = W1 at HB HC H ⊢
  have k0 := (unhide HC).c 0 rfl
  have HN := hide (refName_any m.nm W1 (by have := (unhide H).name; unfold maxLen; omega))
  go_wp2_with fail
  refine (unhide HN).mono ?_
  rintro e W2 ⟨rfl, rfl⟩
  obtain ⟨W1, HW1⟩ : ∃ x, x = W2 := ⟨_, rfl⟩
  subst HW1
  clear HN
  cases hn : nameB m.nm
  · have HR : Hid (CkR m 0 6) := hide (.inl ⟨hn, rfl, rfl⟩)
    clear hn
    go_wp2
    go_ret2
    exact ⟨⟨0, 6, rfl, unhide HR⟩, unhide HB⟩
  have HNN := hide hn
  have HCK := hide (refCheck_any m.ao m.cap m.T W1 (unhide H).tab (unhide H).tz)
  have k1 := (unhide HC).c 1 rfl
  go_wp2_with fail
  refine (unhide HCK).mono ?_
  rintro e W2 ⟨⟨n1, e1, rfl, h1⟩, hb1⟩
  have HF1 := hide h1
  have HB2 := hide ((unhide HB).trans (hb1.mono (unhide HB).size))
  have HC2 := hide ((unhide HC).below hb1)
  have H2 := hide ((unhide H).below hb1)
  clear h1 hb1 hn k0 k1 HCK HB HC H
  by_cases he : e1 = 0
  rotate_left
  · have t1 : (e1 != 0) = true := bne_t he
    have HR : Hid (CkR m n1 e1) := hide (.inr (.inl ⟨unhide HNN, (unhide HF1).resolve_left (fun h => he h.2.1)⟩))
    clear he
    go_wp2
    go_ret2
    exact ⟨⟨n1, e1, rfl, unhide HR⟩, unhide HB2⟩
  have t1 : (e1 != 0) = false := bne_f he
  have HMD : Hid (madeD m.T = true) := hide ((unhide HF1).elim (fun h => h.2.2) (fun h => absurd he h.one.2.1))
  clear he HF1
  have HRR : Hid (∀ n er, (n, er) = restE m.T.length (m.F.map fnK) (m.C.map bsC) → CkR m n er) := hide (fun n er e => .inr (.inr ⟨unhide HNN, unhide HMD, e⟩))
  clear HNN HMD
  have k2 := (unhide HC2).c 2 rfl
  by_cases h64 : 64 < m.F.length
  · have t2 : ((m.F.length : Nat) : Int) > 64 := by omega
    have HR : Hid (CkR m 64 4) := hide (unhide HRR _ _ (by unfold restE; rw [if_pos (by rw [List.length_map]; exact h64)]))
    clear h64
    go_wp2
    go_ret2
    exact ⟨⟨64, 4, rfl, unhide HR⟩, unhide HB2⟩
  have t2 : ¬ ((m.F.length : Nat) : Int) > 64 := by omega
  have HRS : Hid (restE m.T.length (m.F.map fnK) (m.C.map bsC) = match fltR m.T.length (m.F.map fnK) (m.F.map fnK) 0 with | some x => x | none => ctE m.F.length (m.C.map bsC)) := hide (by unfold restE; rw [if_neg (by rw [List.length_map]; exact h64), List.length_map])
  clear h64
  go_wp2_with fail
  go_loopw [6] (fun i wr => ∃ k : Nat, k ≤ m.F.length ∧ i = .int .i64 (k : Int) ∧ Hid (fltR m.T.length (m.F.map fnK) (m.F.map fnK) 0 = fltR m.T.length (m.F.map fnK) ((m.F.map fnK).drop k) k) ∧ Hid (Below W2.heap.size W2 wr)) (fun i _ => m.F.length - (intOf i).toNat)
  case atStart => exact ⟨0, by omega, rfl, hide rfl, hide (Below.refl _ _)⟩
  case round =>
    obtain ⟨k, hk, rfl, HK, HR⟩ := hrel
    have HBW := hide ((unhide HB2).trans ((unhide HR).mono (unhide HB2).size))
    have HCW := hide ((unhide HC2).below (unhide HR))
    have HW := hide ((unhide H2).below (unhide HR))
    clear k2
    have q0 := (unhide HCW).c 0 rfl
    have q1 := (unhide HCW).c 1 rfl
    have q2 := (unhide HCW).c 2 rfl
    have q3 := (unhide HCW).c 3 rfl
    by_cases hlt : k < m.F.length
    · have i1 : ((k : Nat) : Int) < ((m.F.length : Nat) : Int) := by omega
      have i0 : (0 : Int) ≤ ((k : Nat) : Int) := by omega
      have hx := List.getElem?_eq_getElem hlt
      obtain ⟨b, off, eb, hxa⟩ := (unhide HW).fns k _ hx
      generalize m.F[k] = x at hxa hx
      have hxk : (m.F.map fnK)[k]? = some (fnK x) := by rw [List.getElem?_map, hx]; rfl
      have HD := hide (fltR_drop (n := m.T.length) hxk)
      have HFN := hide (refFunction_any m k x wr (unhide HW).fns (unhide HW).fz hx)
      clear hx hxa hxk eb
      go_wp2_with fail
      refine (unhide HFN).mono ?_
      rintro e W3 ⟨rfl, hb3⟩
      have HR2 := hide ((unhide HR).trans (hb3.mono (unhide HR).size))
      have HB3 := hide ((unhide HBW).trans (hb3.mono (unhide HBW).size))
      clear hb3 q0 q1 q2 q3
      by_cases hq : fnE m.T.length (m.F.map fnK) k (fnK x) = 0
      · have t3 : (fnE m.T.length (m.F.map fnK) k (fnK x) != 0) = false := bne_f hq
        have HK2 : Hid (fltR m.T.length (m.F.map fnK) (m.F.map fnK) 0 = fltR m.T.length (m.F.map fnK) ((m.F.map fnK).drop (k + 1)) (k + 1)) := hide (by rw [unhide HK, unhide HD, if_pos hq])
        clear hq
        go_wp2
        go_roundw
        case rel => exact ⟨k + 1, by omega, by go_num, HK2, HR2⟩
        case measure => simp [intOf]; omega
      · have t3 : (fnE m.T.length (m.F.map fnK) k (fnK x) != 0) = true := bne_t hq
        have HRF : Hid (CkR m k (fnE m.T.length (m.F.map fnK) k (fnK x))) := hide (unhide HRR _ _ (by rw [unhide HRS, unhide HK, unhide HD, if_neg hq]))
        clear hq
        generalize fnE m.T.length (m.F.map fnK) k (fnK x) = ee at HRF t3 ⊢
        go_wp2
        go_ret2
        exact ⟨⟨k, ee, rfl, unhide HRF⟩, unhide HB3⟩
    · have i1 : ¬ ((k : Nat) : Int) < ((m.F.length : Nat) : Int) := by omega
      have HQQ : Hid (restE m.T.length (m.F.map fnK) (m.C.map bsC) = ctE m.F.length (m.C.map bsC)) := hide (by rw [unhide HRS, unhide HK, List.drop_eq_nil_of_le (by rw [List.length_map]; omega)]; rfl)
      have HQ : Hid (ctE m.F.length (m.C.map bsC) = if 0 < m.C.length ∧ m.C.length ≠ m.F.length then ((0, 162) : Nat × Int) else match ctR (m.C.map bsC) 0 with | some k => (k, 4) | none => (0, 0)) := hide (by unfold ctE; rw [List.length_map])
      have k3 := q3
      have hlc : m.C.length < 9223372036854775000 := by have := (unhide HW).cz; omega
      clear q3 HK
      obtain ⟨WZ, HWZ⟩ : ∃ x, x = wr := ⟨_, rfl⟩
      subst HWZ
      by_cases hc : 0 < m.C.length
      · have c1 : ((m.C.length : Nat) : Int) > 0 := by omega
        by_cases hn : m.C.length = m.F.length
        rotate_left
        · have c2 : (((m.C.length : Nat) : Int) != ((m.F.length : Nat) : Int)) = true := bne_t (by omega)
          have HR0 : Hid ((0, (162 : Int)) = ctE m.F.length (m.C.map bsC)) := hide (by rw [unhide HQ, if_pos ⟨hc, hn⟩])
          clear hn hc
          go_wp2
          go_ret2
          exact ⟨⟨0, 162, rfl, unhide HRR _ _ (by rw [unhide HQQ]; exact unhide HR0)⟩, unhide HBW⟩
        have c2 : (((m.C.length : Nat) : Int) != ((m.F.length : Nat) : Int)) = false := bne_f (by omega)
        have HQ2 : Hid (ctE m.F.length (m.C.map bsC) = match ctR (m.C.map bsC) 0 with | some k => (k, 4) | none => (0, 0)) := hide (by rw [unhide HQ, if_neg (fun h => h.2 hn)])
        clear hn hc HQ
        go_wp2_with fail
        go_loopw [8] (fun i wr => ∃ k : Nat, k ≤ m.C.length ∧ i = .int .i64 (k : Int) ∧ Hid (ctR (m.C.map bsC) 0 = ctR ((m.C.map bsC).drop k) k) ∧ wr = WZ) (fun i _ => m.C.length - (intOf i).toNat)
        case atStart => exact ⟨0, by omega, rfl, hide rfl, rfl⟩
        case round =>
          obtain ⟨k, hk, rfl, HK, rfl⟩ := hrel
          by_cases hlt : k < m.C.length
          · have i1 : ((k : Nat) : Int) < ((m.C.length : Nat) : Int) := by omega
            have i0 : (0 : Int) ≤ ((k : Nat) : Int) := by omega
            have hx := List.getElem?_eq_getElem hlt
            obtain ⟨b, off, eb, hxa⟩ := (unhide HW).cts k _ hx
            generalize m.C[k] = x at hxa hx
            have hxk : (m.C.map bsC)[k]? = some x.cd := by rw [List.getElem?_map, hx]; rfl
            have HD := hide (ctR_drop hxk)
            have c0 := hxa.c0
            rw [eb] at k3
            skip
            clear hx hxa hxk eb
            by_cases hq : 65535 < x.cd.length
            · have j1 : ((x.cd.length : Nat) : Int) > 65535 := by omega
              have HR0 : Hid ((k, (4 : Int)) = ctE m.F.length (m.C.map bsC)) := hide (by rw [unhide HQ2, unhide HK, unhide HD, if_pos hq])
              clear hq
              go_wp2
              go_ret2
              exact ⟨⟨k, 4, rfl, unhide HRR _ _ (by rw [unhide HQQ]; exact unhide HR0)⟩, unhide HBW⟩
            · have j1 : ¬ ((x.cd.length : Nat) : Int) > 65535 := by omega
              have HK2 : Hid (ctR (m.C.map bsC) 0 = ctR ((m.C.map bsC).drop (k + 1)) (k + 1)) := hide (by rw [unhide HK, unhide HD, if_neg hq])
              clear hq
              go_wp2
              go_roundw
              case rel => exact ⟨k + 1, by omega, by go_num, HK2, trivial⟩
              case measure => simp [intOf]; omega
          · have i1 : ¬ ((k : Nat) : Int) < ((m.C.length : Nat) : Int) := by omega
            have HR0 : Hid ((0, (0 : Int)) = ctE m.F.length (m.C.map bsC)) := hide (by rw [unhide HQ2, unhide HK, List.drop_eq_nil_of_le (by rw [List.length_map]; omega)]; rfl)
            go_wp2
            go_ret2
            exact ⟨⟨0, 0, rfl, unhide HRR _ _ (by rw [unhide HQQ]; exact unhide HR0)⟩, unhide HBW⟩
      · have c1 : ¬ ((m.C.length : Nat) : Int) > 0 := by omega
        have HQ2 : Hid (ctE m.F.length (m.C.map bsC) = match ctR (m.C.map bsC) 0 with | some k => (k, 4) | none => (0, 0)) := hide (by rw [unhide HQ, if_neg (fun h => hc h.1)])
        clear hc HQ
        go_wp2_with fail
        go_loopw [8] (fun i wr => ∃ k : Nat, k ≤ m.C.length ∧ i = .int .i64 (k : Int) ∧ Hid (ctR (m.C.map bsC) 0 = ctR ((m.C.map bsC).drop k) k) ∧ wr = WZ) (fun i _ => m.C.length - (intOf i).toNat)
        case atStart => exact ⟨0, by omega, rfl, hide rfl, rfl⟩
        case round =>
          obtain ⟨k, hk, rfl, HK, rfl⟩ := hrel
          by_cases hlt : k < m.C.length
          · exact absurd hlt (by omega)
          · have i1 : ¬ ((k : Nat) : Int) < ((m.C.length : Nat) : Int) := by omega
            have HR0 : Hid ((0, (0 : Int)) = ctE m.F.length (m.C.map bsC)) := hide (by rw [unhide HQ2, unhide HK, List.drop_eq_nil_of_le (by rw [List.length_map]; omega)]; rfl)
            go_wp2
            go_ret2
            exact ⟨⟨0, 0, rfl, unhide HRR _ _ (by rw [unhide HQQ]; exact unhide HR0)⟩, unhide HBW⟩
end Go.Proofs.YtibgfdjopikafaaGreatDoor

/-
  A module and its copy hold the same. No Go in it.
-/
namespace Go.Proofs.YtibgfdjopikafaaGreatDoor
open Go.RowKit
set_option maxRecDepth 20000

theorem con_map {α β : Type} [DecidableEq β] {c : α → β} {L M : List α} (hl : M.length = L.length) (h : ∀ (i : Nat) x y, L[i]? = some x → M[i]? = some y → c y = c x) : M.map c = L.map c := by
  have := eqL_yes (c := c) (L := M) (M := L) hl (fun i x y h1 h2 => h i y x h2 h1)
  unfold eqL at this
  exact eqOfDec this
theorem SameMd.T {x y : Md} (h : SameMd x y) : y.T.map clC = x.T.map clC := con_map h.tab.1 (fun i a b h1 h2 => by have := h.tab.2 i a b h1 h2; unfold clC; rw [this.nm, this.par, this.fs])
theorem SameMd.F {x y : Md} (h : SameMd x y) : y.F.map fnC = x.F.map fnC := con_map h.fns.1 (fun i a b h1 h2 => by have := h.fns.2 i a b h1 h2; unfold fnC sgC; rw [this.nm, this.sg.ps, this.sg.rt, this.lo, this.cd])
theorem SameMd.C {x y : Md} (h : SameMd x y) : y.C.map bsC = x.C.map bsC := con_map h.cts.1 (fun i a b h1 h2 => by have := h.cts.2 i a b h1 h2; unfold bsC; rw [this])
theorem mdEq_same {a b X Y : Md} (hx : SameMd a X) (hy : SameMd b Y) : mdEq X Y = mdEq a b := by
  unfold mdEq eqL
  rw [hx.nm, hy.nm, hx.T, hy.T, hx.F, hy.F, hx.C, hy.C]
theorem mdEq_self {a X : Md} (hx : SameMd a X) : mdEq a X = true := by
  unfold mdEq eqL
  rw [hx.nm, hx.T, hx.F, hx.C]
  simp
theorem mdEq_back {a X : Md} (hx : SameMd a X) : mdEq X a = true := by
  unfold mdEq eqL
  rw [hx.nm, hx.T, hx.F, hx.C]
  simp
end Go.Proofs.YtibgfdjopikafaaGreatDoor

/-
  Of two modules in which the same stands the same is at fault. No Go in it.
-/
namespace Go.Proofs.YtibgfdjopikafaaGreatDoor
open Go.RowKit
set_option maxRecDepth 20000

theorem SameMd.K {x y : Md} (h : SameMd x y) : y.F.map fnK = x.F.map fnK := by
  apply List.ext_getElem?
  intro i
  simp only [List.getElem?_map]
  by_cases hi : i < x.F.length
  · have hx := List.getElem?_eq_getElem hi
    have hy := List.getElem?_eq_getElem (show i < y.F.length by rw [h.fns.1]; exact hi)
    have := h.fns.2 i _ _ hx hy
    rw [hx, hy, Option.map_some, Option.map_some]
    unfold fnK
    rw [this.nm, this.sg.ps, this.sg.rt, this.lo, this.cd]
  · have hl := h.fns.1
    rw [List.getElem?_eq_none (by omega), List.getElem?_eq_none (by omega)]
theorem ck_one {x y : Md} (h : SameMd x y) {n k : Nat} {e d : Int} (h1 : CkR y n e) (h2 : CkR x k d) : n = k ∧ e = d := by
  unfold CkR at h1 h2
  rw [h.nm] at h1
  rcases h1 with ⟨a1, a2, a3⟩ | ⟨a1, a2⟩ | ⟨a1, a2, a3⟩
  · rcases h2 with ⟨b1, b2, b3⟩ | ⟨b1, b2⟩ | ⟨b1, b2, b3⟩
    · exact ⟨by omega, by omega⟩
    · rw [a1] at b1; cases b1
    · rw [a1] at b1; cases b1
  · rcases h2 with ⟨b1, b2, b3⟩ | ⟨b1, b2⟩ | ⟨b1, b2, b3⟩
    · rw [a1] at b1; cases b1
    · exact first_one h.tab (.inr a2) (.inr b2)
    · have := (first_one h.tab (.inr a2) (.inl ⟨rfl, rfl, b2⟩)).2
      exact absurd this a2.one.2.1
  · rcases h2 with ⟨b1, b2, b3⟩ | ⟨b1, b2⟩ | ⟨b1, b2, b3⟩
    · rw [a1] at b1; cases b1
    · have := (first_one h.tab (.inl ⟨rfl, rfl, a2⟩) (.inr b2)).2
      exact absurd this.symm b2.one.2.1
    · rw [h.tab.1, h.K, h.C, ← b3] at a3
      injection a3 with e1 e2
      exact ⟨e1, e2⟩
end Go.Proofs.YtibgfdjopikafaaGreatDoor

/-
  The contract of provisoplain.Module: a module's copy in memory of its own, the same but for where it lies. Conditions: lengths fit.
-/
namespace Go.Proofs.YtibgfdjopikafaaGreatDoor
open Go.RowKit
set_option maxRecDepth 20000

theorem ownCap {w : World} {base : Nat} {t : TypeId} {s : Nat} {va : Option Addr} {vc n : Nat} {cs : List Value} (h : w.ownsRow base t s (.slice va n vc) n cs) : n ≤ vc := by
  rcases h.2 with ⟨h1, h2⟩ | ⟨g, cap, cur, e, _, _, hn, _⟩
  · omega
  · injection e with _ _ e3
    omega
theorem grownBy_sets4 (W : World) (b : Nat) (x y z u : Value) : W.grownBy ((((W.setCell ⟨b, 0, none⟩ x).setCell ⟨b, 1, none⟩ y).setCell ⟨b, 2, none⟩ z).setCell ⟨b, 3, none⟩ u) (some b) :=
  grownBy_more (grownBy_sets W b x y z) (grownBy_set _ b 3 u) (fun q e => .inr (by injection e with e; omega))
set_option maxRecDepth 20000 in
set_option maxHeartbeats 8000000 in
theorem Module_all (m : Md) (w : World) (h : MdOk w m) :
    Calls Tryz.prog 9 #[.agg #[.string m.nm, .slice m.ao m.T.length m.cap, .slice m.fo m.F.length m.fc, .slice m.co m.C.length m.cc]] w fun e w' => ∃ y : Md, e = .returned (.agg #[.string y.nm, .slice y.ao y.T.length y.cap, .slice y.fo y.F.length y.fc, .slice y.co y.C.length y.cc]) ∧ MdOk w' y ∧ SameMd m y ∧ (y.T.length ≤ y.cap ∧ y.F.length ≤ y.fc) ∧ (∀ b off, y.co = some ⟨b, off, none⟩ → w.heap.size ≤ b) ∧ (∀ x ∈ y.C, x.ca = none → x.cc = 0) ∧ Below w.heap.size w w' := by
  obtain ⟨i0, hi0, hz0, hz1, hz2⟩ := info_parts infoFn
  obtain ⟨i1, hi1, hy0, hy1, hy2⟩ := info_parts infoBs
  have al1 := (Below.refl w.heap.size w).alloc (Nat.le_refl _) (.cells #[.string m.nm, .slice m.ao m.T.length m.cap, .slice m.fo m.F.length m.fc, .slice m.co m.C.length m.cc] 26)
  have al := al1.alloc (by simp) (.cells #[.string ⟨#[]⟩, .slice none 0 0, .slice none 0 0, .slice none 0 0] 26)
  have HB := hide al
  have n1 := heap_alloc_new w (.cells #[.string m.nm, .slice m.ao m.T.length m.cap, .slice m.fo m.F.length m.fc, .slice m.co m.C.length m.cc] 26)
  have n2 := heap_alloc_new (w.alloc (.cells #[.string m.nm, .slice m.ao m.T.length m.cap, .slice m.fo m.F.length m.fc, .slice m.co m.C.length m.cc] 26)) (.cells #[.string ⟨#[]⟩, .slice none 0 0, .slice none 0 0, .slice none 0 0] 26)
  rw [World.size_alloc] at n2
  have HC1 : Hid (Bx ((w.alloc (.cells #[.string m.nm, .slice m.ao m.T.length m.cap, .slice m.fo m.F.length m.fc, .slice m.co m.C.length m.cc] 26)).alloc (.cells #[.string ⟨#[]⟩, .slice none 0 0, .slice none 0 0, .slice none 0 0] 26)) w.heap.size 26 #[.string m.nm, .slice m.ao m.T.length m.cap, .slice m.fo m.F.length m.fc, .slice m.co m.C.length m.cc]) := hide ((((Below.refl _ _).alloc (Nat.le_refl _) _).block w.heap.size (by simp)).trans n1)
  have HC2 : Hid (Bx ((w.alloc (.cells #[.string m.nm, .slice m.ao m.T.length m.cap, .slice m.fo m.F.length m.fc, .slice m.co m.C.length m.cc] 26)).alloc (.cells #[.string ⟨#[]⟩, .slice none 0 0, .slice none 0 0, .slice none 0 0] 26)) (w.heap.size + 1) 26 #[.string ⟨#[]⟩, .slice none 0 0, .slice none 0 0, .slice none 0 0]) := hide n2
  have hsz : ((w.alloc (.cells #[.string m.nm, .slice m.ao m.T.length m.cap, .slice m.fo m.F.length m.fc, .slice m.co m.C.length m.cc] 26)).alloc (.cells #[.string ⟨#[]⟩, .slice none 0 0, .slice none 0 0, .slice none 0 0] 26)).heap.size = w.heap.size + 2 := by simp
  have H := hide h
  have hlf : m.F.length < 9223372036854775000 := by have := h.fz; omega
  have hlc : m.C.length < 9223372036854775000 := by have := h.cz; omega
  clear al1 al n1 n2 h
  go_enter Tryz.func9, Tryz.ntmps9
  go_upto_region 1 with fail
  generalize ((w.alloc (.cells #[.string m.nm, .slice m.ao m.T.length m.cap, .slice m.fo m.F.length m.fc, .slice m.co m.C.length m.cc] 26)).alloc (.cells #[.string ⟨#[]⟩, .slice none 0 0, .slice none 0 0, .slice none 0 0] 26)) = W1 at HB HC1 HC2 hsz ⊢
  go_cut [3] (fun s3 wx => ∃ g ga gc G, s3 = .pointer (some ⟨g, 0, none⟩) ∧ Hid (MMid w wx m g ga gc G))
  case first =>
    have k0 := (unhide HC1).c 0 rfl
    have k1 := (unhide HC1).c 1 rfl
    have hlt : w.heap.size < W1.heap.size := by omega
    have HSZ := hide hsz
    clear hsz
    have ne0 := World.new_ne W1 _ k0
    have ne1 := World.new_ne W1 _ k1
    go_region_held3 (fun w' => w'.cell? ⟨w.heap.size, 0, none⟩ = some (.string m.nm) ∧ w'.cell? ⟨w.heap.size, 1, none⟩ = some (.slice m.ao m.T.length m.cap)) (first | exact ⟨q0, q1⟩ | go_keep) (first | (go_at_call 20; refine (Classes_cap m.ao m.cap m.T _ (by exact (unhide H).tab.below (by first | exact belowD (unhide HB) 1 | exact (belowD (unhide HB) 1).alloc (by have := unhide HSZ; simp; omega) _)) (unhide H).tz).mono ?_; rintro e w2 ⟨ga, gc, G, rfl, hG, hS, hB2, hcp⟩; have q0 : w2.cell? ⟨w.heap.size, 0, none⟩ = some (.string m.nm) := (hB2.cell (p := ⟨w.heap.size, 0, none⟩) (by have := unhide HSZ; simp; omega)).trans (by first | exact k0 | exact (((Below.refl W1.heap.size W1).alloc (Nat.le_refl _) _).cell (p := ⟨w.heap.size, 0, none⟩) hlt).trans k0); have q1 : w2.cell? ⟨w.heap.size, 1, none⟩ = some (.slice m.ao m.T.length m.cap) := (hB2.cell (p := ⟨w.heap.size, 1, none⟩) (by have := unhide HSZ; simp; omega)).trans (by first | exact k1 | exact (((Below.refl W1.heap.size W1).alloc (Nat.le_refl _) _).cell (p := ⟨w.heap.size, 1, none⟩) hlt).trans k1); have ne3 := World.new_ne w2 _ q0; have ne4 := World.new_ne w2 _ q1; (first | (have hE : Bx w2 W1.heap.size 26 #[.string ⟨#[]⟩, .slice none 0 0, .slice none 0 0, .slice none 0 0] := (hB2.block _ (by simp)).trans (heap_alloc_new W1 _); have e0 := hE.c 0 rfl; have e1 := hE.c 1 rfl; have e2 := hE.c 2 rfl; have e3 := hE.c 3 rfl; have f0 := hE.f 0; have f1 := hE.f 1; have f2 := hE.f 2; have f3 := hE.f 3) | skip)) | fail)
    · go_wp2_with fail
      go_meet
      have hB3 : Below W1.heap.size W1 w2 := (show Below W1.heap.size W1 W1.drew from belowD (Below.refl _ _) 1).trans hB2
      have hall := (Below.refl w2.heap.size w2).alloc (Nat.le_refl _) (.cells #[.string m.nm, .slice ga G.length gc, .slice none 0 0, .slice none 0 0] 26)
      have hsz := unhide HSZ
      have hs2 := hB3.size
      exact ⟨w2.heap.size, ga, gc, G, rfl, hide ⟨heap_alloc_new w2 _, by omega, ((unhide HC2).below hB3).below hall, ((unhide HC1).below hB3).below hall, hG.below hall, hS, hcp, (unhide HB).trans ((hB3.trans (hall.mono hs2)).mono (unhide HB).size)⟩⟩
    · go_wp2_with fail
      go_meet
      have hsz := unhide HSZ
      have hall := (Below.refl W1.heap.size W1).alloc (Nat.le_refl _) (.cells #[.string ⟨#[]⟩, .slice none 0 0, .slice none 0 0, .slice none 0 0] 26)
      have hB3 : Below W1.heap.size W1 w2 := (show Below W1.heap.size W1 (W1.drew.alloc (.cells #[.string ⟨#[]⟩, .slice none 0 0, .slice none 0 0, .slice none 0 0] 26)) from (show Below W1.heap.size W1 W1.drew from belowD (Below.refl _ _) 1).alloc (Nat.le_refl _) _).trans (hB2.mono (by simp))
      have hs2 := hB3.size
      have hg := grownBy_sets4 w2 W1.heap.size (.string m.nm) (.slice ga G.length gc) (.slice none 0 0) (.slice none 0 0)
      have hb4 := (unhide HB).trans (hB3.mono (unhide HB).size)
      refine ⟨W1.heap.size, ga, gc, G, rfl, hide ⟨(((hE.set 0 (.string m.nm) (cs' := #[.string m.nm, .slice none 0 0, .slice none 0 0, .slice none 0 0]) rfl).set 1 (.slice ga G.length gc) (cs' := #[.string m.nm, .slice ga G.length gc, .slice none 0 0, .slice none 0 0]) rfl).set 2 (.slice none 0 0) (cs' := #[.string m.nm, .slice ga G.length gc, .slice none 0 0, .slice none 0 0]) rfl).set 3 (.slice none 0 0) rfl, by omega, ?_, ?_, hG.noNum hg (NoNum.of4 hE), hS, hcp, ?_⟩⟩
      · exact ((unhide HC2).below hB3).grown hg (fun e => by injection e with e; omega)
      · exact ((unhide HC1).below hB3).grown hg (fun e => by injection e with e; omega)
      · exact hb4.grown hg hb4.size (fun q e => by injection e with e; omega)
  case rest =>
    obtain ⟨g, ga, gc, G, rfl, HM⟩ := hcut
    clear HB HC1 HC2 hsz W1
    have x1 := (unhide HM).par.c 2 rfl
    go_wp2_with fail
    clear x1
    have HGE := hide (unhide HM).ge
    have HGL := hide (unhide HM).box.lt
    have HBC := hide (unhide HM).bel
    obtain ⟨tv, HTV⟩ : ∃ tv, Hid (Value.slice ga G.length gc = tv) := ⟨_, hide rfl⟩
    go_loopw [17] (fun i wr => ∃ (k : Nat) (N : List Fn) (v : Value), k ≤ m.F.length ∧ i = .int .i64 (k : Int) ∧ Hid (N.length = k) ∧ Hid (FRun wc wr m.F (.string m.nm) tv (.slice none 0 0) g v N)) (fun i _ => m.F.length - (intOf i).toNat)
    case atStart => exact ⟨0, [], .slice none 0 0, by omega, rfl, hide rfl, hide ⟨by rw [← unhide HTV]; exact (unhide HM).box, World.ownsRow_nil _ _ _ _, fun i x y _ hy => by simp at hy, ⟨rfl, rfl, rfl, Nat.le_refl _, fun _ _ _ => rfl⟩⟩⟩
    case round =>
      obtain ⟨k, N, v, hk, rfl, HK, HR⟩ := hrel
      have HBr : Hid (Below w.heap.size w wr) := hide ((unhide HBC).grown (unhide HR).grw (unhide HBC).size (fun q e => by have := unhide HGE; injection e with e; omega))
      by_cases hlt : k < m.F.length
      · have j1 : ((k : Nat) : Int) < ((m.F.length : Nat) : Int) := by omega
        have hx := List.getElem?_eq_getElem hlt
        obtain ⟨b, off, eao, hxa⟩ := (unhide H).fns.below (unhide HBr) k _ hx
        rw [eao]
        have c0 := hxa.c0
        have c1 := hxa.c1
        have c2 := hxa.c2
        have c3 := hxa.c3
        have c4 := hxa.c4
        have HX := hide hx
        have HXA := hide hxa.ok
        generalize m.F[k] = x at HX HXA c0 c1 c2 c3 c4
        clear hx hxa
        go_upto_region 5 with fail
        obtain ⟨va, vc, rfl⟩ := ownSlice (unhide HR).own
        obtain ⟨FB, HFB⟩ : ∃ FB, Hid (wr.heap.size = FB) := ⟨_, hide rfl⟩
        obtain ⟨wa, HWa⟩ : ∃ wa, Hid (wr.alloc (Obj.cells #[.string x.nm, .slice x.sg.po x.sg.ps.length x.sg.pc, .int .u8 (x.sg.rt : Int), .int .i64 x.lo, .slice x.ca x.cd.length x.cc] 44) = wa) := ⟨_, hide rfl⟩
        have hBa : Below wr.heap.size wr wa := by rw [← unhide HWa]; exact (Below.refl _ _).alloc (Nat.le_refl _) _
        have hrow : Bx wa FB 44 #[.string x.nm, .slice x.sg.po x.sg.ps.length x.sg.pc, .int .u8 (x.sg.rt : Int), .int .i64 x.lo, .slice x.ca x.cd.length x.cc] := by rw [← unhide HWa, ← unhide HFB]; exact heap_alloc_new wr _
        rw [unhide HWa, unhide HFB]
        have s0 := hrow.c 0 rfl
        have s1 := hrow.c 1 rfl
        have s2 := hrow.c 2 rfl
        have s3 := hrow.c 3 rfl
        have s4 := hrow.c 4 rfl
        have hgr := (unhide HR).box.lt
        have hba := (unhide HR).box.below hBa
        have a1 := hba.c 2 rfl
        have hga := hba.lt
        have HBA := hide hBa
        have HPA := hide (((unhide HXA).below hBa).below (show Below wa.heap.size wa wa.drew from belowD (Below.refl _ _) 1))
        have HVG : Hid ((Value.slice va N.length vc).ownBlock ≠ some g) := hide (fun e => by have := (World.ownsRow.lt (unhide HR).own g e).1; have := unhide HGL; omega)
        have hwc : wc.heap.size ≤ wr.heap.size := (unhide HR).grw.size
        have HMk : Hid (N.length + 1 ≤ maxLen ∧ (N.length + 1) * 80 ≤ 140737488355328) := hide (by have := unhide HK; have := (unhide H).fz; unfold maxLen; omega)
        clear c0 c1 c2 c3 c4 hBa hrow hba HWa
        go_region_law (first | (go_simp; go_at_call 21; refine (Func_any x wa.drew (unhide HPA)).mono ?_; rintro e w2 ⟨y, rfl, hC2, hB2⟩; have q1 : w2.cell? ⟨g, 2, none⟩ = some (.slice va N.length vc) := (hB2.cell (p := ⟨g, 2, none⟩) hga).trans a1; have ne1 := World.new_ne w2 _ q1; have hB3 : Below wr.heap.size wr w2 := (unhide HBA).trans ((show Below wa.heap.size wa w2 from (show Below wa.heap.size wa wa.drew from belowD (Below.refl _ _) 1).trans hB2).mono (unhide HBA).size); have hOd : (w2.alloc (.cells #[.string y.nm, .slice y.sg.po y.sg.ps.length y.sg.pc, .int .u8 (y.sg.rt : Int), .int .i64 y.lo, .slice y.ca y.cd.length y.cc] 44)).ownsRow wc.heap.size 44 5 (.slice va N.length vc) N.length (fnvals N) := rowBelow (unhide HR).own (hB3.alloc hB3.size _); have HC2 := hide hC2; have HB3 := hide hB3; have HOd := hide hOd; have hw2 : wc.heap.size ≤ w2.heap.size := Nat.le_trans hwc hB3.size; have hg2 : g < w2.heap.size := Nat.lt_of_lt_of_le hgr hB3.size; clear hC2 hB3 hOd hB2) | (refine step_append_lies _ (by rfl) _ _ 23 (by rfl) wc.heap.size 44 i0 _ 5 80 Tryz.underlying23 hi0 hz0 hz1 hz2 rfl (by omega) (.slice va N.length vc) N.length (fnvals N) (by rfl) (unhide HOd) ⟨w2.heap.size, 0, none⟩ 1 1 (fncells y) (by rfl) (by rfl) (World.news_of_block (cs := #[.string y.nm, .slice y.sg.po y.sg.ps.length y.sg.pc, .int .u8 (y.sg.rt : Int), .int .i64 y.lo, .slice y.ca y.cd.length y.cc]) (t := 44) (fr := (0, 0)) (heap_alloc_new w2 _)) (fncells_one _) (by omega) (unhide HMk).1 (unhide HMk).2 (by simp; omega) (w2.heap.size + 1) (by simp) ?_; intro g3 cap3 w3 hown hgrow hat hlt3; have r1 : w3.cell? ⟨g, 2, none⟩ = some (.slice va N.length vc) := (hgrow.cell_far ⟨g, 2, none⟩ (by simp; omega) (Ne.symm (unhide HVG))).trans ((((Below.refl w2.heap.size w2).alloc (Nat.le_refl _) _).cell (p := ⟨g, 2, none⟩) hg2).trans q1); have f1 : w3.frozen? ⟨g, 2, none⟩ = false := frozen_of_row _ _ _ _ _ ((hgrow.block g (by simp; omega) (Ne.symm (unhide HVG))).trans (((unhide HB3).alloc (unhide HB3).size _).block g hgr |>.trans (unhide HR).box)); have HR2 := hide ((unhide HR).step (unhide HGL) (unhide HB3) (unhide HC2) (b2 := wa.drew.heap.size) (Nat.le_trans hwc (unhide HBA).size) (by rw [unhide HK]; exact unhide HX) hown hgrow); have HK2 : Hid ((N ++ [y]).length = k + 1) := hide (by rw [List.length_append, unhide HK]; rfl); clear hown hgrow hat hlt3))
        all_goals (
          go_wp2
          go_roundw
          case rel => exact ⟨k + 1, _, _, by omega, by go_num, HK2, HR2⟩
          case measure => simp [intOf]; omega)
      · have j1 : ¬ ((k : Nat) : Int) < ((m.F.length : Nat) : Int) := by omega
        have ek : k = m.F.length := by omega
        obtain ⟨va, vc, rfl, hSg, hSm⟩ := copy_fns (unhide H).fns (unhide HR).own (by rw [unhide HK]; exact ek) (unhide HR).cps
        have HSG := hide hSg
        have HSM := hide hSm
        have HVC : Hid (N.length ≤ vc) := hide (ownCap (unhide HR).own)
        have HBX : Hid (Bx wr g 26 #[.string m.nm, .slice ga G.length gc, .slice va N.length vc, .slice none 0 0]) := hide (by rw [unhide HTV]; exact (unhide HR).box)
        have HOX := hide ((unhide HM).old.grown (unhide HR).grw (fun e => by have := unhide HGE; injection e with e; omega))
        have HPX := hide ((unhide HM).par.grown (unhide HR).grw (fun e => by have := unhide HGE; injection e with e; omega))
        have HTB := hide ((unhide HM).tab.noNum (unhide HR).grw (NoNum.of4 (unhide HM).box))
        have hgz : wc.heap.size ≤ wr.heap.size := (unhide HR).grw.size
        have HGL2 := hide (unhide HBX).lt
        clear hSg hSm ek
        have x1 := (unhide HPX).c 3 rfl
        go_wp2_with fail
        clear x1
        obtain ⟨fv, HFV⟩ : ∃ fv, Hid (Value.slice va N.length vc = fv) := ⟨_, hide rfl⟩
        obtain ⟨wd, HWD⟩ : ∃ wd, Hid (wr = wd) := ⟨_, hide rfl⟩
        rw [unhide HWD]
        rw [unhide HWD] at HBr HSG HBX HOX HPX HTB hgz HGL2
        clear HR HWD HK
        go_loopw [32] (fun i wr => ∃ (k : Nat) (C : List Bs) (v : Value), k ≤ m.C.length ∧ i = .int .i64 (k : Int) ∧ Hid (C.length = k) ∧ Hid (CRun wd wr m.C (.string m.nm) tv fv g v C)) (fun i _ => m.C.length - (intOf i).toNat)
        case atStart => exact ⟨0, [], .slice none 0 0, by omega, rfl, hide rfl, hide ⟨by rw [← unhide HTV, ← unhide HFV]; exact unhide HBX, World.ownsRow_nil _ _ _ _, fun i x y _ hy => by simp at hy, ⟨rfl, rfl, rfl, Nat.le_refl _, fun _ _ _ => rfl⟩⟩⟩
        case round =>
          obtain ⟨k, C, v, hk, rfl, HK, HR⟩ := hrel
          have HBr2 : Hid (Below w.heap.size w wr) := hide ((unhide HBr).grown (unhide HR).grw (unhide HBr).size (fun q e => by have := unhide HGE; injection e with e; omega))
          by_cases hlt : k < m.C.length
          · have j1 : ((k : Nat) : Int) < ((m.C.length : Nat) : Int) := by omega
            have hx := List.getElem?_eq_getElem hlt
            obtain ⟨b, off, eao, hxa⟩ := (unhide H).cts.below (unhide HBr2) k _ hx
            rw [eao]
            have c0 := hxa.c0
            have HX := hide hx
            have HXA := hide hxa
            generalize m.C[k] = x at HX HXA c0
            clear hx hxa
            go_upto_region 10 with fail
            obtain ⟨va2, vc2, rfl⟩ := ownSlice (unhide HR).own
            have hgr := (unhide HR).box.lt
            have a1 := (unhide HR).box.c 3 rfl
            have HPA := hide ((unhide HXA).below (show Below wr.heap.size wr wr.drew from belowD (Below.refl _ _) 1))
            have HVG : Hid ((Value.slice va2 C.length vc2).ownBlock ≠ some g) := hide (fun e => by have := (World.ownsRow.lt (unhide HR).own g e).1; have := unhide HGL2; omega)
            have hwc : wd.heap.size ≤ wr.heap.size := (unhide HR).grw.size
            have HMk : Hid (C.length + 1 ≤ maxLen ∧ (C.length + 1) * 24 ≤ 140737488355328) := hide (by have := unhide HK; have := (unhide H).cz; unfold maxLen; omega)
            clear c0
            go_region_law (first | (go_simp; go_at_call 19; refine (Clone_any x.ca x.cc x.cd wr.drew (unhide HPA).code (unhide HPA).nil (by have := (unhide HPA).fit; omega)).mono ?_; rintro e w2 ⟨v4, rfl, hO4, hB2, _⟩; obtain ⟨ba, bc, rfl, _⟩ := hO4.at; have q1 : w2.cell? ⟨g, 3, none⟩ = some (.slice va2 C.length vc2) := (hB2.cell (p := ⟨g, 3, none⟩) hgr).trans a1; have ne1 := World.new_ne w2 _ q1; have hB3 : Below wr.heap.size wr w2 := (show Below wr.heap.size wr w2 from (show Below wr.heap.size wr wr.drew from belowD (Below.refl _ _) 1).trans hB2); have hOd : (w2.alloc (.cells #[.slice ba x.cd.length bc] 28)).ownsRow wd.heap.size 28 1 (.slice va2 C.length vc2) C.length (bsvals C) := rowBelow (unhide HR).own (hB3.alloc hB3.size _); have HC2 : Hid (CopyBs w2 wr.drew.heap.size x ⟨ba, bc, x.cd⟩) := hide ⟨rfl, hO4⟩; have HB3 := hide hB3; have HOd := hide hOd; have hw2 : wd.heap.size ≤ w2.heap.size := Nat.le_trans hwc hB3.size; have hg2 : g < w2.heap.size := Nat.lt_of_lt_of_le hgr hB3.size; clear hO4 hB3 hOd hB2) | (refine step_append_lies _ (by rfl) _ _ 24 (by rfl) wd.heap.size 28 i1 _ 1 24 Tryz.underlying24 hi1 hy0 hy1 hy2 rfl (by omega) (.slice va2 C.length vc2) C.length (bsvals C) (by rfl) (unhide HOd) ⟨w2.heap.size, 0, none⟩ 1 1 [bscells ⟨ba, bc, x.cd⟩] (by rfl) (by rfl) (World.news_of_block (cs := #[.slice ba x.cd.length bc]) (t := 28) (fr := (0, 0)) (heap_alloc_new w2 _)) (by simp [bscells, Value.oneCell']) (by omega) (unhide HMk).1 (unhide HMk).2 (by simp; omega) (w2.heap.size + 1) (by simp) ?_; intro g3 cap3 w3 hown hgrow hat hlt3; have r1 : w3.cell? ⟨g, 3, none⟩ = some (.slice va2 C.length vc2) := (hgrow.cell_far ⟨g, 3, none⟩ (by simp; omega) (Ne.symm (unhide HVG))).trans ((((Below.refl w2.heap.size w2).alloc (Nat.le_refl _) _).cell (p := ⟨g, 3, none⟩) hg2).trans q1); have f1 : w3.frozen? ⟨g, 3, none⟩ = false := frozen_of_row _ _ _ _ _ ((hgrow.block g (by simp; omega) (Ne.symm (unhide HVG))).trans (((unhide HB3).alloc (unhide HB3).size _).block g hgr |>.trans (unhide HR).box)); have HR2 := hide ((unhide HR).step (unhide HGL2) (unhide HB3) (unhide HC2) (b2 := wr.drew.heap.size) hwc (by rw [unhide HK]; exact unhide HX) hown hgrow); have HK2 : Hid ((C ++ [(⟨ba, bc, x.cd⟩ : Bs)]).length = k + 1) := hide (by rw [List.length_append, unhide HK]; rfl); clear hown hgrow hat hlt3))
            all_goals (
              go_wp2
              go_roundw
              case rel => exact ⟨k + 1, _, _, by omega, by go_num, HK2, HR2⟩
              case measure => simp [intOf]; omega)
          · have j1 : ¬ ((k : Nat) : Int) < ((m.C.length : Nat) : Int) := by omega
            have ek : k = m.C.length := by omega
            obtain ⟨va2, vc2, rfl, hSg, hSc⟩ := copy_bss (unhide H).cts (unhide HR).own (by rw [unhide HK]; exact ek) (unhide HR).cps
            have HSC := hide hSc
            have HBX2 : Hid (Bx wr g 26 #[.string m.nm, .slice ga G.length gc, .slice va N.length vc, .slice va2 C.length vc2]) := hide (by rw [unhide HTV, unhide HFV]; exact (unhide HR).box)
            have HOX2 := hide ((unhide HOX).grown (unhide HR).grw (fun e => by have := unhide HGE; injection e with e; omega))
            have HTB2 := hide ((unhide HTB).noNum (unhide HR).grw (NoNum.of4 (unhide HBX)))
            have HSG2 := hide ((unhide HSG).noNum (unhide HR).grw (NoNum.of4 (unhide HBX)))
            clear hSg hSc ek
            go_upto_region 12 with fail
            have HRX : Hid (Bx (wr.setRow (w.heap.size + 1) #[.string m.nm, .slice ga G.length gc, .slice va N.length vc, .slice va2 C.length vc2]) (w.heap.size + 1) 26 #[.string m.nm, .slice ga G.length gc, .slice va N.length vc, .slice va2 C.length vc2]) := hide (setRow_heap _ _ _ _ _ _ (unhide HOX2))
            have hgw := grown_row (W := wr) (w.heap.size + 1) #[.string m.nm, .slice ga G.length gc, .slice va N.length vc, .slice va2 C.length vc2]
            have HT3 := hide ((unhide HTB2).noNum hgw (NoNum.of4 (unhide HOX2)))
            have HF3 := hide ((unhide HSG2).noNum hgw (NoNum.of4 (unhide HOX2)))
            have HS3 : Hid (BssAt (wr.setRow (w.heap.size + 1) #[.string m.nm, .slice ga G.length gc, .slice va N.length vc, .slice va2 C.length vc2]) va2 C) := hide (by
              have hwl : w.heap.size + 1 < wd.heap.size := (unhide HOX).lt
              obtain ⟨va', vc', e, hs, _⟩ := copy_bss (v := .slice va2 C.length vc2) (unhide H).cts (rows_grownG (unhide HR).own hgw (fun q e e2 => by have := (World.ownsRow.lt (unhide HR).own q e).1; injection e2 with e2; omega)) (by rw [unhide HK]; omega) (fun i x y hx hy => ((unhide HR).cps i x y hx hy).box hgw hwl)
              injection e with e1 _ e2
              subst e1
              exact hs)
            clear hgw
            go_wp2_with (first | (refine wpList_load_rowG (by kernel_rfl) 26 (.tmp 3) rfl g rfl 26 #[.string m.nm, .slice ga G.length gc, .slice va N.length vc, .slice va2 C.length vc2] (0, 0) _ (unhide HBX2) Tryz.underlying26 rfl (by kernel_rfl) ?_) | (refine wpList_store_row rfl 26 (.tmp 2) (.tmp 44) rfl (w.heap.size + 1) #[.string m.nm, .slice ga G.length gc, .slice va N.length vc, .slice va2 C.length vc2] rfl rfl 26 #[.string ⟨#[]⟩, .slice none 0 0, .slice none 0 0, .slice none 0 0] (unhide HOX2) (by kernel_rfl) rfl (by simp [Value.oneCell']) ?_))
            refine bodyPost_ret (results_bx rfl _ _ (w.heap.size + 1) _ rfl (run_loadVar_row _ _ 26 26 _ (0, 0) _ (unhide HRX) Tryz.underlying26 rfl (by kernel_rfl))) rfl ⟨⟨m.nm, ga, gc, G, va, vc, N, va2, vc2, C⟩, rfl, ⟨unhide HT3, ?_, unhide HF3, ?_, unhide HS3, ?_, (unhide H).name⟩, ⟨rfl, (unhide HM).same, unhide HSM, unhide HSC⟩, ⟨(unhide HM).cap, unhide HVC⟩, fun b off e => ?_, fun x hx e => ?_, below_setRow' (unhide HBr2) (by omega) _⟩
            rotate_left 3
            · have h1 := (unhide HBr).size
              have e' : va2 = some ⟨b, off, none⟩ := e
              subst e'
              have h2 := (World.ownsRow.lt (unhide HR).own b rfl).1
              omega
            · obtain ⟨i, hi, rfl⟩ := List.mem_iff_getElem.1 hx
              have hl := (unhide HSC).1
              have hi : i < C.length := hi
              have hc := (unhide HR).cps i _ _ (List.getElem?_eq_getElem (show i < m.C.length by rw [← hl]; exact hi)) (List.getElem?_eq_getElem hi)
              rcases hc.own.shape with ⟨h1, _⟩ | ⟨_, _, h1, _⟩
              · injection h1
              · injection h1 with h1
                rw [show (C[i]).ca = none from e] at h1
                cases h1
            · have := (unhide HM).same.1; have := (unhide H).tz; show G.length * 48 ≤ _; omega
            · have := (unhide HSM).1; have := (unhide H).fz; show N.length * 80 ≤ _; omega
            · have := (unhide HSC).1; have := (unhide H).cz; show C.length * 24 ≤ _; omega
theorem Module_any (m : Md) (w : World) (h : MdOk w m) :
    Calls Tryz.prog 9 #[.agg #[.string m.nm, .slice m.ao m.T.length m.cap, .slice m.fo m.F.length m.fc, .slice m.co m.C.length m.cc]] w fun e w' => ∃ y : Md, e = .returned (.agg #[.string y.nm, .slice y.ao y.T.length y.cap, .slice y.fo y.F.length y.fc, .slice y.co y.C.length y.cc]) ∧ MdOk w' y ∧ SameMd m y ∧ (y.T.length ≤ y.cap ∧ y.F.length ≤ y.fc) ∧ (∀ b off, y.co = some ⟨b, off, none⟩ → w.heap.size ≤ b) ∧ Below w.heap.size w w' :=
  (Module_all m w h).mono (fun _ _ ⟨y, h1, h2, h3, h4, h5, _, h6⟩ => ⟨y, h1, h2, h3, h4, h5, h6⟩)
end Go.Proofs.YtibgfdjopikafaaGreatDoor
