/-
  What modules hold, plainly, and the contracts that compare: slices.Equal at fields and at types, provisoplain.SameSig, SameFunc, SameClasses: whether both hold the same. Conditions: lengths fit.
-/
import Derived.Test.YtgelbihdcfgjcaaDoorJMD
namespace Go.Proofs.YtgelbihdcfgjcaaDoor
open Go.RowKit
set_option maxRecDepth 20000

def flC (f : Fl) : List UInt8 × Nat := (f.nm.toList, f.ty)
def clC (x : Cl) : List UInt8 × Int × List (List UInt8 × Nat) := (x.nm.toList, x.par, x.fs.map flC)
def sgC (s : Sg) : List Nat × Nat := (s.ps, s.rt)
def fnC (f : Fn) : List UInt8 × (List Nat × Nat) × Int × List UInt8 := (f.nm.toList, sgC f.sg, f.lo, f.cd)
def bsC (x : Bs) : List UInt8 := x.cd
def eqL {α β : Type} [DecidableEq β] (c : α → β) (L M : List α) : Bool := decide (L.map c = M.map c)
theorem eqL_no {α β : Type} [DecidableEq β] {c : α → β} {L M : List α} {i : Nat} {x y : α} (hx : L[i]? = some x) (hy : M[i]? = some y) (h : c x ≠ c y) : eqL c L M = false := by
  unfold eqL
  rw [decide_eq_false_iff_not]
  intro e
  have := congrArg (fun l => l[i]?) e
  simp only [List.getElem?_map, hx, hy, Option.map_some] at this
  exact h (Option.some.inj this)
theorem eqL_len {α β : Type} [DecidableEq β] {c : α → β} {L M : List α} (h : L.length ≠ M.length) : eqL c L M = false := by
  unfold eqL
  rw [decide_eq_false_iff_not]
  intro e
  have := congrArg List.length e
  simp at this
  exact h this
theorem eqL_yes {α β : Type} [DecidableEq β] {c : α → β} {L M : List α} (hl : L.length = M.length) (h : ∀ (i : Nat) x y, L[i]? = some x → M[i]? = some y → c x = c y) : eqL c L M = true := by
  unfold eqL
  rw [decide_eq_true_iff]
  apply List.ext_getElem?
  intro i
  simp only [List.getElem?_map]
  by_cases hi : i < L.length
  · have hx := List.getElem?_eq_getElem hi
    have hy := List.getElem?_eq_getElem (show i < M.length by omega)
    rw [hx, hy, Option.map_some, Option.map_some, h i _ _ hx hy]
  · rw [List.getElem?_eq_none (by omega), List.getElem?_eq_none (by omega)]
theorem decP {p q : Prop} [Decidable p] [Decidable q] (h : p ↔ q) : decide p = decide q := by simp [h]
theorem beqD {α : Type} [DecidableEq α] (a b : α) : (a == b) = decide (a = b) := rfl
theorem fnEq (x y : Fn) : decide (fnC x = fnC y) = ((x.nm.toList == y.nm.toList) && decide (sgC x.sg = sgC y.sg) && decide (x.lo = y.lo) && (x.cd == y.cd)) := by
  unfold fnC
  rw [Bool.eq_iff_iff]
  simp [Prod.ext_iff, and_assoc]
theorem sgEq (x y : Sg) : decide (sgC x = sgC y) = (decide (x.rt = y.rt) && decide (x.ps = y.ps)) := by
  unfold sgC
  rw [Bool.eq_iff_iff]
  simp [Prod.ext_iff, and_comm]
theorem clEq (x y : Cl) : decide (clC x = clC y) = ((x.nm.toList == y.nm.toList) && decide (x.par = y.par) && eqL flC x.fs y.fs) := by
  unfold clC eqL
  rw [Bool.eq_iff_iff]
  simp [Prod.ext_iff, and_assoc]
theorem flEq (x y : Fl) : decide (flC x = flC y) = ((x.nm.toList == y.nm.toList) && decide (x.ty = y.ty)) := by
  unfold flC
  rw [Bool.eq_iff_iff]
  simp [Prod.ext_iff]
theorem neOfDec {p : Prop} [Decidable p] (h : decide p = false) : ¬ p := by simpa using h
theorem eqOfDec {p : Prop} [Decidable p] (h : decide p = true) : p := by simpa using h
theorem intOfNat {a b : Nat} (h : a ≠ b) : ((a : Int) == (b : Int)) = false := beq_f (by omega)
theorem intOfNatT {a b : Nat} (h : a = b) : ((a : Int) == (b : Int)) = true := beq_t (by omega)

set_option maxHeartbeats 2000000 in
theorem equalF_any (fo go : Option Addr) (fc gc : Nat) (l m : List Fl) (w : World) (h : FsAt w fo l) (hg : FsAt w go m) (hb : l.length * 24 ≤ 140737488351232) :
    Calls Tryd.prog 35 #[.slice fo l.length fc, .slice go m.length gc] w fun e w' => e = .returned (.bool (eqL flC l m)) ∧ ∃ k, w' = w.drewN k := by
  have hb' : l.length < 9223372036854775000 := by omega
  clear hb
  by_cases hl : l.length = m.length
  rotate_left
  · have HR : Hid (eqL flC l m = false) := hide (eqL_len hl)
    have e0 : (((l.length : Nat) : Int) != ((m.length : Nat) : Int)) = true := bne_t (by omega)
    clear hl
    go_enter Tryd.func35, Tryd.ntmps35
    go_wp2
    go_ret
    exact ⟨ret_bool (unhide HR).symm, 0, rfl⟩
  have e0 : (((l.length : Nat) : Int) != ((m.length : Nat) : Int)) = false := bne_f (by omega)
  have HL := hide hl
  clear hl
  go_enter Tryd.func35, Tryd.ntmps35
  go_wp2
  go_loopw [13] (fun i wr => ∃ k : Nat, k ≤ l.length ∧ i = .int .i64 (k : Int) ∧ Hid (∀ (j : Nat) x y, j < k → l[j]? = some x → m[j]? = some y → flC x = flC y) ∧ ∃ q, wr = w.drewN q) (fun i _ => l.length - (intOf i).toNat)
  case atStart => exact ⟨0, by omega, rfl, hide (fun j x y h => by omega), 0, rfl⟩
  case round =>
    obtain ⟨k, hk, rfl, HK, q, rfl⟩ := hrel
    by_cases hlt : k < l.length
    · have i1 : ((k : Nat) : Int) < ((l.length : Nat) : Int) := by omega
      have hltm : k < m.length := by have := unhide HL; omega
      have i2 : ((k : Nat) : Int) < ((m.length : Nat) : Int) := by omega
      have hx := List.getElem?_eq_getElem hlt
      have hy := List.getElem?_eq_getElem hltm
      obtain ⟨b, off, rfl, hxa⟩ := h k _ hx
      obtain ⟨b', off', rfl, hya⟩ := hg k _ hy
      have d0 := hxa.c0
      have d1 := hxa.c1
      have g0 := hya.c0
      have g1 := hya.c1
      have HX := hide hx
      have HY := hide hy
      generalize l[k] = f at d0 d1 HX
      generalize m[k] = f' at g0 g1 HY
      clear hx hy hxa hya h hg
      have HE := hide (flEq f f')
      have HNO : Hid (decide (flC f = flC f') = false → eqL flC l m = false) := hide (fun e => eqL_no (unhide HX) (unhide HY) (neOfDec e))
      have HK2 : Hid (decide (flC f = flC f') = true → ∀ (j : Nat) x y, j < k + 1 → l[j]? = some x → m[j]? = some y → flC x = flC y) := hide (fun e j x y h1 h2 h3 => by
        by_cases e' : j = k
        · rw [e', unhide HX] at h2
          rw [e', unhide HY] at h3
          injection h2 with h2
          injection h3 with h3
          rw [← h2, ← h3]; exact eqOfDec e
        · exact unhide HK j x y (by omega) h2 h3)
      cases hn : (f.nm.toList == f'.nm.toList)
      · have HR := hide (unhide HNO (by rw [unhide HE, hn]; rfl))
        by_cases ht : f.ty = f'.ty
        · have t1 := intOfNatT ht
          clear ht
          go_wp2
          go_quiet (fail)
          go_wp2
          go_ret
          exact ⟨ret_bool (unhide HR).symm, _, drew2 _ _ _⟩
        · have t1 := intOfNat ht
          clear ht
          go_wp2
          go_quiet (fail)
          go_wp2
          go_ret
          exact ⟨ret_bool (unhide HR).symm, _, drew2 _ _ _⟩
      · by_cases ht : f.ty = f'.ty
        · have t1 := intOfNatT ht
          have HR := hide (unhide HK2 (by rw [unhide HE, hn]; simp [ht]))
          clear ht
          go_wp2
          go_quiet (fail)
          go_wp2
          go_roundw
          case rel => exact ⟨k + 1, by omega, by go_num, HR, _, rfl⟩
          case measure => simp [intOf]; omega
        · have t1 := intOfNat ht
          have HR := hide (unhide HNO (by rw [unhide HE, hn]; simp [ht]))
          clear ht
          go_wp2
          go_quiet (fail)
          go_wp2
          go_ret
          exact ⟨ret_bool (unhide HR).symm, _, drew2 _ _ _⟩
    · have i1 : ¬ ((k : Nat) : Int) < ((l.length : Nat) : Int) := by omega
      have HR : Hid (eqL flC l m = true) := hide (eqL_yes (unhide HL) (fun i x y h1 h2 => unhide HK i x y (by have := (List.getElem?_eq_some_iff.1 h1).1; omega) h1 h2))
      go_wp2
      go_ret
      exact ⟨ret_bool (unhide HR).symm, _, rfl⟩

set_option maxHeartbeats 2000000 in
theorem equalP_any (fo go : Option Addr) (fc gc : Nat) (l m : List Nat) (w : World) (h : PAt w fo l) (hg : PAt w go m) (hb : l.length ≤ 140737488351232) :
    Calls Tryd.prog 28 #[.slice fo l.length fc, .slice go m.length gc] w fun e w' => e = .returned (.bool (decide (l = m))) ∧ ∃ k, w' = w.drewN k := by
  have hmm : decide (l = m) = eqL (fun x => x) l m := by unfold eqL; simp
  rw [hmm]
  clear hmm
  have hb' : l.length < 9223372036854775000 := by omega
  clear hb
  by_cases hl : l.length = m.length
  rotate_left
  · have HR : Hid (eqL (fun x => x) l m = false) := hide (eqL_len hl)
    have e0 : (((l.length : Nat) : Int) != ((m.length : Nat) : Int)) = true := bne_t (by omega)
    clear hl
    go_enter Tryd.func28, Tryd.ntmps28
    go_wp2
    go_ret
    exact ⟨ret_bool (unhide HR).symm, 0, rfl⟩
  have e0 : (((l.length : Nat) : Int) != ((m.length : Nat) : Int)) = false := bne_f (by omega)
  have HL := hide hl
  clear hl
  go_enter Tryd.func28, Tryd.ntmps28
  go_wp2
  go_loopw [13] (fun i wr => ∃ k : Nat, k ≤ l.length ∧ i = .int .i64 (k : Int) ∧ Hid (∀ (j : Nat) x y, j < k → l[j]? = some x → m[j]? = some y → x = y) ∧ ∃ q, wr = w.drewN q) (fun i _ => l.length - (intOf i).toNat)
  case atStart => exact ⟨0, by omega, rfl, hide (fun j x y h => by omega), 0, rfl⟩
  case round =>
    obtain ⟨k, hk, rfl, HK, q, rfl⟩ := hrel
    by_cases hlt : k < l.length
    · have i1 : ((k : Nat) : Int) < ((l.length : Nat) : Int) := by omega
      have hltm : k < m.length := by have := unhide HL; omega
      have i2 : ((k : Nat) : Int) < ((m.length : Nat) : Int) := by omega
      have hx := List.getElem?_eq_getElem hlt
      have hy := List.getElem?_eq_getElem hltm
      obtain ⟨b, off, rfl, d0⟩ := h k _ hx
      obtain ⟨b', off', rfl, g0⟩ := hg k _ hy
      have HX := hide hx
      have HY := hide hy
      generalize l[k] = f at d0 HX
      generalize m[k] = f' at g0 HY
      clear hx hy h hg
      by_cases ht : f = f'
      · have t1 : ((f : Int) != (f' : Int)) = false := bne_f (by omega)
        have HR : Hid (∀ (j : Nat) x y, j < k + 1 → l[j]? = some x → m[j]? = some y → x = y) := hide (fun j x y h1 h2 h3 => by
          by_cases e' : j = k
          · rw [e', unhide HX] at h2
            rw [e', unhide HY] at h3
            injection h2 with h2
            injection h3 with h3
            rw [← h2, ← h3]; exact ht
          · exact unhide HK j x y (by omega) h2 h3)
        clear ht
        go_wp2
        go_quiet (fail)
        go_wp2
        go_roundw
        case rel => exact ⟨k + 1, by omega, by go_num, HR, _, rfl⟩
        case measure => simp [intOf]; omega
      · have t1 : ((f : Int) != (f' : Int)) = true := bne_t (by omega)
        have HR : Hid (eqL (fun x => x) l m = false) := hide (eqL_no (unhide HX) (unhide HY) ht)
        clear ht
        go_wp2
        go_quiet (fail)
        go_wp2
        go_ret
        exact ⟨ret_bool (unhide HR).symm, _, drew2 _ _ _⟩
    · have i1 : ¬ ((k : Nat) : Int) < ((l.length : Nat) : Int) := by omega
      have HR : Hid (eqL (fun x => x) l m = true) := hide (eqL_yes (unhide HL) (fun i x y h1 h2 => unhide HK i x y (by have := (List.getElem?_eq_some_iff.1 h1).1; omega) h1 h2))
      go_wp2
      go_ret
      exact ⟨ret_bool (unhide HR).symm, _, rfl⟩

set_option maxRecDepth 20000 in
set_option maxHeartbeats 2000000 in
theorem SameSig_any (x y : Sg) (w : World) (h : SgOk w x) (hg : SgOk w y) :
    Calls Tryd.prog 20 #[.agg #[.slice x.po x.ps.length x.pc, .int .u8 (x.rt : Int)], .agg #[.slice y.po y.ps.length y.pc, .int .u8 (y.rt : Int)]] w fun e w' => e = .returned (.bool (decide (sgC x = sgC y))) ∧ Below w.heap.size w w' := by
  have al1 := (Below.refl w.heap.size w).alloc (Nat.le_refl _) (.cells #[.slice x.po x.ps.length x.pc, .int .u8 (x.rt : Int)] 37)
  have al := al1.alloc (by simp) (.cells #[.slice y.po y.ps.length y.pc, .int .u8 (y.rt : Int)] 37)
  have HB := hide al
  have n1 := heap_alloc_new w (.cells #[.slice x.po x.ps.length x.pc, .int .u8 (x.rt : Int)] 37)
  have n2 := heap_alloc_new (w.alloc (.cells #[.slice x.po x.ps.length x.pc, .int .u8 (x.rt : Int)] 37)) (.cells #[.slice y.po y.ps.length y.pc, .int .u8 (y.rt : Int)] 37)
  rw [World.size_alloc] at n2
  have HC1 : Hid (SBx ((w.alloc (.cells #[.slice x.po x.ps.length x.pc, .int .u8 (x.rt : Int)] 37)).alloc (.cells #[.slice y.po y.ps.length y.pc, .int .u8 (y.rt : Int)] 37)) w.heap.size (.slice x.po x.ps.length x.pc) x.rt) := hide ((((Below.refl _ _).alloc (Nat.le_refl _) _).block w.heap.size (by simp)).trans n1)
  have HC2 : Hid (SBx ((w.alloc (.cells #[.slice x.po x.ps.length x.pc, .int .u8 (x.rt : Int)] 37)).alloc (.cells #[.slice y.po y.ps.length y.pc, .int .u8 (y.rt : Int)] 37)) (w.heap.size + 1) (.slice y.po y.ps.length y.pc) y.rt) := hide n2
  have HE := hide (equalP_any x.po y.po x.pc y.pc x.ps y.ps _ (h.prm.below al) (hg.prm.below al) h.fit)
  have HQ := hide (sgEq x y)
  clear al1 al n1 n2 h hg
  go_enter Tryd.func20, Tryd.ntmps20
  go_upto_region 1 with fail
  generalize ((w.alloc (.cells #[.slice x.po x.ps.length x.pc, .int .u8 (x.rt : Int)] 37)).alloc (.cells #[.slice y.po y.ps.length y.pc, .int .u8 (y.rt : Int)] 37)) = W1 at HB HC1 HC2 HE ⊢
  have k1 := (unhide HC1).c0
  have k2 := (unhide HC1).c1
  have k3 := (unhide HC2).c0
  have k4 := (unhide HC2).c1
  by_cases hr : x.rt = y.rt
  · have b1 := intOfNatT hr
    have HR : Hid (decide (sgC x = sgC y) = decide (x.ps = y.ps)) := hide (by rw [unhide HQ]; simp [hr])
    clear hr
    go_wp2_with fail
    refine (unhide HE).mono ?_
    rintro e W2 ⟨rfl, q, rfl⟩
    go_wp2
    go_ret
    exact ⟨ret_bool (unhide HR).symm, belowD (unhide HB) _⟩
  · have b1 := intOfNat hr
    have HR : Hid (decide (sgC x = sgC y) = false) := hide (by rw [unhide HQ]; simp [hr])
    clear hr
    go_wp2
    go_ret
    exact ⟨ret_bool (unhide HR).symm, unhide HB⟩
end Go.Proofs.YtgelbihdcfgjcaaDoor
