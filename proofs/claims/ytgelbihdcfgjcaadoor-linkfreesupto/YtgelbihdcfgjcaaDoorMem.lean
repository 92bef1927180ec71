/-
  What a slice of bytes reads as in a world ('BAt'), and the contracts of slices.Equal and slices.Clone at bytes: Equal tells whether the bytes are the same; Clone makes a row of its own with the same bytes. Conditions: lengths fit.
-/
import Derived.Test.YtgelbihdcfgjcaaDoorRows
import Derived.WalkKit
import Derived.ProofKit
import Derived.WalkSpells
import Derived.Outline
import Derived.Below
import Derived.Deep.QuietTactic
import Derived.BigQuiet
import Derived.Deep.AppendSrc
import Derived.ArgAppend
namespace Go.Proofs.YtgelbihdcfgjcaaDoor
open Go.RowKit
set_option maxRecDepth 20000

/-- The byte at a place, as a number; 0 behind the end. -/
def at8 (l : List UInt8) (i : Nat) : Int := ((l.getD i 0).toNat : Int)

theorem at8_lo (l : List UInt8) (i : Nat) : 0 ≤ at8 l i := by unfold at8; omega
theorem at8_hi (l : List UInt8) (i : Nat) : at8 l i ≤ 255 := by
  unfold at8
  have := (l.getD i 0).toNat_lt
  omega

/-- From an address on the cells hold these bytes; of no byte nothing is said. -/
def BAt (w : World) (ao : Option Addr) (l : List UInt8) : Prop :=
  ∀ i, i < l.length → ∃ b off, ao = some ⟨b, off, none⟩ ∧ w.cell? ⟨b, off + i, none⟩ = some (.int .u8 (at8 l i))

theorem BAt.head {w : World} {ao : Option Addr} {l : List UInt8} (h : BAt w ao l) (hl : 0 < l.length) :
    ∃ b off, ao = some ⟨b, off, none⟩ ∧ ∀ i, i < l.length → w.cell? ⟨b, off + i, none⟩ = some (.int .u8 (at8 l i)) := by
  obtain ⟨b, off, e, _⟩ := h 0 hl
  refine ⟨b, off, e, fun i hi => ?_⟩
  obtain ⟨b', off', e', h'⟩ := h i hi
  rw [e] at e'
  injection e' with e'
  injection e' with e1 e2
  subst e1 e2
  exact h'

theorem BAt.nil (w : World) (ao : Option Addr) : BAt w ao [] := fun i hi => absurd hi (by simp)

theorem BAt.drewN {w : World} {ao : Option Addr} {l : List UInt8} (h : BAt w ao l) (n : Nat) : BAt (w.drewN n) ao l := h

theorem BAt.lt {w : World} {b off : Nat} {l : List UInt8} (h : BAt w (some ⟨b, off, none⟩) l) (hl : 0 < l.length) : b < w.heap.size := by
  obtain ⟨b', off', e, h'⟩ := h 0 hl
  injection e with e
  injection e with e1 e2
  subst e1 e2
  exact World.block_lt_of_cell? w _ h'

theorem hide {p : Prop} (h : p) : Hid p := h
theorem unhide {p : Prop} (h : Hid p) : p := h
theorem ret_bool {a b : Bool} (h : a = b) : Ending.returned (.bool a) = .returned (.bool b) := by rw [h]
theorem beq_f {a b : Int} (h : a ≠ b) : (a == b) = false := beq_eq_false_iff_ne.2 h
theorem beq_t {a b : Int} (h : a = b) : (a == b) = true := beq_iff_eq.2 h
theorem bne_t {a b : Int} (h : a ≠ b) : (a != b) = true := by rw [bne_iff_ne]; exact h
theorem bne_f {a b : Int} (h : a = b) : (a != b) = false := by rw [h]; simp
theorem dec_f {p : Prop} [Decidable p] (h : ¬ p) : decide p = false := decide_eq_false h

theorem belowD {B : Nat} {a w : World} (h : Below B a w) (n : Nat) : Below B a (w.drewN n) := h.trans ⟨rfl, rfl, rfl, Nat.le_refl _, fun _ _ => rfl⟩
theorem drew2 (w : World) (a b : Nat) : (w.drewN a).drewN b = w.drewN (a + b) := by simp

theorem eq_of_at8 {l m : List UInt8} (hlen : l.length = m.length) (h : ∀ i, i < l.length → at8 l i = at8 m i) : l = m := by
  apply List.ext_getElem hlen
  intro i h1 h2
  have := h i h1
  unfold at8 at this
  rw [List.getD_eq_getElem?_getD, List.getD_eq_getElem?_getD, List.getElem?_eq_getElem h1, List.getElem?_eq_getElem h2] at this
  simp only [Option.getD_some] at this
  exact UInt8.toNat_inj.1 (by omega)

set_option maxHeartbeats 400000 in
theorem Equal_any (ao bo : Option Addr) (c c' : Nat) (l m : List UInt8) (w : World) (hl : BAt w ao l) (hm : BAt w bo m) (h1 : l.length ≤ maxLen) (h2 : m.length ≤ maxLen) :
    Calls Tryd.prog 27 #[.slice ao l.length c, .slice bo m.length c'] w fun e w' => e = .returned (.bool (l == m)) ∧ ∃ k, w' = w.drewN k := by
  unfold maxLen at h1 h2
  by_cases hne : l.length = m.length
  · have hb : (((l.length : Nat) : Int) != ((m.length : Nat) : Int)) = false := bne_f (by omega)
    have hne' : m.length ≤ l.length := by omega
    have HE := hide hne
    clear hne
    go_enter Tryd.func27, Tryd.ntmps27
    go_wp2
    go_loopw [13] (fun i wr => ∃ k : Nat, k ≤ l.length ∧ i = .int .i64 k ∧ Hid (∀ j, j < k → at8 l j = at8 m j) ∧ ∃ q, wr = w.drewN q) (fun i _ => l.length - (intOf i).toNat)
    case atStart => exact ⟨0, by omega, rfl, hide (fun j h => by omega), 0, rfl⟩
    case round =>
      obtain ⟨k, hk, rfl, HK, q, rfl⟩ := hrel
      by_cases hlt : k < l.length
      · have hltm : k < m.length := by have := unhide HE; omega
        obtain ⟨b, off, rfl, hc⟩ := hl.head (by omega)
        obtain ⟨b', off', rfl, hc'⟩ := hm.head (by omega)
        have c1 := hc k hlt
        have c2 := hc' k hltm
        have i1 : ((k : Nat) : Int) < ((l.length : Nat) : Int) := by omega
        have i2 : ((k : Nat) : Int) < ((m.length : Nat) : Int) := by omega
        clear hc hc' hl hm
        by_cases e : at8 l k = at8 m k
        · have HR : Hid (∀ j, j < k + 1 → at8 l j = at8 m j) := hide (fun j hj => by
            by_cases e' : j = k
            · rw [e']; exact e
            · exact unhide HK j (by omega))
          have e' := bne_f e
          clear e
          go_wp2
          go_quiet (fail)
          go_wp2
          go_roundw
          case rel => exact ⟨k + 1, by omega, by go_num, HR, _, rfl⟩
          case measure => simp [intOf]; omega
        · have HR : Hid ((l == m) = false) := hide (by
            rw [beq_eq_false_iff_ne]
            intro h; exact e (by rw [h]))
          have e' := bne_t e
          clear e
          go_wp2
          go_quiet (fail)
          go_wp2
          go_ret
          exact ⟨ret_bool (unhide HR).symm, _, drew2 _ _ _⟩
      · have HR : Hid ((l == m) = true) := hide (by
          rw [beq_iff_eq]
          exact eq_of_at8 (unhide HE) (fun i hi => unhide HK i (by omega)))
        go_wp2
        go_ret
        exact ⟨ret_bool (unhide HR).symm, _, rfl⟩
  · have hb : (((l.length : Nat) : Int) != ((m.length : Nat) : Int)) = true := bne_t (by omega)
    have HR : Hid ((l == m) = false) := hide (by
      rw [beq_eq_false_iff_ne]
      intro h; exact hne (by rw [h]))
    go_enter Tryd.func27, Tryd.ntmps27
    go_wp2
    go_ret
    exact ⟨ret_bool (unhide HR).symm, 0, rfl⟩

/-! ### Rows of one's own -/
theorem info8 : (Tryd.prog.info? 5).map (fun i => (i.zero, i.size, i.bytes)) = some (some (.int .u8 0), 1, 1) := by kernel_rfl

/-- The bytes, as cells. -/
def bvals (l : List UInt8) : List Value := l.map fun x => Value.int .u8 (x.toNat : Int)
theorem bvals_length (l : List UInt8) : (bvals l).length = l.length := by simp [bvals]
theorem bvals_get {l : List UInt8} {i : Nat} (h : i < l.length) : (bvals l)[i]? = some (.int .u8 (at8 l i)) := by
  unfold bvals at8
  rw [List.getElem?_map, List.getElem?_eq_getElem h, List.getD_eq_getElem?_getD, List.getElem?_eq_getElem h]
  rfl
theorem bvals_one (l : List UInt8) : ∀ u ∈ bvals l, u.oneCell' = true := by
  intro u hu
  obtain ⟨x, _, rfl⟩ := List.mem_map.1 hu
  rfl
theorem bvals_append (l m : List UInt8) : bvals l ++ bvals m = bvals (l ++ m) := by simp [bvals]
theorem bvals_inj {l m : List UInt8} (h : bvals l = bvals m) : l = m := by
  refine eq_of_at8 (by have := congrArg List.length h; simpa [bvals] using this) (fun i hi => ?_)
  have h1 := bvals_get hi
  rw [h] at h1
  have h2 : i < m.length := by have := congrArg List.length h; simp [bvals] at this; omega
  rw [bvals_get h2] at h1
  simp at h1
  exact h1.symm

/-- A slice value that owns these bytes, in a block from 'base' on. -/
def OwnB (w : World) (base : Nat) (v : Value) (l : List UInt8) : Prop := w.ownsRow base 5 1 v l.length (bvals l)

/-- What such a value is: nil, or the head of a block of its own. -/
theorem OwnB.shape {w : World} {base : Nat} {v : Value} {l : List UInt8} (h : OwnB w base v l) :
    (v = .slice none 0 0 ∧ l = []) ∨ ∃ g cap, v = .slice (some ⟨g, 0, none⟩) l.length cap ∧ base ≤ g ∧ g < w.heap.size ∧ l.length ≤ cap ∧ cap ≤ maxLen ∧ BAt w (some ⟨g, 0, none⟩) l := by
  rcases h.2 with ⟨h1, h2⟩ | ⟨g, cap, cur, hv, hb, hh, hn, hm, hs, ht⟩
  · exact Or.inl ⟨h1, List.eq_nil_of_length_eq_zero h2⟩
  · refine Or.inr ⟨g, cap, hv, hb, (Array.getElem?_eq_some_iff.1 hh).1, hn, hm, fun i hi => ⟨g, 0, rfl, ?_⟩⟩
    have h' : w.ownsRow base 5 1 (.slice (some ⟨g, 0, none⟩) l.length cap) l.length (bvals l) := hv ▸ h
    have := h'.cellAt i (by omega)
    rw [Nat.zero_add, this, bvals_get hi]

theorem OwnB.at {w : World} {base : Nat} {v : Value} {l : List UInt8} (h : OwnB w base v l) :
    ∃ ao cap, v = .slice ao l.length cap ∧ BAt w ao l := by
  rcases h.shape with ⟨rfl, rfl⟩ | ⟨g, cap, rfl, _, _, _, _, hb⟩
  · exact ⟨none, 0, rfl, BAt.nil _ _⟩
  · exact ⟨_, cap, rfl, hb⟩

/-- What lies in a block below is there still. -/
theorem BAt.below {w w' : World} {ao : Option Addr} {l : List UInt8} {B : Nat} (h : BAt w ao l) (hb : Below B w w') (hB : ∀ b off, ao = some ⟨b, off, none⟩ → 0 < l.length → b < B) : BAt w' ao l := by
  intro i hi
  obtain ⟨b, off, e, hc⟩ := h i hi
  exact ⟨b, off, e, (hb.cell (p := ⟨b, off + i, none⟩) (hB b off e (by omega))).trans hc⟩
theorem BAt.below' {w w' : World} {ao : Option Addr} {l : List UInt8} (h : BAt w ao l) (hb : Below w.heap.size w w') : BAt w' ao l :=
  h.below hb (fun b off e hl => by subst e; exact h.lt hl)

theorem OwnB.below {w w' : World} {base : Nat} {v : Value} {l : List UInt8} (h : OwnB w base v l) (hb : Below w.heap.size w w') : OwnB w' base v l := by
  refine ⟨h.1, ?_⟩
  rcases h.2 with h1 | ⟨g, cap, cur, hv, hbg, hh, r⟩
  · exact Or.inl h1
  · exact Or.inr ⟨g, cap, cur, hv, hbg, by rw [hb.block g (Array.getElem?_eq_some_iff.1 hh).1]; exact hh, r⟩

theorem OwnB.mono {w : World} {base base' : Nat} {v : Value} {l : List UInt8} (h : OwnB w base v l) (hb : base' ≤ base) : OwnB w base' v l := by
  refine ⟨h.1, ?_⟩
  rcases h.2 with h1 | ⟨g, cap, cur, hv, hbg, r⟩
  · exact Or.inl h1
  · exact Or.inr ⟨g, cap, cur, hv, by omega, r⟩

theorem below_grown {w w' : World} {row : Option Nat} {B : Nat} (hg : w.grownBy w' row) (hB : B ≤ w.heap.size) (hr : ∀ k, row = some k → B ≤ k) : Below B w w' :=
  (Below.refl B w).grown hg hB hr

set_option maxRecDepth 10000 in
set_option maxHeartbeats 400000 in
theorem Clone_any (ao : Option Addr) (c : Nat) (l : List UInt8) (w : World) (hl : BAt w ao l) (hn : ao = none → l = []) (hb : l.length ≤ 140737488355328) :
    Calls Tryd.prog 16 #[.slice ao l.length c] w fun e w' => ∃ v, e = .returned v ∧ OwnB w' w.heap.size v l ∧ Below w.heap.size w w' ∧ (v = .slice none 0 0 ↔ ao = none) := by
  have q22 : ∀ (w : World) (a : Option Addr) (n c n' c' : Nat), (binOp .eql 38 (.slice a n c) (.slice none n' c')).run Tryd.prog w = .ok (.bool a.isNone) w := fun w a n c n' c' => Lib.run_eql_slice_nil w _ _ a n c n' c' Tryd.underlying38
  obtain ⟨i0, hi, hz0, hz1, hz2⟩ := info_parts info8
  cases ao with
  | none =>
    have hl0 := hn rfl
    subst hl0
    go_enter Tryd.func16, Tryd.ntmps16
    go_wp2
    go_ret
    exact ⟨_, rfl, World.ownsRow_nil _ _ _ _, Below.refl _ _, by simp⟩
  | some x =>
    go_enter Tryd.func16, Tryd.ntmps16
    go_wp2_with (at_builtin; refine wpList_append_own _ rfl _ _ 38 rfl w.heap.size 5 i0 (.int .u8 0) 1 1 Tryd.underlying38 hi hz0 hz1 hz2 rfl (by decide) _ 0 [] rfl (World.ownsRow_made w #[] 0 (Nat.le_refl _) (by decide) rfl) x l.length c (bvals l) rfl ?c0 ?c1 ?c2 ?c3 ?c4 ?c5 ?_)
    case c0 => simp [bvals_length]
    case c1 =>
      intro j u hj
      have hjl : j < l.length := by
        have := (List.getElem?_eq_some_iff.1 hj).1
        rw [bvals_length] at this; exact this
      obtain ⟨b, off, e, hc⟩ := hl j hjl
      injection e with e
      subst e
      rw [bvals_get hjl] at hj
      injection hj with hj
      subst hj
      have hlt := World.block_lt_of_cell? w _ hc
      rw [Addr.add_lit]
      exact (((Below.refl w.heap.size w).alloc (Nat.le_refl _) _).cell (p := ⟨b, off + j, none⟩) hlt).trans hc
    case c2 => exact bvals_one l
    case c3 => unfold maxLen; omega
    case c4 => omega
    case c5 => simp
    · intro v' w1 hown hgrow hnil
      go_wp2
      go_ret
      refine ⟨_, rfl, ?_, ?_, by simpa using hnil⟩
      · exact hown
      · exact ((Below.refl w.heap.size w).alloc (Nat.le_refl _) _).trans (below_grown hgrow (by simp) (fun k e => by simp [Value.ownBlock] at e; omega))

theorem BAt.take {w : World} {ao : Option Addr} {l m : List UInt8} (h : BAt w ao (l ++ m)) : BAt w ao l := by
  intro i hi
  obtain ⟨b, off, e, hc⟩ := h i (by simp; omega)
  refine ⟨b, off, e, ?_⟩
  rw [hc]
  unfold at8
  rw [List.getD_eq_getElem?_getD, List.getD_eq_getElem?_getD, List.getElem?_append_left hi]

/-- A store into a row of bytes; a store elsewhere. -/
theorem BAt.store {w : World} {g : Nat} {l : List UInt8} (h : BAt w (some ⟨g, 0, none⟩) l) {k : Nat} (hk : k < l.length) (v : Int) (y : UInt8) (hv : v = (y.toNat : Int)) :
    BAt (w.setCell ⟨g, k, none⟩ (.int .u8 v)) (some ⟨g, 0, none⟩) (l.set k y) := by
  intro i hi
  rw [List.length_set] at hi
  obtain ⟨b, off, e, hc⟩ := h i hi
  injection e with e
  injection e with e1 e2
  subst e1 e2
  refine ⟨g, 0, rfl, ?_⟩
  rw [Nat.zero_add] at hc ⊢
  by_cases e : i = k
  · subst e
    rw [World.cell?_setCell_same' _ _ _ (by rw [hc]; rfl), hv]
    unfold at8
    rw [List.getD_eq_getElem?_getD, List.getElem?_set_self hi]
    rfl
  · rw [World.cell?_setCell_other _ _ _ _ (by intro h; injection h with _ h; exact e h.symm), hc]
    unfold at8
    rw [List.getD_eq_getElem?_getD, List.getD_eq_getElem?_getD, List.getElem?_set_ne (fun h => e h.symm)]
theorem BAt.other {w : World} {ao : Option Addr} {l : List UInt8} (h : BAt w ao l) (p : Addr) (u : Value) (hne : ∀ b off, ao = some ⟨b, off, none⟩ → 0 < l.length → b ≠ p.block) : BAt (w.setCell p u) ao l := by
  intro i hi
  obtain ⟨b, off, e, hc⟩ := h i hi
  refine ⟨b, off, e, ?_⟩
  rw [World.cell?_setCell_other _ _ _ _ (by intro h; exact hne b off e (by omega) (by rw [h])), hc]
theorem BAt.one (w : World) (x : UInt8) (z : Int) (hz : z = (x.toNat : Int)) (t : TypeId) : BAt (w.alloc (.cells #[.int .u8 z] t)) (some ⟨w.heap.size, 0, none⟩) [x] := by
  intro i hi
  have hi0 : i = 0 := by simp at hi; omega
  subst hi0
  refine ⟨w.heap.size, 0, rfl, ?_⟩
  have := cell_of_row _ w.heap.size 0 _ _ _ (heap_alloc_new w (.cells #[.int .u8 z] t))
  rw [Nat.zero_add, this, hz]
  rfl
/-- One more, round 256. -/
theorem inc8 (l : List UInt8) (k : Nat) : (at8 l k + 1) % 256 = ((l.getD k 0 + 1).toNat : Int) := by
  unfold at8
  rw [UInt8.toNat_add]
  simp
theorem frozen_own {w : World} {base g n cap : Nat} {l : List UInt8} (h : OwnB w base (.slice (some ⟨g, 0, none⟩) n cap) l) (hn : n = l.length) (j : Nat) : w.frozen? ⟨g, j, none⟩ = false := by
  subst hn
  exact World.ownsRow.frozenAt h j

theorem ret_int {k : IntKind} {a b : Int} (h : a = b) : Ending.returned (.int k a) = .returned (.int k b) := by rw [h]

theorem val_int {k : IntKind} {a b : Int} (h : a = b) : Value.int k a = .int k b := by rw [h]
end Go.Proofs.YtgelbihdcfgjcaaDoor
