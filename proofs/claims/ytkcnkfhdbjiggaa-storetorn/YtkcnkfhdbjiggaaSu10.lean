/-
  A store and the document's state side by side: Tw. What a call that turns the store leaves of the state, and what both are behind it.
-/
import Derived.Test.YtkcnkfhdbjiggaaSu9
import Derived.Test.YtkcnkfhdbjiggaaSr16
namespace Go.Proofs.Ytkcnkfhdbjiggaa
open Go.RowKit
set_option maxRecDepth 20000

def RkO (w : World) (L : List Rk) : Prop := ∀ x ∈ L, OwnB w 0 (.slice x.ba x.bs.length x.bc) x.bs
theorem RkO.ok {w : World} {L : List Rk} (h : RkO w L) : RkOk w L := fun x hx => by
  obtain ⟨a', c', e, hb, hn, _⟩ := (h x hx).atN
  injection e with e _ _
  rw [e]
  exact ⟨hb, hn⟩
structure Tw (w : World) (B g : Nat) (iv kv xi lv : Value) (I : List UInt8) (K : List Ke) (L : List Rk) : Prop where
  st : IsSt w B g iv kv I K
  xo : OwnB w 0 xi I
  lo : OwnR w 0 lv L
  rk : RkO w L
  sm : SameL I K L
  ok : OkK K
  en : EnK I.length K
  big : I.length ≤ 1048576
  s1 : ∀ q, iv.ownBlock = some q → xi.ownBlock ≠ some q
  s2 : ∀ q, iv.ownBlock = some q → ∀ x ∈ L, (Value.slice x.ba x.bs.length x.bc).ownBlock ≠ some q
theorem Tw.below {w w' : World} {B g : Nat} {iv kv xi lv : Value} {I : List UInt8} {K : List Ke} {L : List Rk} (h : Tw w B g iv kv xi lv I K L) (hb : Below w.heap.size w w') : Tw w' B g iv kv xi lv I K L :=
  ⟨h.st.below hb, h.xo.below hb, h.lo.below hb, fun x hx => (h.rk x hx).below hb, h.sm, h.ok, h.en, h.big, h.s1, h.s2⟩
theorem Tw.codeP {w : World} {B g : Nat} {iv kv xi lv : Value} {I : List UInt8} {K : List Ke} {L : List Rk} (h : Tw w B g iv kv xi lv I K L) (s : ByteArray) (m : List UInt8) : putR I L s m = putE I K s m := by
  unfold putR putE
  rw [h.sm.nm, h.sm.len]
theorem Tw.codeD {w : World} {B g : Nat} {iv kv xi lv : Value} {I : List UInt8} {K : List Ke} {L : List Rk} (h : Tw w B g iv kv xi lv I K L) (s : ByteArray) : dropR I L s = dropE I K s := by
  unfold dropR dropE
  rw [h.sm.nm]
theorem Tw.lenL {w : World} {B g : Nat} {iv kv xi lv : Value} {I : List UInt8} {K : List Ke} {L : List Rk} (h : Tw w B g iv kv xi lv I K L) : L.length ≤ 16 := by
  rw [h.sm.len]; exact h.ok.few
theorem own_tyB {w : World} {B : Nat} {v : Value} {l : List UInt8} (ho : OwnB w B v l) {q : Nat} (e : v.ownBlock = some q) : ∃ cur, w.heap[q]? = some (.cells cur 5 (0, 0)) := by
  rcases ho.2 with ⟨h1, _⟩ | ⟨g', cap, cur, hv, hbg, hh, r⟩
  · rw [h1] at e; cases e
  · rw [hv] at e
    injection e with e
    subst e
    exact ⟨cur, hh⟩
theorem own_tyR {w : World} {B : Nat} {v : Value} {L : List Rk} (ho : OwnR w B v L) {q : Nat} (e : v.ownBlock = some q) : ∃ cur, w.heap[q]? = some (.cells cur 73 (0, 0)) := by
  rcases ho.2 with ⟨h1, _⟩ | ⟨g', cap, cur, hv, hbg, hh, r⟩
  · rw [h1] at e; cases e
  · rw [hv] at e
    injection e with e
    subst e
    exact ⟨cur, hh⟩
/-- The state stands where the store's own blocks turn. -/
theorem Tw.stands {w w1 : World} {B g : Nat} {iv kv xi lv : Value} {I : List UInt8} {K : List Ke} {L : List Rk} (h : Tw w B g iv kv xi lv I K L) (hk : Kept (SA g iv kv) w w1) : OwnB w1 0 xi I ∧ OwnR w1 0 lv L ∧ RkO w1 L := by
  have nb : ∀ {v : Value} {l : List UInt8}, OwnB w 0 v l → (∀ q, iv.ownBlock = some q → v.ownBlock ≠ some q) → ∀ q, v.ownBlock = some q → ¬ SA g iv kv q := fun ho hd q e hS => by
    obtain ⟨cur, hh⟩ := own_tyB ho e
    rcases hS with hS | hS | hS
    · exact ty_ne hh h.st.row (by decide) hS
    · exact hd q hS e
    · obtain ⟨cur2, hc⟩ := h.st.kty _ hS
      exact ty_ne hh hc (by decide) rfl
  refine ⟨h.xo.keep hk (nb h.xo h.s1), h.lo.keep hk (fun q e hS => ?_), fun x hx => (h.rk x hx).keep hk (nb (h.rk x hx) (fun q hq => h.s2 q hq x hx))⟩
  obtain ⟨cur, hh⟩ := own_tyR h.lo e
  rcases hS with hS | hS | hS
  · exact ty_ne hh h.st.row (by decide) hS
  · obtain ⟨cur2, hc⟩ := h.st.ity _ hS
    exact ty_ne hh hc (by decide) rfl
  · obtain ⟨cur2, hc⟩ := h.st.kty _ hS
    exact ty_ne hh hc (by decide) rfl
theorem seg_app {I R : List UInt8} {a b : Nat} (hb : b ≤ I.length) : seg (I ++ R) a b = seg I a b := by
  have h1 := seg_take (l := I ++ R) (k := I.length) (a := a) (b := b) hb
  rw [← h1]
  congr 1
  simp
theorem SameL.app {I R : List UInt8} {K : List Ke} {L : List Rk} (h : SameL I K L) (he : EnK I.length K) : SameL (I ++ R) K L := by
  unfold SameL at h ⊢
  rw [h]
  refine List.map_congr_left (fun e hm => ?_)
  rw [seg_app (he e hm).2.1]
theorem seg_end {I P m : List UInt8} : seg (I ++ (P ++ m)) (I.length + (P ++ m).length - m.length) (I.length + (P ++ m).length) = m := by
  unfold seg
  have e1 : I.length + (P ++ m).length - m.length = (I ++ P).length := by simp; omega
  rw [e1, ← List.append_assoc, List.drop_left]
  refine List.take_of_length_le ?_
  simp
  omega
/-- Behind a Put that both took. -/
theorem Tw.put {w w1 w2 : World} {B g : Nat} {iv kv xi lv : Value} {I : List UInt8} {K : List Ke} {L : List Rk} {s : ByteArray} {m : List UInt8} (h : Tw w B g iv kv xi lv I K L) {iv' kv' xi' lv' : Value} {L' : List Rk} {base : Nat}
    (hs : IsSt w1 B g iv' kv' (I ++ recK s m) (putK I K s m)) (hk : Kept (SA g iv kv) w w1) (hF : ∀ q, iv'.ownBlock = some q → iv.ownBlock = some q ∨ w.heap.size ≤ q) (hb : Below w1.heap.size w1 w2) (hbs : w1.heap.size ≤ base)
    (hx : OwnB w2 base xi' (I ++ recK s m)) (hl : OwnR w2 base lv' L') (hn : NewR w2 base L L') (hL : ∃ ba bc, L' = putN (posN (rNm L) s) (hasN (rNm L) s) L ⟨s, ba, bc, m⟩) (hc : putE I K s m = 0) :
    Tw w2 B g iv' kv' xi' lv' (I ++ recK s m) (putK I K s m) L' := by
  obtain ⟨ba, bc, hL⟩ := hL
  obtain ⟨hxo, hlo, hrk⟩ := h.stands hk
  unfold putE at hc
  split at hc
  · cases hc
  rename_i hnm
  split at hc
  · cases hc
  rename_i hm4
  split at hc
  · cases hc
  rename_i hfu
  split at hc
  · cases hc
  rename_i hbig
  have hnm' : nameB s = true := by cases hh : nameB s <;> simp_all
  have hfu' : (hasN (kNm K) s || decide (K.length < 16)) = true := by cases hh : (hasN (kNm K) s || decide (K.length < 16)) <;> simp_all
  have hrl := recK_len s m
  have hlen : (I ++ recK s m).length = I.length + (recK s m).length := List.length_append
  have hq1 : ∀ q, iv'.ownBlock = some q → q < w1.heap.size := fun q e => (World.ownsRow.lt hs.img q e).2
  refine ⟨hs.below hb, hx.mono (Nat.zero_le _), own_moreR hl (Nat.zero_le _), ?_, ?_, ?_, ?_, by rw [hlen]; omega, ?_, ?_⟩
  · intro x hxm
    rcases hn x hxm with hxm | hxm
    · exact (hrk x hxm).below hb
    · exact hxm.mono (Nat.zero_le _)
  · rw [hL]
    unfold putK
    rw [h.sm.nm]
    refine (h.sm.app h.en).put _ _ _ _ rfl ?_
    show m = seg _ _ _
    have : recK s m = ([1] ++ nb s ++ be (m.length : Int) 2) ++ m := rfl
    rw [this]
    exact seg_end.symm
  · unfold putK
    exact h.ok.put ⟨s, _, _⟩ hfu'
  · intro e he
    unfold putK at he
    rcases putN_mem he with rfl | he
    · refine ⟨?_, ?_, ?_, hnm'⟩
      · show I.length + (recK s m).length - m.length ≤ I.length + (recK s m).length
        omega
      · show I.length + (recK s m).length ≤ _
        rw [hlen]
        exact Nat.le_refl _
      · show I.length + (recK s m).length ≤ I.length + (recK s m).length - m.length + 4096
        omega
    · have := h.en e he
      exact ⟨this.1, by rw [hlen]; omega, this.2.2⟩
  · intro q e e2
    have h1 := hq1 q e
    have h2 := (World.ownsRow.lt hx q e2).1
    omega
  · intro q e x hxm e2
    have h1 := hq1 q e
    rcases hn x hxm with hxm | hxm
    · rcases hF q e with h3 | h3
      · exact h.s2 q h3 x hxm e2
      · have := (World.ownsRow.lt (h.rk x hxm) q e2).2
        omega
    · have h2 := (World.ownsRow.lt hxm q e2).1
      omega
/-- Behind a Drop that both took. -/
theorem Tw.drop {w w1 w2 : World} {B g : Nat} {iv kv xi lv : Value} {I : List UInt8} {K : List Ke} {L : List Rk} {s : ByteArray} (h : Tw w B g iv kv xi lv I K L) {iv' kv' xi' lv' : Value} {L' : List Rk} {base : Nat}
    (hs : IsSt w1 B g iv' kv' (I ++ recD s) (dropK K s)) (hk : Kept (SA g iv kv) w w1) (hF : ∀ q, iv'.ownBlock = some q → iv.ownBlock = some q ∨ w.heap.size ≤ q) (hb : Below w1.heap.size w1 w2) (hbs : w1.heap.size ≤ base)
    (hx : OwnB w2 base xi' (I ++ recD s)) (hl : OwnR w2 base lv' L') (hn : NewR w2 base L L') (hL : L' = cutN (posN (rNm L) s) (hasN (rNm L) s) L) (hc : dropE I K s = 0) :
    Tw w2 B g iv' kv' xi' lv' (I ++ recD s) (dropK K s) L' := by
  obtain ⟨hxo, hlo, hrk⟩ := h.stands hk
  unfold dropE at hc
  split at hc
  · cases hc
  split at hc
  · cases hc
  rename_i hfu
  split at hc
  · cases hc
  rename_i hbig
  have hfu' : hasN (kNm K) s = true := by cases hh : hasN (kNm K) s <;> simp_all
  have hlen : (I ++ recD s).length = I.length + (recD s).length := List.length_append
  have hq1 : ∀ q, iv'.ownBlock = some q → q < w1.heap.size := fun q e => (World.ownsRow.lt hs.img q e).2
  refine ⟨hs.below hb, hx.mono (Nat.zero_le _), own_moreR hl (Nat.zero_le _), ?_, ?_, ?_, ?_, by rw [hlen]; omega, ?_, ?_⟩
  · intro x hxm
    rcases hn x hxm with hxm | hxm
    · exact (hrk x hxm).below hb
    · exact hxm.mono (Nat.zero_le _)
  · rw [hL]
    unfold dropK
    rw [h.sm.nm]
    exact (h.sm.app h.en).cut _ _
  · unfold dropK
    rw [hfu']
    exact h.ok.cut s hfu'
  · intro e he
    unfold dropK at he
    have := h.en e (cutN_mem he)
    exact ⟨this.1, by rw [hlen]; omega, this.2.2⟩
  · intro q e e2
    have h1 := hq1 q e
    have h2 := (World.ownsRow.lt hx q e2).1
    omega
  · intro q e x hxm e2
    have h1 := hq1 q e
    rcases hn x hxm with hxm | hxm
    · rcases hF q e with h3 | h3
      · exact h.s2 q h3 x hxm e2
      · have := (World.ownsRow.lt (h.rk x hxm) q e2).2
        omega
    · have h2 := (World.ownsRow.lt hxm q e2).1
      omega
end Go.Proofs.Ytkcnkfhdbjiggaa
