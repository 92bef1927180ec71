/-
  The contract of the shelf's Own: of lists that lie apart it tells true, and turns nothing but the blocks that they lie in. Conditions: at least one list, at most a million, the lengths fit.
-/
import Derived.Test.YtghdefhbncejjaaShelf
namespace Go.Proofs.Ytghdefhbncejjaa
open Go.RowKit

/-- A list as it lies on the shelf: those ahead of a number bear their marks. -/
def Its (w : World) (its : List Value) (m : Nat) : Prop := ∀ (i : Nat) v, its[i]? = some v → ∃ l : List UInt8, OwnB w 0 v l ∧ l.length ≤ 140737488351232 ∧ (i < m → ∀ x ∈ l, x = mk8 i)
/-- They lie in different blocks. -/
def Apart (its : List Value) : Prop := ∀ (i j : Nat) a b, its[i]? = some a → its[j]? = some b → i ≠ j → ∀ k, a.ownBlock = some k → b.ownBlock ≠ some k
/-- The blocks that they lie in. -/
def InIts (its : List Value) (k : Nat) : Prop := ∃ v ∈ its, v.ownBlock = some k

theorem ob (ao : Option Addr) (n n' c c' : Nat) : (Value.slice ao n c).ownBlock = (Value.slice ao n' c').ownBlock := by cases ao <;> rfl

theorem OwnB.store {w : World} {B g n cap : Nat} {l : List UInt8} (h : OwnB w B (.slice (some ⟨g, 0, none⟩) n cap) l) (hn : l.length = n) (k : Nat) (v : Int) (y : UInt8) (hv : v = (y.toNat : Int)) :
    OwnB (w.setCell ⟨g, k, none⟩ (.int .u8 v)) B (.slice (some ⟨g, 0, none⟩) n cap) (l.set k y) := by
  subst hn
  have := (World.ownsRow.stored h k (.int .u8 v)).1
  unfold OwnB
  rw [List.length_set]
  have e : bvals (l.set k y) = (bvals l).set k (.int .u8 v) := by unfold bvals; rw [List.map_set, hv]
  rw [e]
  exact this
theorem OwnB.shrink {w : World} {B n c : Nat} {ao : Option Addr} {l m : List UInt8} (h : OwnB w B (.slice ao n c) (l ++ m)) : OwnB w B (.slice ao l.length c) l := by
  refine ⟨by simp [bvals_length], ?_⟩
  rcases h.2 with ⟨e, e2⟩ | ⟨g, cap, cur, e, hb, hh, h1, h2, h3, h4⟩
  · injection e with e _ e3
    subst e e3
    have : l.length = 0 := by rw [List.length_append] at e2; omega
    exact .inl ⟨by rw [this], this⟩
  · injection e with e e1 e2
    subst e e2
    refine .inr ⟨g, c, cur, rfl, hb, hh, ?_, h2, h3, ?_⟩
    · simp at h1; omega
    · have := congrArg (List.take l.length) h4
      rw [List.take_take] at this
      simp [bvals] at this ⊢
      rw [← this]

theorem Its.keep {S : Nat → Prop} {w w' : World} {its : List Value} {m : Nat} (h : Its w its m) (hk : Kept S w w') (hs : ∀ (i : Nat) v, its[i]? = some v → ∀ k, v.ownBlock = some k → ¬ S k) : Its w' its m := by
  intro i v hv
  obtain ⟨l, ho, h2⟩ := h i v hv
  exact ⟨l, ho.keep hk (hs i v hv), h2⟩

/-- One list is marked. -/
theorem Its.mark {w w' : World} {its : List Value} {i : Nat} (h : Its w its i) (ha : Apart its) {v : Value} (hv : its[i]? = some v) (hk : Kept (fun k => v.ownBlock = some k) w w') {l : List UInt8} (ho : OwnB w' 0 v l) (hl : l.length ≤ 140737488351232) (hx : ∀ x ∈ l, x = mk8 i) : Its w' its (i + 1) := by
  intro j u hu
  by_cases e : j = i
  · subst e
    rw [hv] at hu
    injection hu with hu
    subst hu
    exact ⟨l, ho, hl, fun _ => hx⟩
  · obtain ⟨l', ho', hl', hx'⟩ := h j u hu
    exact ⟨l', ho'.keep hk (fun k hk' e' => ha j i u v hu hv e k hk' e'), hl', fun hj => hx' (by omega)⟩

theorem mem_inits {its : List Value} {i : Nat} {v : Value} (hv : its[i]? = some v) {k : Nat} (hk : v.ownBlock = some k) : InIts its k := ⟨v, List.mem_of_getElem? hv, hk⟩

/-- What holds while lists are grown: the grown ones so far. -/
structure Grown (W w : World) (its : List Value) (mv : Value) (gs : List Value) : Prop where
  row : w.ownsRow W.heap.size 22 1 mv gs.length gs
  itsk : Its w its its.length
  gsk : ∀ (j : Nat) g, gs[j]? = some g → ItM w g j ∧ ∃ v, its[j]? = some v ∧ ∀ k, g.ownBlock = some k → v.ownBlock = some k ∨ W.heap.size ≤ k
  kept : Kept (InIts its) W w
  old : ∀ (j : Nat) v, its[j]? = some v → ∀ k, v.ownBlock = some k → k < W.heap.size

/-- What holds while one list is grown: it lies in the list's own room, or in a new block. -/
structure Grows (w1 w : World) (i : Nat) (v g : Value) (q : Nat) : Prop where
  kept : Kept (fun k => v.ownBlock = some k) w1 w
  it : (∃ l m ao n n' c, v = .slice ao n c ∧ g = .slice ao n' c ∧ OwnB w 0 g (l ++ m) ∧ n = l.length ∧ n ≤ 140737488351232 ∧ m.length = q ∧ (∀ x ∈ l ++ m, x = mk8 i)) ∨
    (∃ l m, OwnB w 0 v l ∧ l.length ≤ 140737488351232 ∧ (∀ x ∈ l, x = mk8 i) ∧ OwnB w w1.heap.size g m ∧ m.length ≤ 140737488351232 + q ∧ (∀ x ∈ m, x = mk8 i))

theorem Grows.own {w1 w : World} {i q : Nat} {v g : Value} (h : Grows w1 w i v g q) : ∃ m, OwnB w 0 g m ∧ m.length ≤ 140737488351232 + q ∧ (∀ x ∈ m, x = mk8 i) := by
  rcases h.it with ⟨l, m, ao, n, n', c, rfl, rfl, ho, h1, h2, h3, hx⟩ | ⟨l, m, _, _, _, ho, hm, hx⟩
  · exact ⟨_, ho, by simp; omega, hx⟩
  · exact ⟨m, ho.mono (Nat.zero_le _), hm, hx⟩
theorem Grows.item {w1 w : World} {i q : Nat} {v g : Value} (h : Grows w1 w i v g q) : ∃ l, OwnB w 0 v l ∧ l.length ≤ 140737488351232 ∧ (∀ x ∈ l, x = mk8 i) := by
  rcases h.it with ⟨l, m, ao, n, n', c, rfl, rfl, ho, rfl, h2, h3, hx⟩ | ⟨l, m, ho, h1, hx, _⟩
  · exact ⟨l, ho.shrink, h2, fun x hm => hx x (by simp [hm])⟩
  · exact ⟨l, ho, h1, hx⟩
theorem Grows.block {w1 w : World} {i q : Nat} {v g : Value} (h : Grows w1 w i v g q) : ∀ k, g.ownBlock = some k → v.ownBlock = some k ∨ w1.heap.size ≤ k := by
  rcases h.it with ⟨l, m, ao, n, n', c, rfl, rfl, _⟩ | ⟨l, m, _, _, _, ho, _⟩
  · intro k hk; left; exact (ob ao n n' c c).trans hk
  · intro k hk; exact .inr (World.ownsRow.lt ho k hk).1
theorem Grows.start {w1 : World} {i : Nat} {v : Value} {l : List UInt8} (ho : OwnB w1 0 v l) (hl : l.length ≤ 140737488351232) (hx : ∀ x ∈ l, x = mk8 i) : Grows w1 w1 i v v 0 := by
  obtain ⟨ao, c, rfl, _⟩ := ho.at
  exact ⟨Kept.refl _ _, .inl ⟨l, [], ao, _, _, c, rfl, rfl, by rw [List.append_nil]; exact ho, rfl, hl, rfl, by rw [List.append_nil]; exact hx⟩⟩

theorem OwnB.block_lt {w : World} {B : Nat} {v : Value} {l : List UInt8} (h : OwnB w B v l) {k : Nat} (hk : v.ownBlock = some k) : k < w.heap.size := (World.ownsRow.lt h k hk).2

/-- One more byte. -/
theorem Grows.more {w1 w wa w' : World} {i q : Nat} {v g g' : Value} (h : Grows w1 w i v g q) (hlt : ∀ k, v.ownBlock = some k → k < w1.heap.size) (ha : Below w.heap.size w wa) {m0 : List UInt8} (h0 : OwnB w 0 g m0) (hx : ∀ x ∈ m0, x = mk8 i) (ho : OwnB w' 0 g' (m0 ++ [mk8 i]))
    (hc : (wa.grownBy w' g.ownBlock ∧ ∃ ao n n' c, g = .slice ao n c ∧ g' = .slice ao n' c) ∨ (Below wa.heap.size wa w' ∧ ∀ k, g'.ownBlock = some k → wa.heap.size ≤ k)) : Grows w1 w' i v g' (q + 1) := by
  have hsz := ha.size
  have hk1 := h.kept.size
  have hx' : ∀ x ∈ m0 ++ [mk8 i], x = mk8 i := by
    intro x hm
    rw [List.mem_append] at hm
    rcases hm with hm | hm
    · exact hx x hm
    · simpa using hm
  have hmo : ∀ m, OwnB w 0 g m → m = m0 := by
    intro m hm
    have a1 := hm.1
    have a2 := h0.1
    rcases hm.2 with ⟨e, e2⟩ | ⟨b, cap, cur, rfl, _, hh, hn, _, _, ht⟩
    · rcases h0.2 with ⟨_, e4⟩ | ⟨b', cap', cur', e', _⟩
      · rw [List.eq_nil_of_length_eq_zero e2, List.eq_nil_of_length_eq_zero e4]
      · rw [e] at e'; cases e'
    · rcases h0.2 with ⟨e, _⟩ | ⟨b', cap', cur', e, _, hh', _, _, _, ht'⟩
      · cases e
      · injection e with e e1 e2
        injection e with e
        injection e with e
        subst e
        rw [hh] at hh'
        simp at hh'
        subst hh'
        rw [e1] at ht
        exact bvals_inj (ht.symm.trans ht')
  rcases hc with ⟨hg, ao1, n1, n1', c1, rfl, rfl⟩ | ⟨hb, hf⟩
  · -- in its room
    rcases h.it with ⟨l, m, ao, n, n', c, rfl, e2, ho2, rfl, h2, rfl, hxx⟩ | ⟨l, m, hv, h1, h2, ho2, h4, h5⟩
    · injection e2 with e2 _ e3
      subst e2 e3
      have := hmo _ ho2
      subst this
      refine ⟨?_, .inl ⟨l, m ++ [mk8 i], ao1, _, n1', c1, rfl, rfl, by rw [← List.append_assoc]; exact ho, rfl, h2, by simp, by rw [← List.append_assoc]; exact hx'⟩⟩
      refine h.kept.trans ((Kept.of_below ha (fun _ => False)).trans (Kept.of_grown hg) (fun _ _ h => h.elim) (fun x _ e => ?_)) (fun _ _ h => h) (fun _ _ h => h)
      exact (ob _ _ _ _ _).trans e.symm
    · have := hmo _ (ho2.mono (Nat.zero_le _))
      subst this
      have hgw : ∀ k, (Value.slice ao1 n1 c1).ownBlock = some k → w1.heap.size ≤ k := fun k hk => (World.ownsRow.lt ho2 k hk).1
      have hK : Kept (fun k => w1.heap.size ≤ k) w w' := (Kept.of_below ha (fun _ => False)).trans (Kept.of_grown hg) (fun _ _ h => h.elim) (fun x _ e => hgw x e.symm)
      refine ⟨h.kept.trans hK (fun _ _ h => h) (fun x hx e => by omega), .inr ⟨l, m ++ [mk8 i], hv.keep hK (fun k hk e => by have := hlt k hk; omega), h1, h2, ?_, by simp; omega, hx'⟩⟩
      -- where it lies
      refine ⟨ho.1, ?_⟩
      rcases ho.2 with e | ⟨b, cap, cur, e, _, r⟩
      · exact .inl e
      · refine .inr ⟨b, cap, cur, e, ?_, r⟩
        injection e with e
        subst e
        exact hgw b rfl
  · -- in a new block
    obtain ⟨l, hv, h1, h2⟩ := h.item
    obtain ⟨m, ho2, h4, _⟩ := h.own
    have := hmo _ ho2
    subst this
    have hB : Below w.heap.size w w' := ha.trans (hb.mono hsz)
    refine ⟨h.kept.trans (Kept.of_below hB (fun _ => False)) (fun _ _ h => h) (fun _ _ h => h.elim), .inr ⟨l, m ++ [mk8 i], hv.below hB, h1, h2, ?_, by simp; omega, hx'⟩⟩
    refine ⟨ho.1, ?_⟩
    rcases ho.2 with e | ⟨b, cap, cur, e, _, r⟩
    · exact .inl e
    · refine .inr ⟨b, cap, cur, e, ?_, r⟩
      have := hf b (by rw [e]; rfl)
      omega

/-- One list more has grown. -/
theorem Grown.push {W w1 w2 wa w' : World} {its gs : List Value} {mv mv' g v : Value} {q : Nat} (h : Grown W w1 its mv gs) (ha : Apart its) (hv : its[gs.length]? = some v) (hg : Grows w1 w2 gs.length v g q) (hq : q ≤ 80)
    (hal : Below w2.heap.size w2 wa) (ho : w'.ownsRow W.heap.size 22 1 mv' (gs.length + 1) (gs ++ [g])) (hgr : wa.grownBy w' mv.ownBlock) : Grown W w' its mv' (gs ++ [g]) := by
  have hWs := h.kept.size
  have hold := h.old
  have hK : Kept (fun k => some k = mv.ownBlock) w2 w' := (Kept.of_below hal (fun _ => False)).trans (Kept.of_grown hgr) (fun _ _ h => h.elim) (fun _ _ h => h)
  have hmv : w2.ownsRow W.heap.size 22 1 mv gs.length gs := rowKeep h.row hg.kept (fun k hk e => by
    have h1 := hold _ _ hv k e
    have h2 := (World.ownsRow.lt h.row k hk).1
    omega)
  have hb : ∀ {B : Nat} {u : Value} {l : List UInt8}, OwnB w2 B u l → OwnB w' B u l := fun ho => ho.keep hK (fun k hk e => rowApart ho hmv (by decide) k hk e.symm)
  refine ⟨by rw [List.length_append]; exact ho, ?_, ?_, ?_, hold⟩
  · intro j u hu
    by_cases e : j = gs.length
    · subst e
      rw [hv] at hu
      injection hu with hu
      subst hu
      obtain ⟨l, h1, h2, h3⟩ := hg.item
      exact ⟨l, hb h1, h2, fun _ => h3⟩
    · obtain ⟨l, h1, h2, h3⟩ := h.itsk j u hu
      exact ⟨l, hb (h1.keep hg.kept (fun k hk e' => ha j _ u v hu hv e k hk e')), h2, h3⟩
  · intro j u hu
    by_cases e : j < gs.length
    · rw [List.getElem?_append_left e] at hu
      obtain ⟨⟨l, h1, h2, h3⟩, x, hx, hk⟩ := h.gsk j u hu
      refine ⟨⟨l, hb (h1.keep hg.kept (fun k hk' e' => ?_)), h2, h3⟩, x, hx, hk⟩
      rcases hk k hk' with hk2 | hk2
      · exact ha j _ x v hx hv (by omega) k hk2 e'
      · have := hold _ _ hv k e'
        omega
    · have e2 : j = gs.length := by
        have := (List.getElem?_eq_some_iff.1 hu).1
        simp at this
        omega
      subst e2
      rw [List.getElem?_append_right (Nat.le_refl _)] at hu
      simp at hu
      subst hu
      obtain ⟨m, h1, h2, h3⟩ := hg.own
      refine ⟨⟨m, hb h1, by omega, h3⟩, v, hv, fun k hk => ?_⟩
      rcases hg.block k hk with h | h
      · exact .inl h
      · exact .inr (by omega)
  · have h1 : Kept (InIts its) W w2 := h.kept.trans hg.kept (fun _ _ h => h) (fun x _ e => mem_inits hv e)
    refine h1.trans hK (fun _ _ h => h) (fun x hx e => ?_)
    have := (World.ownsRow.lt hmv x e.symm).1
    omega

theorem all_set {l : List UInt8} {k : Nat} {y : UInt8} (h : ∀ j, j < k → l[j]? = some y) (hk : k < l.length) : ∀ j, j < k + 1 → (l.set k y)[j]? = some y := by
  intro j hj
  by_cases e : j = k
  · subst e; rw [List.getElem?_set_self hk]
  · rw [List.getElem?_set_ne (fun h => e h.symm)]; exact h j (by omega)
theorem all_of {l : List UInt8} {y : UInt8} (h : ∀ j, j < l.length → l[j]? = some y) : ∀ x ∈ l, x = y := by
  intro x hx
  obtain ⟨j, hj, rfl⟩ := List.getElem_of_mem hx
  have := h j hj
  rw [List.getElem?_eq_getElem hj] at this
  injection this

set_option maxHeartbeats 4000000 in
set_option maxRecDepth 100000 in
theorem Own_yes {w : World} {sp : Nat} {sv : Value} {its : List Value} (h : Sh w sp sv its) (hI : Its w its 0) (hA : Apart its) (hp : 0 < its.length) (hn : its.length ≤ 1000000) :
    Calls Try.prog 24 #[.pointer (some ⟨sp, 0, none⟩)] w fun e w' => e = .returned (.bool true) ∧ Kept (InIts its) w w' := by
  have c0 := h.c0
  have c1 := h.c1
  obtain ⟨g, cap, rfl, hg⟩ := row_at h.row hp
  have hbn : ∀ (j : Nat) v, its[j]? = some v → v.ownBlock ≠ some sp ∧ v.ownBlock ≠ some g := fun j v hv => by
    obtain ⟨l, ho, _⟩ := hI j v hv
    exact ⟨(h.bytes ho).1, fun e => (h.bytes ho).2 _ e rfl⟩
  have HBN := hide hbn
  have HG := hide hg
  have HS := hide h
  have HI := hide hI
  have HA := hide hA
  clear h hI hA hg hbn
  go_enter Try.func24, Try.ntmps24
  go_wp2
  go_loopw [22] (fun i wr => ∃ k : Nat, k ≤ its.length ∧ i = .int .i64 k ∧ Hid (Its wr its k) ∧ Hid (Kept (InIts its) w wr)) (fun i _ => its.length - (intOf i).toNat)
  case atStart => exact ⟨0, by omega, rfl, HI, hide (Kept.refl _ _)⟩
  case round =>
    clear HI
    obtain ⟨k, hk, rfl, HI, HK⟩ := hrel
    have hS' : Sh wr sp (.slice (some ⟨g, 0, none⟩) its.length cap) its := (unhide HS).keep (unhide HK) (fun ⟨v, hv, e⟩ => by
      obtain ⟨j, hj, rfl⟩ := List.getElem_of_mem hv
      exact (unhide HBN j _ (List.getElem?_eq_getElem hj)).1 e) (fun q hq ⟨v, hv, e⟩ => by
      obtain ⟨j, hj, rfl⟩ := List.getElem_of_mem hv
      cases hq
      exact (unhide HBN j _ (List.getElem?_eq_getElem hj)).2 e)
    obtain ⟨g2, cap2, e2, hg'⟩ := row_at hS'.row hp
    cases e2
    have c0' := hS'.c0
    have c1' := hS'.c1
    by_cases hlt : k < its.length
    · have i1 : ((k : Nat) : Int) < ((its.length : Nat) : Int) := by omega
      have hv := List.getElem?_eq_getElem hlt
      have d1 := hg' k _ hv
      obtain ⟨v, HV⟩ : ∃ v, Hid (its[k]? = some v) ∧ its[k] = v := ⟨_, hide hv, rfl⟩
      obtain ⟨HV, e⟩ := HV
      rw [e] at d1
      clear hv e hg' hS'
      obtain ⟨l, ho, hl, _⟩ := unhide HI k v (unhide HV)
      obtain ⟨n, hln⟩ : ∃ n, l.length = n := ⟨_, rfl⟩
      obtain ⟨ao, c, rfl, _⟩ := ho.at
      rw [hln] at d1 hl HV
      have hml : (mk8 k).toNat < 256 := (mk8 k).toNat_lt
      have HO : Hid (∃ l : List UInt8, OwnB wr 0 (.slice ao n c) l ∧ l.length = n ∧ ∀ j, j < 0 → l[j]? = some (mk8 k)) := hide ⟨l, by rw [← hln]; exact ho, hln, fun j h => by omega⟩
      have HLL := hide hl
      have hl' : n < 9223372036854775807 := by omega
      clear ho hln hl
      go_wp2
      go_loopw [29] (fun i wq => ∃ q : Nat, q ≤ n ∧ i = .int .i64 q ∧ Hid (∃ l : List UInt8, OwnB wq 0 (.slice ao n c) l ∧ l.length = n ∧ ∀ j, j < q → l[j]? = some (mk8 k)) ∧ Hid (Kept (fun k => (Value.slice ao n c).ownBlock = some k) wr wq)) (fun i _ => n - (intOf i).toNat)
      case atStart => exact ⟨0, by omega, rfl, HO, hide (Kept.refl _ _)⟩
      case round =>
        clear HO c0' c1' d1
        obtain ⟨q, hq, rfl, HO, HKq⟩ := hrel
        by_cases hqn : q < n
        · obtain ⟨l, ho, hl, hx⟩ := unhide HO
          rcases ho.shape with ⟨e, _⟩ | ⟨b, cp, e, _, _, _, _, hb⟩
          · cases e; omega
          · injection e with e1 e2 e3
            subst e1
            have hcq : wr.cell? ⟨b, q, none⟩ = some (.int .u8 (at8 l q)) := by
              obtain ⟨b', off', e, hc⟩ := hb q (by omega)
              injection e with e
              injection e with e1 e2
              subst e1 e2
              rw [Nat.zero_add] at hc
              exact hc
            have hfq : wr.frozen? ⟨b, q, none⟩ = false := frozen_own ho hl.symm q
            have j1 : ((q : Nat) : Int) < ((n : Nat) : Int) := by omega
            have HO' := hide (And.intro ho (And.intro hl hx))
            clear ho hl hx hb HO e2 e3
            go_wp2_with fail
            refine (mark_any k _ (by omega)).mono ?_
            rintro e w2 ⟨rfl, rfl⟩
            go_wp2
            go_roundw
            case rel =>
              obtain ⟨ho, hl, hx⟩ := unhide HO'
              exact ⟨q + 1, by omega, by go_num, hide ⟨l.set q (mk8 k), ho.store hl q _ _ rfl, by rw [List.length_set]; exact hl, all_set hx (by omega)⟩, hide ((unhide HKq).trans (kept_setCell _ _ _) (fun _ _ h => h) (fun x _ e => by rw [e]; rfl))⟩
            case measure => simp [intOf]; omega
        · have HI2 : Hid (Its wr its (k + 1)) := hide (by
            obtain ⟨l, ho, hl, hx⟩ := unhide HO
            exact (unhide HI).mark (unhide HA) (unhide HV) (unhide HKq) ho (by rw [hl]; exact unhide HLL) (all_of (fun j hj => hx j (by omega))))
          have HK2 := hide ((unhide HK).trans (unhide HKq) (fun _ _ h => h) (fun x _ e => mem_inits (unhide HV) e))
          clear HO HKq HK HI HLL
          go_wp2
          go_roundw
          case rel => exact ⟨k + 1, by omega, by go_num, HI2, HK2⟩
          case measure => simp [intOf]; omega
    · have ek : k = its.length := by omega
      have HIm : Hid (Its wr its its.length) := hide (by rw [← ek]; exact unhide HI)
      have HS2 := hide hS'
      obtain ⟨W, HW⟩ : ∃ W, W = wr := ⟨_, rfl⟩
      have HGr : Hid (Grown wr wr its (.slice none 0 0) []) := hide ⟨World.ownsRow_nil _ _ _ _, unhide HIm, fun j g h => by simp at h, Kept.refl _ _, fun j v hv q hq => by
        obtain ⟨l, ho, _⟩ := unhide HIm j v hv
        exact ho.block_lt hq⟩
      rw [← HW] at HGr HK HS2
      have HWW := hide HW
      clear ek HI HIm hS' hg' HW
      go_wp2
      go_loopw [45] (fun i wq => i = .int .i64 0 ∧ wq = wr) (fun _ _ => 0)
      case atStart => exact ⟨rfl, rfl⟩
      case round =>
        obtain ⟨rfl, rfl⟩ := hrel
        go_wp2
        go_loopw [9, 67] (fun mv i wq => ∃ (k : Nat) (gs : List Value), k ≤ its.length ∧ i = .int .i64 k ∧ Hid (gs.length = k) ∧ Hid (Grown W wq its mv gs)) (fun _ i _ => its.length - (intOf i).toNat)
        case atStart => exact ⟨0, [], by omega, rfl, hide rfl, by have e := unhide HWW; rw [← e]; exact HGr⟩
        case round =>
          clear HGr c0' c1' HWW
          obtain ⟨k, gs, hk, rfl, HLg, HGr⟩ := hrel
          have hS' : Sh wr sp (.slice (some ⟨g, 0, none⟩) its.length cap) its := (unhide HS2).keep (unhide HGr).kept (fun ⟨v, hv, e⟩ => by
            obtain ⟨j, hj, rfl⟩ := List.getElem_of_mem hv
            exact (unhide HBN j _ (List.getElem?_eq_getElem hj)).1 e) (fun q hq ⟨v, hv, e⟩ => by
            obtain ⟨j, hj, rfl⟩ := List.getElem_of_mem hv
            cases hq
            exact (unhide HBN j _ (List.getElem?_eq_getElem hj)).2 e)
          obtain ⟨g2, cap2, e2, hg'⟩ := row_at hS'.row hp
          cases e2
          have c0' := hS'.c0
          have c1' := hS'.c1
          by_cases hlt : k < its.length
          · have i1 : ((k : Nat) : Int) < ((its.length : Nat) : Int) := by omega
            have hv := List.getElem?_eq_getElem hlt
            have d1 := hg' k _ hv
            obtain ⟨v, HV⟩ : ∃ v, Hid (its[k]? = some v) ∧ its[k] = v := ⟨_, hide hv, rfl⟩
            obtain ⟨HV, e⟩ := HV
            rw [e] at d1
            clear hv e hg' hS'
            obtain ⟨l, ho, hl, hx⟩ := (unhide HGr).itsk k v (unhide HV)
            have HGs : Hid (Grows wr wr k v v 0) := hide (Grows.start ho hl (hx hlt))
            obtain ⟨ao, c, hvv, _⟩ := ho.at
            obtain ⟨n, hnn⟩ : ∃ n, n = l.length := ⟨_, rfl⟩
            rw [← hnn] at hvv
            have hvlt : Hid (∀ q, v.ownBlock = some q → q < wr.heap.size) := hide (fun q hq => ho.block_lt hq)
            obtain ⟨w1, HW1⟩ : ∃ w1, w1 = wr := ⟨_, rfl⟩
            rw [← HW1] at HGr HGs hvlt
            have HGs' : Hid (Grows w1 wr k v v 0) := by rw [← HW1]; exact HGs
            subst hvv
            clear ho hl hx hnn HW1 HGs
            go_wp2
            go_loopw [13, 73] (fun gv i wq => ∃ q : Nat, q ≤ 80 ∧ i = .int .i64 q ∧ Hid (Grows w1 wq k (.slice ao n c) gv q)) (fun _ i _ => 80 - (intOf i).toNat)
            case atStart => exact ⟨0, by omega, rfl, HGs'⟩
            case round =>
              clear HGs' c0' c1' d1
              obtain ⟨q, hq, rfl, HGs⟩ := hrel
              by_cases hq8 : q < 80
              · have j1 : ((q : Nat) : Int) < 80 := by omega
                obtain ⟨m, ho, hm, hx⟩ := (unhide HGs).own
                have HO := hide (And.intro ho (And.intro hm hx))
                have hml : (mk8 k).toNat < 256 := (mk8 k).toNat_lt
                have HO1 := hide (ho.below ((Below.refl wr.heap.size wr).alloc (Nat.le_refl _) (.cells #[.int .u8 ((mk8 k).toNat : Int)] 5)))
                have HSr : Hid (SrcB (wr.alloc (.cells #[.int .u8 ((mk8 k).toNat : Int)] 5)) (.slice (some ⟨wr.heap.size, 0, none⟩) 1 1) [mk8 k]) := hide (.inr ⟨_, 1, rfl, BAt.one wr (mk8 k) _ rfl _⟩)
                clear ho hm hx
                go_wp2_with fail
                refine (mark_any k _ (by omega)).mono ?_
                rintro e w2 ⟨rfl, rfl⟩
                go_wp2_with (at_builtin; refine wpList_appendB2 rfl _ _ rfl 0 _ m rfl (unhide HO1) _ [mk8 k] rfl (unhide HSr) (by have := (unhide HO).2.1; simp; omega) (Nat.zero_le _) ?_)
                intro gv' w3 hO' hC'
                have HG2 := hide ((unhide HGs).more (unhide hvlt) ((Below.refl w2.heap.size w2).alloc (Nat.le_refl _) (.cells #[.int .u8 ((mk8 k).toNat : Int)] 5)) (unhide HO).1 (unhide HO).2.2 hO' (by rw [World.size_alloc]; exact hC'))
                clear hO' hC' HO HO1 HSr HGs
                go_wp2
                go_roundw
                case rel => exact ⟨q + 1, by omega, by go_num, HG2⟩
                case measure => simp [intOf]; omega
              · have eq8 : q = 80 := by omega
                obtain ⟨m, ho, _⟩ := (unhide HGs).own
                obtain ⟨ao', c', hgv, _⟩ := ho.at
                obtain ⟨n', hnn⟩ : ∃ n', n' = m.length := ⟨_, rfl⟩
                rw [← hnn] at hgv
                subst hgv
                have hrow : wr.ownsRow W.heap.size 22 1 _ gs.length gs := rowKeep (unhide HGr).row (unhide HGs).kept (fun x hx e => by
                  have h1 := (unhide HGr).old _ _ (unhide HV) x e
                  have h2 := (World.ownsRow.lt (unhide HGr).row x hx).1
                  omega)
                have hWs : W.heap.size ≤ wr.heap.size := Nat.le_trans (unhide HGr).kept.size (unhide HGs).kept.size
                have HR := hide (hrow.alloc (.cells #[.slice ao' n' c'] 22))
                have hgl : gs.length ≤ 1000000 := by have := unhide HLg; omega
                have HV' : Hid (its[gs.length]? = some (.slice ao n c)) := by rw [unhide HLg]; exact HV
                have HGs' : Hid (Grows w1 wr gs.length (.slice ao n c) (.slice ao' n' c') q) := by rw [unhide HLg]; exact HGs
                obtain ⟨i0, hi, hz0, hz1, hz2⟩ := info_parts info22
                clear hrow ho hnn eq8 HGs HV
                go_wp2_with (at_builtin; refine wpList_append_own_at _ rfl _ _ 45 rfl W.heap.size 22 i0 (.slice none 0 0) 1 24 Try.underlying45 hi hz0 hz1 hz2 rfl (by decide) _ gs.length gs rfl (unhide HR) ⟨wr.heap.size, 0, none⟩ 1 1 [.slice ao' n' c'] rfl rfl (cell_one_new _ _ _) (by simp [Value.oneCell']) ?a3 ?a4 ?a5 ?_)
                case a3 => unfold maxLen; omega
                case a4 => omega
                case a5 => rw [World.size_alloc]; omega
                intro mv' w3 hO' hG' _ _
                have HG2 := hide ((unhide HGr).push (unhide HA) (unhide HV') (unhide HGs') hq ((Below.refl wr.heap.size wr).alloc (Nat.le_refl _) _) hO' hG')
                have HL2 : Hid ((gs ++ [Value.slice ao' n' c']).length = k + 1) := hide (by rw [List.length_append, unhide HLg]; rfl)
                clear hO' hG' HR HGr hi hz0 hz1 hz2 HGs' HV' hWs hgl
                go_wp2
                go_roundw
                case rel => exact ⟨k + 1, gs ++ [Value.slice ao' n' c'], by omega, by go_num, HL2, HG2⟩
                case measure => simp [intOf]; omega
          · have ek : k = its.length := by omega
            have HM := hide (marked_yes hS' (unhide HGr).row (by rw [unhide HLg]; exact ek) hp hn (fun i v hv => by
              obtain ⟨l, ho, hl, hx⟩ := (unhide HGr).itsk i v hv
              exact ⟨l, ho, by omega, hx (List.getElem?_eq_some_iff.1 hv).1⟩) (fun i v hv => ((unhide HGr).gsk i v hv).1))
            have HKe := hide ((unhide HK).trans (unhide HGr).kept (fun _ _ h => h) (fun _ _ h => h))
            clear ek hg' hS'
            go_wp2
            go_loopw [10, 92] (fun mi i wq => mi = .slice none 0 0 ∧ i = .int .i64 0 ∧ wq = wr) (fun _ _ _ => 0)
            case atStart => exact ⟨rfl, rfl, rfl⟩
            case round =>
              obtain ⟨rfl, rfl, rfl⟩ := hrel
              go_wp2_with fail
              refine (unhide HM).mono ?_
              rintro e w2 ⟨rfl, rfl⟩
              go_wp2
              go_ret
              exact ⟨rfl, unhide HKe⟩
end Go.Proofs.Ytghdefhbncejjaa
