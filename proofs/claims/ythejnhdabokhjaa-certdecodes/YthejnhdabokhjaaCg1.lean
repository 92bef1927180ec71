/-
  Rows that are written somewhere: they stay rows of their owner. No Go in it.
-/
import Derived.Test.YthejnhdabokhjaaCf3
import Derived.Test.YthejnhdabokhjaaCe5
namespace Go.Proofs.Ythejnhdabokhjaa
open Go.RowKit

/-- A row of entries, whatever they are. -/
def OwnR (W : World) (base : Nat) (v : Value) (n : Nat) : Prop := ∃ cs, W.ownsRow base 44 28 v n cs
theorem OwnE.toR {W : World} {base : Nat} {v : Value} {l : List En} (h : OwnE W base v l) : OwnR W base v l.length := ⟨_, h⟩
theorem OwnR.slice {W : World} {base : Nat} {v : Value} {n : Nat} (h : OwnR W base v n) : ∃ ao cap, v = .slice ao n cap := by
  obtain ⟨cs, h⟩ := h
  rcases h.2 with ⟨h1, h2⟩ | ⟨g, cap, cur, hv, _⟩
  · exact ⟨none, 0, by rw [h1, h2]⟩
  · exact ⟨_, cap, hv⟩
theorem OwnR.lt {W : World} {base : Nat} {v : Value} {n : Nat} (h : OwnR W base v n) (g : Nat) (e : v.ownBlock = some g) : base ≤ g ∧ g < W.heap.size := h.choose_spec.lt g e
theorem OwnR.grown {W W' : World} {base : Nat} {v : Value} {n : Nat} {row : Option Nat} (h : OwnR W base v n) (hg : W.grownBy W' row) (hne : ∀ g, v.ownBlock = some g → row ≠ some g) : OwnR W' base v n :=
  ⟨_, rows_grown h.choose_spec hg hne⟩
theorem OwnR.there {W : World} {base g : Nat} {n cap i : Nat} (h : OwnR W base (.slice (some ⟨g, 0, none⟩) n cap) n) (hi : i < n) : W.there g (i * 28) 28 := by
  obtain ⟨cs, h⟩ := h
  rcases h.2 with ⟨h1, _⟩ | ⟨g', cap', cur, hv, _, hg, hc, _, hcs, _⟩
  · cases h1
  · injection hv with hv1 _ hv3
    injection hv1 with hv1
    injection hv1 with hv1
    subst hv1 hv3
    intro j hj
    refine ⟨?_, frozen_of_row _ _ _ _ _ hg⟩
    rw [cell_of_row _ _ _ _ _ _ hg]
    have : i * 28 + j < cur.size := by rw [hcs]; omega
    simp [this]
theorem OwnR.setCell {W : World} {base g : Nat} {n cap : Nat} (h : OwnR W base (.slice (some ⟨g, 0, none⟩) n cap) n) (i : Nat) (u : Value) : OwnR (W.setCell ⟨g, i, none⟩ u) base (.slice (some ⟨g, 0, none⟩) n cap) n := by
  obtain ⟨cs, h⟩ := h
  rcases h.2 with ⟨h1, _⟩ | ⟨g', cap', cur, hv, hb, hg, hc, hm, hcs, _⟩
  · cases h1
  · injection hv with hv1 _ hv3
    injection hv1 with hv1
    injection hv1 with hv1
    subst hv1 hv3
    have hs : (cur.setIfInBounds i u).size = cap * 28 := by rw [Array.size_setIfInBounds, hcs]
    refine ⟨(cur.setIfInBounds i u).toList.take (n * 28), ?_, .inr ⟨g, cap, cur.setIfInBounds i u, rfl, hb, ?_, hc, hm, hs, rfl⟩⟩
    · rw [List.length_take, Array.length_toList, hs]
      exact Nat.min_eq_left (Nat.mul_le_mul_right 28 hc)
    · simp only [World.setCell, Array.getElem?_modify, if_true, hg]
      rfl
theorem OwnR.setCells {base g : Nat} {n cap : Nat} : ∀ (vs : List Value) (o : Nat) {W : World}, OwnR W base (.slice (some ⟨g, 0, none⟩) n cap) n → OwnR (W.setCells g o vs) base (.slice (some ⟨g, 0, none⟩) n cap) n
  | [], _, _, h => h
  | v :: vs, o, _, h => OwnR.setCells vs (o + 1) (h.setCell o v)
theorem grown_setCells (g : Nat) : ∀ (vs : List Value) (o : Nat) (W : World), W.grownBy (W.setCells g o vs) (some g)
  | [], _, W => ⟨rfl, rfl, rfl, Nat.le_refl _, fun _ _ _ => rfl⟩
  | v :: vs, o, W => by
    have h1 := grown_setCell W g o v
    have h2 := grown_setCells g vs (o + 1) (W.setCell ⟨g, o, none⟩ v)
    exact ⟨h2.os.trans h1.os, h2.tape.trans h1.tape, h2.output.trans h1.output, Nat.le_trans h1.size h2.size, fun k hk hn => (h2.block k (Nat.lt_of_lt_of_le hk h1.size) hn).trans (h1.block k hk hn)⟩
theorem OwnR.notC {W : World} {base : Nat} {v : Value} {n : Nat} (h : OwnR W base v n) {g : Nat} {l : Int} {s : Value} (hc : CAt W g l s) : v.ownBlock ≠ some g := by
  obtain ⟨cs, h⟩ := h
  intro e
  rcases h.2 with ⟨h1, _⟩ | ⟨g', _, cur, hv, _, hg, _⟩
  · rw [h1] at e
    cases e
  · rw [hv] at e
    injection e with e
    have e' : g' = g := e
    rw [e', show W.heap[g]? = _ from hc] at hg
    injection hg with hg
    injection hg with _ h2
    exact absurd h2 (by decide)
/-- What the law's loops keep: three certificates, in their boxes; the first one's row is written. -/
structure CD (w1 W : World) (x5 x8 x11 : Nat) (l : Int) (v1 v2 v3 : Value) (n1 : Nat) (es : List En) : Prop where
  bel : Below w1.heap.size w1 W
  c5 : CAt W x5 l v1
  c8 : CAt W x8 l v2
  c11 : CAt W x11 l v3
  o1 : OwnR W w1.heap.size v1 n1
  o2 : OwnE W w1.heap.size v2 es
  o3 : OwnE W w1.heap.size v3 es
  a2 : Apart v1 v2
  a3 : Apart v1 v3
  b5 : w1.heap.size ≤ x5
  n8 : x5 ≠ x8
  n11 : x5 ≠ x11
/-- Something is written into the first one's row. -/
theorem CD.write {w1 W W' : World} {x5 x8 x11 : Nat} {l : Int} {v1 v2 v3 : Value} {n1 : Nat} {es : List En} (h : CD w1 W x5 x8 x11 l v1 v2 v3 n1 es) (hg : W.grownBy W' v1.ownBlock) (ho : OwnR W' w1.heap.size v1 n1) : CD w1 W' x5 x8 x11 l v1 v2 v3 n1 es :=
  ⟨h.bel.trans (below_grown hg h.bel.size (fun k e => (h.o1.lt k e).1)), (hg.block _ h.c5.lt (fun e => h.o1.notC h.c5 e.symm)).trans h.c5, (hg.block _ h.c8.lt (fun e => h.o1.notC h.c8 e.symm)).trans h.c8, (hg.block _ h.c11.lt (fun e => h.o1.notC h.c11 e.symm)).trans h.c11, ho, rows_grown h.o2 hg (fun g e e2 => h.a2 g e2 e), rows_grown h.o3 hg (fun g e e2 => h.a3 g e2 e), h.a2, h.a3, h.b5, h.n8, h.n11⟩
theorem CD.below {w1 W W' : World} {x5 x8 x11 : Nat} {l : Int} {v1 v2 v3 : Value} {n1 : Nat} {es : List En} (h : CD w1 W x5 x8 x11 l v1 v2 v3 n1 es) (hb : Below W.heap.size W W') : CD w1 W' x5 x8 x11 l v1 v2 v3 n1 es :=
  ⟨h.bel.trans (hb.mono h.bel.size), (hb.block _ h.c5.lt).trans h.c5, (hb.block _ h.c8.lt).trans h.c8, (hb.block _ h.c11.lt).trans h.c11, h.o1.grown (grown_of hb none) (fun g e e2 => by cases e2), h.o2.below hb, h.o3.below hb, h.a2, h.a3, h.b5, h.n8, h.n11⟩
end Go.Proofs.Ythejnhdabokhjaa
