/-
  What holds between two steps of the law WireReads: rows of readers and of places, each pair as the document has it, all apart from one another.
-/
import Derived.Test.YtggaecmjadkopaaLook0
import Derived.Maps.AppendAt
namespace Go.Proofs.Ytggaecmjadkopaa
open Go.RowKit

def rp (x : RD) : Value := .pointer (some ⟨x.p, 0, none⟩)
def qp (x : RD) : Value := .pointer (some ⟨x.q, 0, none⟩)

structure St (W0 w : World) (rv pv : Value) (xs : List RD) : Prop where
  rr : w.ownsRow W0.heap.size 26 1 rv xs.length (xs.map rp)
  pr : w.ownsRow W0.heap.size 30 1 pv xs.length (xs.map qp)
  rel : ∀ (i : Nat) (x : RD), xs[i]? = some x → Rel w x
  ap : ∀ (i j : Nat) (x y : RD), xs[i]? = some x → xs[j]? = some y → i ≠ j → x.p ≠ y.p ∧ x.q ≠ y.q
  old : ∀ (i : Nat) (x : RD), xs[i]? = some x → W0.heap.size ≤ x.p ∧ W0.heap.size ≤ x.q
  gd : ∀ (i : Nat) (x : RD), xs[i]? = some x → rv.ownBlock ≠ some x.g ∧ pv.ownBlock ≠ some x.g ∧ ∀ b off, x.ao = some ⟨b, off, none⟩ → 0 < x.l.length → rv.ownBlock ≠ some b ∧ pv.ownBlock ≠ some b
  bel : Below W0.heap.size W0 w
  pos : 0 < xs.length

/-- What a row of pointers is. -/
theorem row_at {w : World} {B : Nat} {t : TypeId} {v : Value} {n : Nat} {cs : List Value} (h : w.ownsRow B t 1 v n cs) (hn : 0 < n) : ∃ g cap cur, v = .slice (some ⟨g, 0, none⟩) n cap ∧ B ≤ g ∧ w.heap[g]? = some (.cells cur t (0, 0)) ∧ ∀ j, j < n → w.cell? ⟨g, j, none⟩ = cs[j]? := by
  rcases h.2 with ⟨_, h0⟩ | ⟨g, cap, cur, hv, hb, hh, _⟩
  · omega
  · subst hv
    exact ⟨g, cap, cur, rfl, hb, hh, fun j hj => h.cellAt j (by omega)⟩
theorem row_keep {S : Nat → Prop} {w w' : World} {B : Nat} {t : TypeId} {v : Value} {n : Nat} {cs : List Value} (h : w.ownsRow B t 1 v n cs) (hk : Kept S w w') (hs : ∀ k, v.ownBlock = some k → ¬ S k) : w'.ownsRow B t 1 v n cs := by
  refine ⟨h.1, ?_⟩
  rcases h.2 with h1 | ⟨g, cap, cur, hv, hbg, hh, r⟩
  · exact Or.inl h1
  · exact Or.inr ⟨g, cap, cur, hv, hbg, by rw [hk.block g (Array.getElem?_eq_some_iff.1 hh).1 (hs g (by rw [hv]; rfl))]; exact hh, r⟩
theorem row_type {w : World} {B : Nat} {t : TypeId} {v : Value} {n : Nat} {cs : List Value} (h : w.ownsRow B t 1 v n cs) : ∀ k, v.ownBlock = some k → ∃ cur, w.heap[k]? = some (.cells cur t (0, 0)) := by
  intro k hk
  rcases h.2 with ⟨rfl, _⟩ | ⟨g, cap, cur, rfl, _, hh, _⟩
  · cases hk
  · cases hk; exact ⟨cur, hh⟩

theorem St.below {W0 w w' : World} {rv pv : Value} {xs : List RD} (h : St W0 w rv pv xs) (hb : Below w.heap.size w w') : St W0 w' rv pv xs :=
  ⟨row_keep h.rr (Kept.of_below hb (fun _ => False)) (fun _ _ h => h), row_keep h.pr (Kept.of_below hb (fun _ => False)) (fun _ _ h => h), fun i x hx => (h.rel i x hx).below hb, h.ap, h.old, h.gd, h.bel.trans (hb.mono h.bel.size), h.pos⟩

theorem map_set_same {f : RD → Value} {xs : List RD} {i : Nat} {x x' : RD} (hx : xs[i]? = some x) (hf : f x' = f x) : (xs.set i x').map f = xs.map f := by
  apply List.ext_getElem?
  intro j
  rw [List.getElem?_map, List.getElem?_map]
  by_cases e : i = j
  · subst e
    have hi := (List.getElem?_eq_some_iff.1 hx).1
    rw [List.getElem?_set_self hi, hx]
    simp [hf]
  · rw [List.getElem?_set_ne e]

/-- One pair has gone on. -/
theorem St.look {W0 w w' : World} {rv pv : Value} {xs : List RD} {i : Nat} {x : RD} {k' : Nat} (h : St W0 w rv pv xs) (hx : xs[i]? = some x) (hr : Rel w' { x with k := k' }) (hk : Kept (LT x) w w') : St W0 w' rv pv (xs.set i { x with k := k' }) := by
  have hi := (List.getElem?_eq_some_iff.1 hx).1
  have hrx := h.rel i x hx
  have hget : ∀ (j : Nat) (y : RD), (xs.set i { x with k := k' })[j]? = some y → (j = i ∧ y = { x with k := k' }) ∨ (j ≠ i ∧ xs[j]? = some y) := by
    intro j y hy
    by_cases e : i = j
    · subst e
      rw [List.getElem?_set_self hi] at hy
      injection hy with hy
      exact .inl ⟨rfl, hy.symm⟩
    · rw [List.getElem?_set_ne e] at hy
      exact .inr ⟨fun e' => e e'.symm, hy⟩
  have hback : ∀ (j : Nat) (y : RD), (xs.set i { x with k := k' })[j]? = some y → ∃ z : RD, xs[j]? = some z ∧ z.p = y.p ∧ z.q = y.q ∧ z.g = y.g ∧ z.ao = y.ao ∧ z.l = y.l := by
    intro j y hy
    rcases hget j y hy with ⟨rfl, rfl⟩ | ⟨_, hy⟩
    · exact ⟨x, hx, rfl, rfl, rfl, rfl, rfl⟩
    · exact ⟨y, hy, rfl, rfl, rfl, rfl, rfl⟩
  have nrow : ∀ {t : TypeId} {v : Value} {n : Nat} {cs : List Value}, t ≠ 68 → t ≠ 32 → w.ownsRow W0.heap.size t 1 v n cs → ∀ k, v.ownBlock = some k → ¬ LT x k := by
    intro t v n cs h1 h2 ho k hk'
    obtain ⟨cur, hh⟩ := row_type ho k hk'
    rintro (e | e)
    · rw [e, hrx.rd.row] at hh
      simp at hh
      exact h1 hh.2.symm
    · rw [e, hrx.pl] at hh
      simp at hh
      exact h2 hh.2.symm
  refine ⟨?_, ?_, ?_, ?_, ?_, ?_, ?_, by rw [List.length_set]; exact h.pos⟩
  · rw [List.length_set, map_set_same (f := rp) (x' := { x with k := k' }) hx rfl]
    exact row_keep h.rr hk (nrow (by decide) (by decide) h.rr)
  · rw [List.length_set, map_set_same (f := qp) (x' := { x with k := k' }) hx rfl]
    exact row_keep h.pr hk (nrow (by decide) (by decide) h.pr)
  · intro j y hy
    rcases hget j y hy with ⟨rfl, rfl⟩ | ⟨hne, hy⟩
    · exact hr
    · have := h.ap j i y x hy hx hne
      exact Rel.other hrx (h.rel j y hy) hk this.1 this.2
  · intro a b y z hy hz hne
    obtain ⟨y', h1, e1, e2, _⟩ := hback a y hy
    obtain ⟨z', h2, e3, e4, _⟩ := hback b z hz
    have := h.ap a b y' z' h1 h2 hne
    rw [e1, e2, e3, e4] at this
    exact this
  · intro a y hy
    obtain ⟨y', h1, e1, e2, _⟩ := hback a y hy
    have := h.old a y' h1
    rw [e1, e2] at this
    exact this
  · intro a y hy
    obtain ⟨y', h1, _, _, e3, e4, e5⟩ := hback a y hy
    have := h.gd a y' h1
    rw [e3, e4, e5] at this
    exact this
  · exact hk.below h.bel h.bel.size (fun k hk' => by
      have := h.old i x hx
      rcases hk' with e | e
      · rw [e]; exact this.1
      · rw [e]; exact this.2)

/-- A row may be written, or lie elsewhere: each pair is kept. -/
theorem Rel.row {w w' : World} {x : RD} {row : Option Nat} (h : Rel w x) (hg : w.grownBy w' row) (hp : some x.p ≠ row) (hq : some x.q ≠ row) (hgg : some x.g ≠ row) (ha : ∀ b off, x.ao = some ⟨b, off, none⟩ → 0 < x.l.length → some b ≠ row) : Rel w' x := by
  have hk := Kept.of_grown hg
  exact ⟨⟨(hg.block _ h.rd.pl hp).trans h.rd.row, h.rd.bytes.keep hk (fun b off e _ => by injection e with e; injection e with e; subst e; exact hgg), Nat.lt_of_lt_of_le h.rd.gl hg.size, h.rd.ne, h.rd.le, h.rd.cap_, h.rd.fit⟩, (hg.block _ h.ql hq).trans h.pl, h.by_.keep hk (fun b off e hl => ha b off e hl)⟩

/-- The two rows do not lie in one block. -/
theorem St.rp_ne {W0 w : World} {rv pv : Value} {xs : List RD} (h : St W0 w rv pv xs) : ∀ k, pv.ownBlock = some k → rv.ownBlock ≠ some k := by
  intro k e1 e2
  obtain ⟨c1, h1⟩ := row_type h.pr k e1
  obtain ⟨c2, h2⟩ := row_type h.rr k e2
  rw [h1] at h2
  simp at h2
/-- Nor where a pair lies. -/
theorem row_not_pair {w : World} {B : Nat} {t : TypeId} {v : Value} {n : Nat} {cs : List Value} {x : RD} (h : w.ownsRow B t 1 v n cs) (h1 : t ≠ 68) (h2 : t ≠ 32) (hx : Rel w x) : v.ownBlock ≠ some x.p ∧ v.ownBlock ≠ some x.q := by
  refine ⟨fun e => ?_, fun e => ?_⟩
  · obtain ⟨c, hh⟩ := row_type h _ e
    rw [hx.rd.row] at hh
    simp at hh
    exact h1 hh.2.symm
  · obtain ⟨c, hh⟩ := row_type h _ e
    rw [hx.pl] at hh
    simp at hh
    exact h2 hh.2.symm

theorem St.pr_mid {W0 w w1 : World} {rv pv : Value} {xs : List RD} (h : St W0 w rv pv xs) (g1 : w.grownBy w1 rv.ownBlock) : w1.ownsRow W0.heap.size 30 1 pv xs.length (xs.map qp) :=
  row_keep h.pr (Kept.of_grown g1) (fun k hk e => h.rp_ne k hk e.symm)

/-- A new pair. -/
theorem St.push {W0 w w1 wb w2 : World} {rv pv rv' pv' : Value} {xs : List RD} {y : RD} (h : St W0 w rv pv xs) (hy : Rel w y)
    (hap : ∀ (i : Nat) (x : RD), xs[i]? = some x → x.p ≠ y.p ∧ x.q ≠ y.q) (hold : W0.heap.size ≤ y.p ∧ W0.heap.size ≤ y.q)
    (hgd : rv.ownBlock ≠ some y.g ∧ pv.ownBlock ≠ some y.g ∧ ∀ b off, y.ao = some ⟨b, off, none⟩ → 0 < y.l.length → rv.ownBlock ≠ some b ∧ pv.ownBlock ≠ some b)
    (h1 : w1.ownsRow W0.heap.size 26 1 rv' (xs.length + 1) (xs.map rp ++ [rp y])) (g1 : w.grownBy w1 rv.ownBlock) (f1 : rv'.ownBlock = rv.ownBlock ∨ rv'.ownBlock = some w.heap.size)
    (hb : Below w1.heap.size w1 wb)
    (h2 : w2.ownsRow W0.heap.size 30 1 pv' (xs.length + 1) (xs.map qp ++ [qp y])) (g2 : wb.grownBy w2 pv.ownBlock) (f2 : pv'.ownBlock = pv.ownBlock ∨ pv'.ownBlock = some wb.heap.size) :
    St W0 w2 rv' pv' (xs ++ [y]) := by
  have hget : ∀ (i : Nat) (x : RD), (xs ++ [y])[i]? = some x → xs[i]? = some x ∨ (i = xs.length ∧ x = y) := by
    intro i x hx
    by_cases hi : i < xs.length
    · rw [List.getElem?_append_left hi] at hx; exact .inl hx
    · have hi2 := (List.getElem?_eq_some_iff.1 hx).1
      simp at hi2
      have e : i = xs.length := by omega
      subst e
      rw [List.getElem?_append_right (by omega), Nat.sub_self] at hx
      injection hx with hx
      exact .inr ⟨rfl, hx.symm⟩
  have relw : ∀ (i : Nat) (x : RD), (xs ++ [y])[i]? = some x → Rel w x ∧ (rv.ownBlock ≠ some x.g ∧ pv.ownBlock ≠ some x.g ∧ ∀ b off, x.ao = some ⟨b, off, none⟩ → 0 < x.l.length → rv.ownBlock ≠ some b ∧ pv.ownBlock ≠ some b) := by
    intro i x hx
    rcases hget i x hx with hx | ⟨_, rfl⟩
    · exact ⟨h.rel i x hx, h.gd i x hx⟩
    · exact ⟨hy, hgd⟩
  have rel1 : ∀ (i : Nat) (x : RD), (xs ++ [y])[i]? = some x → Rel w1 x := by
    intro i x hx
    obtain ⟨hr, hg⟩ := relw i x hx
    have hn := row_not_pair h.rr (by decide) (by decide) hr
    exact hr.row g1 (fun e => hn.1 e.symm) (fun e => hn.2 e.symm) (fun e => hg.1 e.symm) (fun b off e hl e' => (hg.2.2 b off e hl).1 e'.symm)
  have prb : wb.ownsRow W0.heap.size 30 1 pv xs.length (xs.map qp) := row_keep (h.pr_mid g1) (Kept.of_below hb (fun _ => False)) (fun _ _ h => h)
  have rel2 : ∀ (i : Nat) (x : RD), (xs ++ [y])[i]? = some x → Rel w2 x := by
    intro i x hx
    have hr := (rel1 i x hx).below hb
    obtain ⟨_, hg⟩ := relw i x hx
    have hn := row_not_pair prb (by decide) (by decide) hr
    exact hr.row g2 (fun e => hn.1 e.symm) (fun e => hn.2 e.symm) (fun e => hg.2.1 e.symm) (fun b off e hl e' => (hg.2.2 b off e hl).2 e'.symm)
  have rr2 : w2.ownsRow W0.heap.size 26 1 rv' (xs.length + 1) (xs.map rp ++ [rp y]) := by
    refine row_keep (row_keep h1 (Kept.of_below hb (fun _ => False)) (fun _ _ h => h)) (Kept.of_grown g2) (fun k hk e => ?_)
    obtain ⟨c1, e1⟩ := row_type h1 k hk
    have e1' := (hb.block k (Array.getElem?_eq_some_iff.1 e1).1).trans e1
    obtain ⟨c2, e2⟩ := row_type prb k e.symm
    rw [e1'] at e2
    simp at e2
  refine ⟨by simpa using rr2, by simpa using h2, rel2, ?_, ?_, ?_, ?_, by simp⟩
  · intro i j x z hx hz hne
    rcases hget i x hx with hx | ⟨e1, ex⟩
    · rcases hget j z hz with hz | ⟨e2, ez⟩
      · exact h.ap i j x z hx hz hne
      · rw [ez]
        exact hap i x hx
    · rcases hget j z hz with hz | ⟨e2, ez⟩
      · have := hap j z hz
        rw [ex]
        exact ⟨fun e => this.1 e.symm, fun e => this.2 e.symm⟩
      · omega
  · intro i x hx
    rcases hget i x hx with hx | ⟨_, rfl⟩
    · exact h.old i x hx
    · exact hold
  · intro i x hx
    obtain ⟨hr, hg⟩ := relw i x hx
    have hbl : ∀ b off, x.ao = some ⟨b, off, none⟩ → 0 < x.l.length → b < w.heap.size := fun b off e hl => by have := hr.by_; rw [e] at this; exact this.lt hl
    have hsz : w.heap.size ≤ wb.heap.size := Nat.le_trans g1.size hb.size
    have n1 : ∀ z, z < w.heap.size → rv.ownBlock ≠ some z → rv'.ownBlock ≠ some z := by
      intro z hz hne e
      rcases f1 with f | f
      · exact hne (f ▸ e)
      · rw [f] at e; injection e with e; omega
    have n2 : ∀ z, z < w.heap.size → pv.ownBlock ≠ some z → pv'.ownBlock ≠ some z := by
      intro z hz hne e
      rcases f2 with f | f
      · exact hne (f ▸ e)
      · rw [f] at e; injection e with e; omega
    exact ⟨n1 _ hr.rd.gl hg.1, n2 _ hr.rd.gl hg.2.1, fun b off e hl => ⟨n1 _ (hbl b off e hl) (hg.2.2 b off e hl).1, n2 _ (hbl b off e hl) (hg.2.2 b off e hl).2⟩⟩
  · have b1 := h.bel.grown g1 h.bel.size (fun k e => (h.rr.lt k e).1)
    have b2 := b1.trans (hb.mono b1.size)
    exact b2.grown g2 b2.size (fun k e => (prb.lt k e).1)
end Go.Proofs.Ytggaecmjadkopaa
