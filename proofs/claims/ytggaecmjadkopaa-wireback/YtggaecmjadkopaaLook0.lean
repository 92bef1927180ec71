/-
  What a reader and the document's place of it are in memory ('Rel'), and that they are kept where another pair is turned. No conditions.
-/
import Derived.Test.YtggaecmjadkopaaRName
import Derived.Test.YtggaecmjadkopaaWriter
import Derived.Test.YtggaecmjadkopaaRoom
import Derived.Deep.RegionHeld3
namespace Go.Proofs.Ytggaecmjadkopaa
open Go.RowKit

/-- A reader, and the document's place. -/
structure RD where
  p : Nat
  g : Nat
  cap : Nat
  q : Nat
  ao : Option Addr
  c : Nat
  l : List UInt8
  k : Nat

structure Rel (w : World) (x : RD) : Prop where
  rd : IsReader w x.p x.g x.cap x.l x.k
  pl : w.heap[x.q]? = some (.cells #[.slice x.ao x.l.length x.c, .int .i64 (x.k : Int)] 32 (0, 0))
  by_ : BAt w x.ao x.l

theorem Rel.q0 {w : World} {x : RD} (h : Rel w x) : w.cell? ⟨x.q, 0, none⟩ = some (.slice x.ao x.l.length x.c) := by rw [cell_of_row _ _ _ _ _ _ h.pl]; rfl
theorem Rel.q1 {w : World} {x : RD} (h : Rel w x) : w.cell? ⟨x.q, 1, none⟩ = some (.int .i64 (x.k : Int)) := by rw [cell_of_row _ _ _ _ _ _ h.pl]; rfl
theorem Rel.qf {w : World} {x : RD} (h : Rel w x) : w.frozen? ⟨x.q, 1, none⟩ = false := by simp [World.frozen?, h.pl]
theorem Rel.ql {w : World} {x : RD} (h : Rel w x) : x.q < w.heap.size := (Array.getElem?_eq_some_iff.1 h.pl).1

/-- No byte lies in a block of other things. -/
theorem BAt.not_in {w : World} {ao : Option Addr} {l : List UInt8} (h : BAt w ao l) {p : Nat} {cs : Array Value} {t : TypeId} {fr : Nat × Nat} (hp : w.heap[p]? = some (.cells cs t fr)) (hn : ∀ (i : Nat) (n : Int), cs[i]? ≠ some (.int .u8 n)) :
    ∀ b off, ao = some ⟨b, off, none⟩ → 0 < l.length → b ≠ p := by
  intro b off e hl e'
  subst e'
  obtain ⟨b', off', e2, hc⟩ := h 0 hl
  rw [e] at e2
  injection e2 with e2
  injection e2 with e3 e4
  subst e3 e4
  rw [cell_of_row _ _ _ _ _ _ hp] at hc
  exact hn _ _ hc

theorem row3_not (a : Value) (n : Int) (b : Bool) (ao : Option Addr) (m c : Nat) (ha : a = .slice ao m c) : ∀ (i : Nat) (z : Int), (#[a, .int .i64 n, .bool b] : Array Value)[i]? ≠ some (.int .u8 z) := by
  intro i z
  subst ha
  match i with
  | 0 => simp
  | 1 => simp
  | 2 => simp
  | i + 3 => simp
theorem row2_not (n : Int) (ao : Option Addr) (m c : Nat) : ∀ (i : Nat) (z : Int), (#[.slice ao m c, .int .i64 n] : Array Value)[i]? ≠ some (.int .u8 z) := by
  intro i z
  match i with
  | 0 => simp
  | 1 => simp
  | i + 2 => simp

/-- What a call of 'look' may turn. -/
def LT (x : RD) (k : Nat) : Prop := k = x.p ∨ k = x.q

/-- Another pair is kept. -/
theorem Rel.other {w w' : World} {x y : RD} (hx : Rel w x) (hy : Rel w y) (hk : Kept (LT x) w w') (h1 : y.p ≠ x.p) (h2 : y.q ≠ x.q) : Rel w' y := by
  have hpq : ∀ {a b : RD}, Rel w a → Rel w b → a.p ≠ b.q := by
    intro a b ha hb e
    have h1 := ha.rd.row
    rw [e, hb.pl] at h1
    simp at h1
  have n1 : ¬ LT x y.p := by
    rintro (e | e)
    · exact h1 e
    · exact hpq hy hx e
  have n2 : ¬ LT x y.q := by
    rintro (e | e)
    · exact hpq hx hy e.symm
    · exact h2 e
  have nb : ∀ {ao : Option Addr} {l : List UInt8}, BAt w ao l → BAt w' ao l := by
    intro ao l hb
    refine hb.keep hk (fun b off e hl => ?_)
    rintro (e' | e')
    · exact hb.not_in hx.rd.row (row3_not _ _ _ _ _ _ rfl) b off e hl e'
    · exact hb.not_in hx.pl (row2_not _ _ _ _) b off e hl e'
  exact ⟨⟨(hk.block _ hy.rd.pl n1).trans hy.rd.row, nb hy.rd.bytes, Nat.lt_of_lt_of_le hy.rd.gl hk.size, hy.rd.ne, hy.rd.le, hy.rd.cap_, hy.rd.fit⟩, (hk.block _ hy.ql n2).trans hy.pl, nb hy.by_⟩

/-- The reader has gone on, the place not yet. -/
structure Half (w w2 : World) (x : RD) (k' : Nat) : Prop where
  rd : IsReader w2 x.p x.g x.cap x.l k'
  pl : w2.heap[x.q]? = some (.cells #[.slice x.ao x.l.length x.c, .int .i64 (x.k : Int)] 32 (0, 0))
  by_ : BAt w2 x.ao x.l
  kept : Kept (LT x) w w2

theorem Rel.half {w w2 : World} {x : RD} {k' : Nat} (h : Rel w x) (hr : IsReader w2 x.p x.g x.cap x.l k') (hg : w.grownBy w2 (some x.p)) : Half w w2 x k' := by
  have hpq : x.p ≠ x.q := by
    intro e
    have h1 := h.rd.row
    rw [e, h.pl] at h1
    simp at h1
  have hk := Kept.of_grown hg
  refine ⟨hr, (hg.block _ h.ql (by simpa using fun e => hpq e.symm)).trans h.pl, h.by_.keep hk (fun b off e hl e' => ?_), hk.mono (fun k _ e => .inl (by cases e; rfl))⟩
  cases e'
  exact h.by_.not_in h.rd.row (row3_not _ _ _ _ _ _ rfl) _ off e hl rfl

theorem Half.below {w w2 w3 : World} {x : RD} {k' : Nat} (h : Half w w2 x k') (hb : Below w2.heap.size w2 w3) : Half w w3 x k' :=
  ⟨h.rd.below hb, (hb.block _ (Array.getElem?_eq_some_iff.1 h.pl).1).trans h.pl, h.by_.below' hb, h.kept.trans (Kept.of_below hb (fun _ => False)) (fun _ _ h => h) (fun _ _ h => h.elim)⟩

/-- Now the place goes on too. -/
theorem Half.done {w w2 : World} {x : RD} {k' : Nat} (h : Half w w2 x k') (z : Int) (hz : z = (k' : Int)) : Rel (w2.setCell ⟨x.q, 1, none⟩ (.int .i64 z)) { x with k := k' } ∧ Kept (LT x) w (w2.setCell ⟨x.q, 1, none⟩ (.int .i64 z)) := by
  subst hz
  have hpq : x.p ≠ x.q := by
    intro e
    have h1 := h.rd.row
    rw [e, h.pl] at h1
    simp at h1
  have hk := kept_setCell w2 ⟨x.q, 1, none⟩ (.int .i64 (k' : Int))
  have nb : ∀ {ao : Option Addr} {l : List UInt8}, BAt w2 ao l → BAt (w2.setCell ⟨x.q, 1, none⟩ (.int .i64 (k' : Int))) ao l := by
    intro ao l hb
    exact hb.keep hk (fun b off e hl e' => hb.not_in h.pl (row2_not _ _ _ _) b off e hl e')
  refine ⟨⟨⟨(hk.block _ h.rd.pl hpq).trans h.rd.row, nb h.rd.bytes, Nat.lt_of_lt_of_le h.rd.gl hk.size, h.rd.ne, h.rd.le, h.rd.cap_, h.rd.fit⟩, ?_, nb h.by_⟩, h.kept.trans hk (fun _ _ h => h) (fun _ _ e => .inr e)⟩
  rw [heap_setCell_same _ _ _ _ _ _ h.pl]
  rfl
theorem Half.qf {w w2 : World} {x : RD} {k' : Nat} (h : Half w w2 x k') : w2.frozen? ⟨x.q, 1, none⟩ = false := by simp [World.frozen?, h.pl]
theorem Half.q0 {w w2 : World} {x : RD} {k' : Nat} (h : Half w w2 x k') : w2.cell? ⟨x.q, 0, none⟩ = some (.slice x.ao x.l.length x.c) := by rw [cell_of_row _ _ _ _ _ _ h.pl]; rfl
theorem Half.q1 {w w2 : World} {x : RD} {k' : Nat} (h : Half w w2 x k') : w2.cell? ⟨x.q, 1, none⟩ = some (.int .i64 (x.k : Int)) := by rw [cell_of_row _ _ _ _ _ _ h.pl]; rfl

/-- What holds behind 'look': true; the pair has gone on, and there may be a new one. -/
def LookPost (w : World) (x : RD) (e : Ending) (w' : World) : Prop :=
  ∃ k', Rel w' { x with k := k' } ∧ Kept (LT x) w w' ∧ (e = .returned (.tuple #[.bool true, .pointer none, .pointer none]) ∨
    ∃ y : RD, e = .returned (.tuple #[.bool true, .pointer (some ⟨y.p, 0, none⟩), .pointer (some ⟨y.q, 0, none⟩)]) ∧ Rel w' y ∧ w.heap.size ≤ y.p ∧ w.heap.size ≤ y.q ∧ w.heap.size ≤ y.g ∧ ∀ b off, y.ao = some ⟨b, off, none⟩ → 0 < y.l.length → w.heap.size ≤ b)

theorem Rel.below {w w' : World} {x : RD} (h : Rel w x) (hb : Below w.heap.size w w') : Rel w' x :=
  ⟨h.rd.below hb, (hb.block _ h.ql).trans h.pl, h.by_.below' hb⟩
end Go.Proofs.Ytggaecmjadkopaa
