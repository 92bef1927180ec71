/-
  provisoplain.Program: a program's copy in memory of its own; its records. Conditions: lengths fit.
-/
import Derived.Test.YtjccomjgmejnhaaKTr8
import Derived.Test.YtjccomjgmejnhaaKTr11
namespace Go.Proofs.Ytjccomjgmejnhaa
open Go.RowKit

theorem infoRc : (Try.prog.info? 30).map (fun i => (i.zero, i.size, i.bytes)) = some (some (.agg #[.int .i64 0, .string ⟨#[]⟩, .string ⟨#[]⟩, .slice none 0 0]), 4, 64) := by kernel_rfl
theorem infoFu : (Try.prog.info? 37).map (fun i => (i.zero, i.size, i.bytes)) = some (some (.agg #[.int .i64 0, .string ⟨#[]⟩, .string ⟨#[]⟩, .slice none 0 0, .slice none 0 0, .int .u8 0, .int .i64 0]), 7, 104) := by kernel_rfl
theorem rcC_one (y : Rcd) : ∀ u ∈ rcC y, u.oneCell' = true := by
  intro u hu
  simp only [rcC, List.mem_cons, List.mem_nil_iff, or_false] at hu
  rcases hu with rfl | rfl | rfl | rfl <;> rfl
theorem fuC_one (y : Fu) : ∀ u ∈ fuC y, u.oneCell' = true := by
  intro u hu
  simp only [fuC, List.mem_cons, List.mem_nil_iff, or_false] at hu
  rcases hu with rfl | rfl | rfl | rfl | rfl | rfl | rfl <;> rfl
/-- The boxes: what came in, the answer's, the one in which it is built. -/
structure GRun (w wr : World) (p : Pg) (v1 v2 : Value) : Prop where
  par : Bx wr w.heap.size 25 #[.slice p.ra p.R.length p.rc, .slice p.ua p.U.length p.uc]
  old : Bx wr (w.heap.size + 1) 25 #[.slice none 0 0, .slice none 0 0]
  out : Bx wr (w.heap.size + 2) 25 #[v1, v2]
  bel : Below w.heap.size w wr
theorem GRun.below {w wr w' : World} {p : Pg} {v1 v2 : Value} (h : GRun w wr p v1 v2) (hb : Below wr.heap.size wr w') : GRun w w' p v1 v2 := ⟨h.par.below hb, h.old.below hb, h.out.below hb, h.bel.trans (hb.mono h.bel.size)⟩
theorem GRun.grown {w wr w' : World} {p : Pg} {v1 v2 : Value} {row : Option Nat} (h : GRun w wr p v1 v2) (hg : wr.grownBy w' row) (hr : ∀ q, row = some q → w.heap.size + 3 ≤ q) : GRun w w' p v1 v2 :=
  ⟨h.par.grown hg (fun e => by have := hr _ e; omega), h.old.grown hg (fun e => by have := hr _ e; omega), h.out.grown hg (fun e => by have := hr _ e; omega), h.bel.grown hg h.bel.size (fun q e => by have := hr q e; omega)⟩
theorem GRun.set0 {w wr : World} {p : Pg} {v1 v2 : Value} (h : GRun w wr p v1 v2) (v : Value) : GRun w (wr.setCell ⟨w.heap.size + 2, 0, none⟩ v) p v v2 :=
  ⟨h.par.other ⟨w.heap.size + 2, 0, none⟩ v (by simp), h.old.other ⟨w.heap.size + 2, 0, none⟩ v (by simp), h.out.set 0 v rfl, h.bel.setCell (p := ⟨w.heap.size + 2, 0, none⟩) (by show w.heap.size ≤ w.heap.size + 2; omega) v⟩
theorem GRun.set1 {w wr : World} {p : Pg} {v1 v2 : Value} (h : GRun w wr p v1 v2) (v : Value) : GRun w (wr.setCell ⟨w.heap.size + 2, 1, none⟩ v) p v1 v :=
  ⟨h.par.other ⟨w.heap.size + 2, 1, none⟩ v (by simp), h.old.other ⟨w.heap.size + 2, 1, none⟩ v (by simp), h.out.set 1 v rfl, h.bel.setCell (p := ⟨w.heap.size + 2, 1, none⟩) (by show w.heap.size ≤ w.heap.size + 2; omega) v⟩
theorem snoc_two {α : Type} {R : α → α → Prop} {L M : List α} {x y : α} (h : ∀ (i : Nat) a b, L[i]? = some a → M[i]? = some b → R a b) (hx : L[M.length]? = some x) (hr : R x y) : ∀ (i : Nat) a b, L[i]? = some a → (M ++ [y])[i]? = some b → R a b := by
  intro i a b ha hb
  by_cases e : i < M.length
  · rw [List.getElem?_append_left e] at hb
    exact h i a b ha hb
  · rw [List.getElem?_append_right (by omega)] at hb
    have e2 : i - M.length = 0 := by
      have := (List.getElem?_eq_some_iff.1 hb).1
      simp at this
      omega
    rw [e2] at hb
    simp at hb
    subst hb
    have e3 : i = M.length := by omega
    subst e3
    rw [hx] at ha
    injection ha with ha
    subst ha
    exact hr
end Go.Proofs.Ytjccomjgmejnhaa
