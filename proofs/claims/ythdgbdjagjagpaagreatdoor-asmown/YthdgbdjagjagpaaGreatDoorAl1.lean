/-
  Rows of instructions; the contracts of slices.Clone and slices.Equal of them (of rows that are alike). Conditions: lengths fit.
-/
import Derived.Test.YthdgbdjagjagpaaGreatDoorIn3
namespace Go.Proofs.YthdgbdjagjagpaaGreatDoor
open Go.RowKit
set_option maxRecDepth 20000

/-- An instruction. -/
structure Ix where
  p : Int
  op : Nat
  a : Int
  b : Int
/-- It lies in four cells. -/
structure IxAt (w : World) (b off : Nat) (x : Ix) : Prop where
  c0 : w.cell? ⟨b, off, none⟩ = some (.int .i64 x.p)
  c1 : w.cell? ⟨b, off + 1, none⟩ = some (.int .u8 (x.op : Int))
  c2 : w.cell? ⟨b, off + 2, none⟩ = some (.int .i64 x.a)
  c3 : w.cell? ⟨b, off + 3, none⟩ = some (.int .i64 x.b)
  ho : x.op < 256
def XsAt (w : World) (ao : Option Addr) (l : List Ix) : Prop := ∀ (i : Nat) x, l[i]? = some x → ∃ b off, ao = some ⟨b, off, none⟩ ∧ IxAt w b (off + i * 4) x
theorem IxAt.below {w w' : World} {b off : Nat} {x : Ix} (h : IxAt w b off x) (hb : Below w.heap.size w w') : IxAt w' b off x := by
  have hl := World.block_lt_of_cell? w _ h.c0
  exact ⟨(hb.cell (p := ⟨b, off, none⟩) hl).trans h.c0, (hb.cell (p := ⟨b, off + 1, none⟩) hl).trans h.c1, (hb.cell (p := ⟨b, off + 2, none⟩) hl).trans h.c2, (hb.cell (p := ⟨b, off + 3, none⟩) hl).trans h.c3, h.ho⟩
theorem XsAt.below {w w' : World} {ao : Option Addr} {l : List Ix} (h : XsAt w ao l) (hb : Below w.heap.size w w') : XsAt w' ao l := fun i x hx => by
  obtain ⟨b, off, e, hc⟩ := h i x hx
  exact ⟨b, off, e, hc.below hb⟩
theorem infoX : (Tryz.prog.info? 72).map (fun i => (i.zero, i.size, i.bytes)) = some (some (.agg #[.int .i64 0, .int .u8 0, .int .i64 0, .int .i64 0]), 4, 32) := by kernel_rfl

def xcells (x : Ix) : List Value := [.int .i64 x.p, .int .u8 (x.op : Int), .int .i64 x.a, .int .i64 x.b]
def xvals (l : List Ix) : List Value := l.flatMap xcells
theorem xvals_length (l : List Ix) : (xvals l).length = l.length * 4 := by
  unfold xvals
  induction l with
  | nil => rfl
  | cons f l ih => rw [List.flatMap_cons, List.length_append, ih]; simp [xcells]; omega
theorem xvals_one (l : List Ix) : ∀ u ∈ xvals l, u.oneCell' = true := by
  intro u hu
  unfold xvals at hu
  obtain ⟨f, _, hf⟩ := List.mem_flatMap.1 hu
  simp [xcells] at hf
  rcases hf with rfl | rfl | rfl | rfl <;> rfl
theorem xvals_get : ∀ {l : List Ix} {i : Nat} {f : Ix}, l[i]? = some f → (xvals l)[i * 4]? = some (.int .i64 f.p) ∧ (xvals l)[i * 4 + 1]? = some (.int .u8 (f.op : Int)) ∧ (xvals l)[i * 4 + 2]? = some (.int .i64 f.a) ∧ (xvals l)[i * 4 + 3]? = some (.int .i64 f.b)
  | [], i, f, h => by simp at h
  | g :: l, 0, f, h => by
    simp at h
    subst h
    unfold xvals
    rw [List.flatMap_cons]
    exact ⟨rfl, rfl, rfl, rfl⟩
  | g :: l, i + 1, f, h => by
    have h' : l[i]? = some f := by simpa using h
    obtain ⟨h1, h2, h3, h4⟩ := xvals_get h'
    unfold xvals at h1 h2 h3 h4 ⊢
    rw [List.flatMap_cons]
    refine ⟨?_, ?_, ?_, ?_⟩
    · rw [List.getElem?_append_right (by simp [xcells]; omega)]
      rw [← h1]; congr 1; simp [xcells]; omega
    · rw [List.getElem?_append_right (by simp [xcells]; omega)]
      rw [← h2]; congr 1; simp [xcells]; omega
    · rw [List.getElem?_append_right (by simp [xcells]; omega)]
      rw [← h3]; congr 1; simp [xcells]; omega
    · rw [List.getElem?_append_right (by simp [xcells]; omega)]
      rw [← h4]; congr 1; simp [xcells]; omega
theorem xcells_at {w : World} {b : Nat} : ∀ (fs : List Ix) (off : Nat), (∀ (i : Nat) f, fs[i]? = some f → IxAt w b (off + i * 4) f) → ∀ (j : Nat) u, (xvals fs)[j]? = some u → w.cell? ⟨b, off + j, none⟩ = some u
  | [], off, h, j, u, hu => by simp [xvals] at hu
  | f :: fs, off, h, j, u, hu => by
    have h0 := h 0 f rfl
    unfold xvals at hu
    rw [List.flatMap_cons] at hu
    match j with
    | 0 =>
      simp [xcells] at hu
      subst hu
      simpa using h0.c0
    | 1 =>
      simp [xcells] at hu
      subst hu
      simpa using h0.c1
    | 2 =>
      simp [xcells] at hu
      subst hu
      simpa using h0.c2
    | 3 =>
      simp [xcells] at hu
      subst hu
      simpa using h0.c3
    | j + 4 =>
      rw [List.getElem?_append_right (by simp [xcells])] at hu
      have := xcells_at fs (off + 4) (fun i g hg => by
        have := h (i + 1) g (by simpa using hg)
        rw [show off + (i + 1) * 4 = off + 4 + i * 4 from by omega] at this
        exact this) j u (by simpa [xcells, xvals] using hu)
      rw [show off + (j + 4) = off + 4 + j from by omega]
      exact this
def OwnX (w : World) (base : Nat) (v : Value) (l : List Ix) : Prop := w.ownsRow base 72 4 v l.length (xvals l)
theorem OwnX.at {w : World} {base : Nat} {v : Value} {l : List Ix} (h : OwnX w base v l) (hok : ∀ f ∈ l, f.op < 256) : ∃ ao cap, v = .slice ao l.length cap ∧ XsAt w ao l := by
  rcases h.2 with ⟨h1, h2⟩ | ⟨g, cap, cur, rfl, hb, hh, hn, hm, hs, ht⟩
  · obtain rfl := List.eq_nil_of_length_eq_zero h2
    exact ⟨none, 0, h1, fun i f hf => by simp at hf⟩
  · refine ⟨_, cap, rfl, fun i f hf => ⟨g, 0, rfl, ?_⟩⟩
    have hi := (List.getElem?_eq_some_iff.1 hf).1
    obtain ⟨h1, h2, h3, h4⟩ := xvals_get hf
    refine ⟨?_, ?_, ?_, ?_, hok f (List.mem_of_getElem? hf)⟩
    · rw [Nat.zero_add, h.cellAt (i * 4) (by omega)]; exact h1
    · rw [Nat.zero_add, h.cellAt (i * 4 + 1) (by omega)]; exact h2
    · rw [Nat.zero_add, h.cellAt (i * 4 + 2) (by omega)]; exact h3
    · rw [Nat.zero_add, h.cellAt (i * 4 + 3) (by omega)]; exact h4
theorem XsAt.ok {w : World} {ao : Option Addr} {l : List Ix} (h : XsAt w ao l) : ∀ f ∈ l, f.op < 256 := fun f hf => by
  obtain ⟨i, hi⟩ := List.mem_iff_getElem?.1 hf
  obtain ⟨_, _, _, hc⟩ := h i f hi
  exact hc.ho

end Go.Proofs.YthdgbdjagjagpaaGreatDoor
