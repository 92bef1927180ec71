/-
  Rows of things that hold rows: how they lie in a world, what keeps them, how a row of them is built by append. No Go in it.
-/
import Derived.Test.YtibgfdjopikafaaGreatDoorKBx0
import Derived.Deep.MidRow
import Derived.Deep.AppendLies
namespace Go.Proofs.YtibgfdjopikafaaGreatDoor
open Go.RowKit
set_option maxRecDepth 20000

/-- A kind of thing: its cells in a row, when it lies well in a world, and of which blocks its rows are. -/
structure Nd (α : Type) where
  t : TypeId
  s : Nat
  cells : α → List Value
  ok : World → α → Prop
  all : (Nat → Prop) → α → Prop
  pos : 0 < s
  len : ∀ x, (cells x).length = s
  below : ∀ {W W' : World} {x : α}, ok W x → Below W.heap.size W W' → ok W' x
  far : ∀ {W W' : World} {x : α} {k : Nat}, ok W x → W.grownBy W' (some k) → all (fun b => b ≠ k) x → ok W' x
  lt : ∀ {W : World} {x : α}, ok W x → all (fun b => b < W.heap.size) x
  mono : ∀ {P Q : Nat → Prop} {x : α}, (∀ b, P b → Q b) → all P x → all Q x
def RowAt {α : Type} (N : Nd α) (W : World) (ao : Option Addr) (L : List α) : Prop := ∀ i y, L[i]? = some y → ∃ b off, ao = some ⟨b, off, none⟩ ∧ W.rangeAt b (off + i * N.s) (N.cells y) ∧ N.ok W y
def RowAll {α : Type} (N : Nd α) (P : Nat → Prop) (ao : Option Addr) (L : List α) : Prop := (∀ b off, ao = some ⟨b, off, none⟩ → 0 < L.length → P b) ∧ ∀ y ∈ L, N.all P y
theorem range_lt {W : World} {b o : Nat} {cs : List Value} (h : W.rangeAt b o cs) (hp : 0 < cs.length) : b < W.heap.size :=
  World.block_lt_of_cell? W _ (h 0 _ (List.getElem?_eq_getElem hp))
theorem range_below {W W' : World} {b o : Nat} {cs : List Value} (h : W.rangeAt b o cs) (hb : Below W.heap.size W W') : W'.rangeAt b o cs := fun j v hv => by
  have hl := range_lt h (by have := (List.getElem?_eq_some_iff.1 hv).1; omega)
  exact (hb.cell (p := ⟨b, o + j, none⟩) hl).trans (h j v hv)
theorem range_far {W W' : World} {b o k : Nat} {cs : List Value} (h : W.rangeAt b o cs) (hg : W.grownBy W' (some k)) (hne : b ≠ k) : W'.rangeAt b o cs := fun j v hv => by
  have hl := range_lt h (by have := (List.getElem?_eq_some_iff.1 hv).1; omega)
  exact (hg.cell_far ⟨b, o + j, none⟩ hl (fun e => hne (by injection e))).trans (h j v hv)
theorem RowAt.below {α : Type} {N : Nd α} {W W' : World} {ao : Option Addr} {L : List α} (h : RowAt N W ao L) (hb : Below W.heap.size W W') : RowAt N W' ao L := fun i y hy => by
  obtain ⟨b, off, e, h1, h2⟩ := h i y hy
  exact ⟨b, off, e, range_below h1 hb, N.below h2 hb⟩
theorem RowAt.far {α : Type} {N : Nd α} {W W' : World} {ao : Option Addr} {L : List α} {k : Nat} (h : RowAt N W ao L) (hg : W.grownBy W' (some k)) (hn : RowAll N (fun b => b ≠ k) ao L) : RowAt N W' ao L := fun i y hy => by
  obtain ⟨b, off, e, h1, h2⟩ := h i y hy
  have hi := (List.getElem?_eq_some_iff.1 hy).1
  exact ⟨b, off, e, range_far h1 hg (hn.1 b off e (by omega)), N.far h2 hg (hn.2 y (List.mem_of_getElem? hy))⟩
theorem RowAt.lt {α : Type} {N : Nd α} {W : World} {ao : Option Addr} {L : List α} (h : RowAt N W ao L) : RowAll N (fun b => b < W.heap.size) ao L := by
  refine ⟨fun b off e hl => ?_, fun y hy => ?_⟩
  · obtain ⟨b', off', e', h1, _⟩ := h 0 _ (List.getElem?_eq_getElem hl)
    rw [e] at e'
    injection e' with e'
    injection e' with e1 e2
    subst e1
    exact range_lt h1 (by rw [N.len]; exact N.pos)
  · obtain ⟨i, hi, e⟩ := List.mem_iff_getElem.1 hy
    obtain ⟨_, _, _, _, h2⟩ := h i y (by rw [← e]; exact List.getElem?_eq_getElem hi)
    exact N.lt h2
theorem RowAll.mono {α : Type} {N : Nd α} {P Q : Nat → Prop} {ao : Option Addr} {L : List α} (hq : ∀ b, P b → Q b) (h : RowAll N P ao L) : RowAll N Q ao L :=
  ⟨fun b off e hl => hq b (h.1 b off e hl), fun y hy => N.mono hq (h.2 y hy)⟩
theorem RowAt.nil {α : Type} (N : Nd α) (W : World) (ao : Option Addr) : RowAt N W ao [] := fun i y h => by simp at h

/-! ### A row that is being built -/
def vals {α : Type} (N : Nd α) (M : List α) : List Value := M.flatMap N.cells
theorem vals_length {α : Type} (N : Nd α) (M : List α) : (vals N M).length = M.length * N.s := by
  unfold vals
  induction M with
  | nil => simp
  | cons x l ih => rw [List.flatMap_cons, List.length_append, ih, N.len, List.length_cons, Nat.add_mul]; omega
theorem vals_snoc {α : Type} (N : Nd α) (M : List α) (y : α) : vals N (M ++ [y]) = vals N M ++ N.cells y := by unfold vals; simp
theorem vals_get {α : Type} (N : Nd α) : ∀ {l : List α} {i : Nat} {x : α}, l[i]? = some x → ∀ j, j < N.s → (vals N l)[i * N.s + j]? = (N.cells x)[j]?
  | [], i, x, h, _, _ => by simp at h
  | g :: l, 0, x, h, j, hj => by
    simp at h
    subst h
    unfold vals
    rw [List.flatMap_cons, List.getElem?_append_left (by rw [N.len]; omega)]
    simp
  | g :: l, i + 1, x, h, j, hj => by
    have h' : l[i]? = some x := by simpa using h
    have h1 := vals_get N h' j hj
    unfold vals at h1 ⊢
    rw [List.flatMap_cons, List.getElem?_append_right (by rw [N.len, Nat.add_mul]; omega), ← h1, N.len, Nat.add_mul]
    congr 1; omega
structure Bld {α : Type} (N : Nd α) (W : World) (base : Nat) (v : Value) (M : List α) : Prop where
  own : W.ownsRow base N.t N.s v M.length (vals N M)
  ok : ∀ y ∈ M, N.ok W y
  lo : ∀ y ∈ M, N.all (fun b => base ≤ b) y
  ne : ∀ g, v.ownBlock = some g → ∀ y ∈ M, N.all (fun b => b ≠ g) y
theorem Bld.nil {α : Type} (N : Nd α) (W : World) (base : Nat) : Bld N W base (.slice none 0 0) [] := ⟨World.ownsRow_nil _ _ _ _, fun y h => (by cases h), fun y h => (by cases h), fun _ _ y h => (by cases h)⟩
theorem Bld.slice {α : Type} {N : Nd α} {W : World} {base : Nat} {v : Value} {M : List α} (h : Bld N W base v M) : ∃ va vc, v = .slice va M.length vc := by
  rcases h.own.2 with ⟨h1, h2⟩ | ⟨g, cap, cur, rfl, _⟩
  · exact ⟨none, 0, by rw [h1, h2]⟩
  · exact ⟨_, _, rfl⟩
theorem Bld.below {α : Type} {N : Nd α} {W W' : World} {base : Nat} {v : Value} {M : List α} (h : Bld N W base v M) (hb : Below W.heap.size W W') : Bld N W' base v M := ⟨rowBelow h.own hb, fun y hy => N.below (h.ok y hy) hb, h.lo, h.ne⟩
theorem Bld.box {α : Type} {N : Nd α} {W W' : World} {base k : Nat} {v : Value} {M : List α} (h : Bld N W base v M) (hg : W.grownBy W' (some k)) (hk : k < base) : Bld N W' base v M :=
  ⟨rows_grownG h.own hg (fun q e e2 => by have := (World.ownsRow.lt h.own q e).1; injection e2 with e2; omega), fun y hy => N.far (h.ok y hy) hg (N.mono (fun b hb => by omega) (h.lo y hy)), h.lo, h.ne⟩
theorem Bld.out {α : Type} {N : Nd α} {W : World} {base : Nat} {v : Value} {M : List α} (h : Bld N W base v M) : ∃ ao cap, v = .slice ao M.length cap ∧ RowAt N W ao M ∧ RowAll N (fun b => base ≤ b) ao M ∧ (ao = none → M = []) := by
  rcases h.own.2 with ⟨h1, h2⟩ | ⟨g, cap, cur, rfl, hb, hh, hn, hm, hsz, ht⟩
  · have := List.eq_nil_of_length_eq_zero h2
    subst this
    exact ⟨none, 0, h1, RowAt.nil _ _ _, ⟨fun b off e => (by cases e), fun y hy => (by cases hy)⟩, fun _ => rfl⟩
  · refine ⟨_, cap, rfl, fun i y hy => ⟨g, 0, rfl, fun j u hu => ?_, h.ok y (List.mem_of_getElem? hy)⟩, ⟨fun b off e _ => ?_, h.lo⟩, fun e => by cases e⟩
    · have hi := (List.getElem?_eq_some_iff.1 hy).1
      have hj := (List.getElem?_eq_some_iff.1 hu).1
      rw [N.len] at hj
      have hmul : (i + 1) * N.s ≤ M.length * N.s := Nat.mul_le_mul_right _ hi
      rw [Nat.add_mul] at hmul
      rw [show 0 + i * N.s + j = i * N.s + j by omega, World.ownsRow.cellAt h.own (i * N.s + j) (by omega), vals_get N hy j hj]
      exact hu
    · injection e with e
      injection e with e1 e2
      omega
theorem Bld.step {α : Type} {N : Nd α} {W w2 w3 : World} {base : Nat} {v : Value} {M : List α} {y : α} {obj : Obj} {g3 cap3 : Nat} (h : Bld N W base v M) (hB : Below W.heap.size W w2) (hy : N.ok w2 y) (hlo : N.all (fun b => W.heap.size ≤ b) y) (hbase : base ≤ W.heap.size) (hown : w3.ownsRow base N.t N.s (.slice (some ⟨g3, 0, none⟩) (M.length + 1) cap3) (M.length + 1) (vals N M ++ N.cells y)) (hg : (w2.alloc obj).grownBy w3 v.ownBlock) (hat : v.ownBlock = some g3 ∨ g3 = w2.heap.size + 1) : Bld N w3 base (.slice (some ⟨g3, 0, none⟩) (M.length + 1) cap3) (M ++ [y]) := by
  have hB3 : Below W.heap.size W (w2.alloc obj) := hB.alloc hB.size _
  have hal : Below w2.heap.size w2 (w2.alloc obj) := (Below.refl _ _).alloc (Nat.le_refl _) _
  have hfar : ∀ x, N.ok (w2.alloc obj) x → (∀ g, v.ownBlock = some g → N.all (fun b => b ≠ g) x) → N.ok w3 x := fun x hx hne => by
    cases hv : v.ownBlock with
    | none => rw [hv] at hg; exact N.below hx ⟨hg.os, hg.tape, hg.output, hg.size, fun k hk => hg.block k hk (by simp)⟩
    | some g => rw [hv] at hg; exact N.far hx hg (hne g hv)
  have hyne : ∀ g, v.ownBlock = some g → N.all (fun b => b ≠ g) y := fun g e => N.mono (fun b hb => by have := (World.ownsRow.lt h.own g e).2; omega) hlo
  have hne3 : ∀ x, N.ok w2 x → (∀ g, v.ownBlock = some g → N.all (fun b => b ≠ g) x) → N.all (fun b => b ≠ g3) x := fun x hx hne => by
    rcases hat with e | e
    · exact hne g3 e
    · exact N.mono (fun b hb => by omega) (N.lt hx)
  refine ⟨?_, ?_, ?_, ?_⟩
  · rw [vals_snoc, List.length_append]; exact hown
  · intro x hx
    rcases List.mem_append.1 hx with hx | hx
    · exact hfar x (N.below (h.ok x hx) hB3) (fun g e => h.ne g e x hx)
    · rw [List.mem_singleton] at hx
      subst hx
      exact hfar x (N.below hy hal) hyne
  · intro x hx
    rcases List.mem_append.1 hx with hx | hx
    · exact h.lo x hx
    · rw [List.mem_singleton] at hx
      subst hx
      exact N.mono (fun b hb => by omega) hlo
  · intro g e x hx
    have e' : g3 = g := by injection e
    subst e'
    rcases List.mem_append.1 hx with hx | hx
    · exact hne3 x (N.below (h.ok x hx) hB) (fun g e => h.ne g e x hx)
    · rw [List.mem_singleton] at hx
      subst hx
      exact hne3 x hy hyne
/-- Two lists, thing by thing. -/
def Two {α : Type} (R : α → α → Prop) (L M : List α) : Prop := M.length = L.length ∧ ∀ (i : Nat) x y, L[i]? = some x → M[i]? = some y → R x y
def twoB {α : Type} (e : α → α → Bool) (L M : List α) : Bool := decide (L.length = M.length) && (L.zip M).all fun p => e p.1 p.2
theorem twoB_len {α : Type} {e : α → α → Bool} {L M : List α} (h : L.length ≠ M.length) : twoB e L M = false := by unfold twoB; simp [h]
theorem twoB_no {α : Type} {e : α → α → Bool} {L M : List α} {j : Nat} {x y : α} (ha : L[j]? = some x) (hb : M[j]? = some y) (h : e x y = false) : twoB e L M = false := by
  unfold twoB
  have : ((L.zip M).all fun p => e p.1 p.2) = false := by
    rw [List.all_eq_false]
    refine ⟨(x, y), List.mem_of_getElem? (i := j) ?_, by rw [h]; simp⟩
    rw [List.getElem?_zip_eq_some]
    exact ⟨ha, hb⟩
  rw [this, Bool.and_false]
theorem twoB_yes {α : Type} {e : α → α → Bool} {L M : List α} (hl : L.length = M.length) (h : ∀ (j : Nat) x y, L[j]? = some x → M[j]? = some y → e x y = true) : twoB e L M = true := by
  unfold twoB
  have : ((L.zip M).all fun p => e p.1 p.2) = true := by
    rw [List.all_eq_true]
    intro p hp
    obtain ⟨j, hj, e1⟩ := List.mem_iff_getElem.1 hp
    have e2 := List.getElem?_eq_getElem hj
    rw [e1, List.getElem?_zip_eq_some] at e2
    exact h j p.1 p.2 e2.1 e2.2
  rw [this]; simp [hl]
theorem twoB_refl {α : Type} {e : α → α → Bool} (h : ∀ x, e x x = true) (L : List α) : twoB e L L = true :=
  twoB_yes rfl (fun j x y h1 h2 => by rw [h1] at h2; injection h2 with h2; rw [h2]; exact h y)
/-- Copies make no odds. -/
theorem twoB_same {α : Type} {e : α → α → Bool} {R : α → α → Prop} (h : ∀ a b x y, R a x → R b y → e x y = e a b) {L M X Y : List α} (hx : Two R L X) (hy : Two R M Y) : twoB e X Y = twoB e L M := by
  by_cases hl : L.length = M.length
  · cases hv : twoB e L M
    · have : ¬ ∀ (j : Nat) x y, L[j]? = some x → M[j]? = some y → e x y = true := fun hh => by rw [twoB_yes hl hh] at hv; cases hv
      rw [Classical.not_forall] at this
      obtain ⟨j, this⟩ := this
      rw [Classical.not_forall] at this
      obtain ⟨a, this⟩ := this
      rw [Classical.not_forall] at this
      obtain ⟨b, this⟩ := this
      rw [Classical.not_imp, Classical.not_imp] at this
      obtain ⟨ha, hb, hn⟩ := this
      have ha' := (List.getElem?_eq_some_iff.1 ha).1
      have hb' := (List.getElem?_eq_some_iff.1 hb).1
      have hxj := List.getElem?_eq_getElem (show j < X.length by rw [hx.1]; exact ha')
      have hyj := List.getElem?_eq_getElem (show j < Y.length by rw [hy.1]; exact hb')
      exact twoB_no hxj hyj (by rw [h a b _ _ (hx.2 j _ _ ha hxj) (hy.2 j _ _ hb hyj)]; simpa using hn)
    · refine twoB_yes (by rw [hx.1, hy.1]; exact hl) (fun j x y h1 h2 => ?_)
      have h1' := (List.getElem?_eq_some_iff.1 h1).1
      have h2' := (List.getElem?_eq_some_iff.1 h2).1
      have haj := List.getElem?_eq_getElem (show j < L.length by rw [← hx.1]; exact h1')
      have hbj := List.getElem?_eq_getElem (show j < M.length by rw [← hy.1]; exact h2')
      rw [h _ _ _ _ (hx.2 j _ _ haj h1) (hy.2 j _ _ hbj h2)]
      generalize L[j]'(by rw [← hx.1]; exact h1') = a at haj ⊢
      generalize M[j]'(by rw [← hy.1]; exact h2') = b at hbj ⊢
      cases he : e a b
      · rw [twoB_no haj hbj he] at hv; cases hv
      · rfl
  · rw [twoB_len hl, twoB_len (by rw [hx.1, hy.1]; exact hl)]
end Go.Proofs.YtibgfdjopikafaaGreatDoor
