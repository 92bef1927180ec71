/-
  Texts of contracts and plain lemmas, one behind another; each says at its head what it holds.
-/
import Derived.Test.YtgelbihdcfgjcaaDoorCls
import Derived.Laws.AppendOwnNone
import Derived.RangeFuncNested
import Derived.RangeFuncBound
import Derived.RangeFuncCalls
import Derived.RangeFuncLeaves
import Derived.Shelf.Abstract
import Derived.Shelf.RegionOpen
import Derived.WalkKit
import Derived.OwnWalkIn
import Derived.TacticsInMore
import Derived.LoopNIn
import Derived.LoopIn
import Derived.RangeFuncFrom
import Derived.Sort.QuietIn
import Derived.Stop.RegionWithIn
import Derived.Maps.AppendAt
/-
  Contracts of provisoref02's Line and Fields: what the plain functions 'lineD' and 'fieldsD' say, in new memory. Conditions: the table fits; of Fields, that there are at most a million of them.
-/
namespace Go.Proofs.YtgelbihdcfgjcaaDoor
open Go.RowKit
set_option maxRecDepth 20000

/-! ### Rows of numbers, rows of fields, of one's own -/
def ivals (l : List Nat) : List Value := l.map fun (x : Nat) => Value.int .i64 (x : Int)
def OwnI (w : World) (base : Nat) (v : Value) (l : List Nat) : Prop := w.ownsRow base 3 1 v l.length (ivals l)
theorem infoI : (Tryd.prog.info? 3).map (fun i => (i.zero, i.size, i.bytes)) = some (some (.int .i64 0), 1, 8) := by kernel_rfl
theorem infoF : (Tryd.prog.info? 56).map (fun i => (i.zero, i.size, i.bytes)) = some (some (.agg #[.string ⟨#[]⟩, .int .u8 0]), 2, 24) := by kernel_rfl

theorem OwnI.shape {w : World} {base : Nat} {v : Value} {l : List Nat} (h : OwnI w base v l) :
    (v = .slice none 0 0 ∧ l = []) ∨ ∃ g cap, v = .slice (some ⟨g, 0, none⟩) l.length cap ∧ base ≤ g ∧ g < w.heap.size ∧ ∀ (i x : Nat), l[i]? = some x → w.cell? ⟨g, i, none⟩ = some (.int .i64 (x : Int)) := by
  rcases h.2 with ⟨h1, h2⟩ | ⟨g, cap, cur, hv, hb, hh, hn, hm, hs, ht⟩
  · exact Or.inl ⟨h1, List.eq_nil_of_length_eq_zero h2⟩
  · refine Or.inr ⟨g, cap, hv, hb, (Array.getElem?_eq_some_iff.1 hh).1, fun i x hx => ?_⟩
    have h' : w.ownsRow base 3 1 (.slice (some ⟨g, 0, none⟩) l.length cap) l.length (ivals l) := hv ▸ h
    have hi := (List.getElem?_eq_some_iff.1 hx).1
    rw [h'.cellAt i (by omega)]
    unfold ivals
    rw [List.getElem?_map, hx]
    rfl
theorem OwnI.slice {w : World} {base : Nat} {v : Value} {l : List Nat} (h : OwnI w base v l) : ∃ ao cap, v = .slice ao l.length cap ∧ ∀ (i x : Nat), l[i]? = some x → ∃ g, ao = some ⟨g, 0, none⟩ ∧ w.cell? ⟨g, i, none⟩ = some (.int .i64 (x : Int)) := by
  rcases h.shape with ⟨rfl, rfl⟩ | ⟨g, cap, rfl, _, _, hc⟩
  · exact ⟨none, 0, rfl, fun i x hx => by simp at hx⟩
  · exact ⟨_, cap, rfl, fun i x hx => ⟨g, rfl, hc i x hx⟩⟩
theorem rowBelow {w w' : World} {base : Nat} {t : TypeId} {s : Nat} {v : Value} {n : Nat} {cs : List Value} (h : w.ownsRow base t s v n cs) (hb : Below w.heap.size w w') : w'.ownsRow base t s v n cs := by
  refine ⟨h.1, ?_⟩
  rcases h.2 with h1 | ⟨g, cap, cur, hv, hbg, hh, r⟩
  · exact Or.inl h1
  · exact Or.inr ⟨g, cap, cur, hv, hbg, by rw [hb.block g (Array.getElem?_eq_some_iff.1 hh).1]; exact hh, r⟩

def fcells (f : Fl) : List Value := [.string f.nm, .int .u8 (f.ty : Int)]
def fvals (l : List Fl) : List Value := l.flatMap fcells
theorem fvals_length (l : List Fl) : (fvals l).length = l.length * 2 := by
  unfold fvals
  induction l with
  | nil => rfl
  | cons f l ih => rw [List.flatMap_cons, List.length_append, ih]; simp [fcells]; omega
theorem fvals_append (l m : List Fl) : fvals (l ++ m) = fvals l ++ fvals m := by unfold fvals; simp
theorem fvals_one (l : List Fl) : ∀ u ∈ fvals l, u.oneCell' = true := by
  intro u hu
  unfold fvals at hu
  obtain ⟨f, _, hf⟩ := List.mem_flatMap.1 hu
  simp [fcells] at hf
  rcases hf with rfl | rfl <;> rfl
theorem fvals_get : ∀ {l : List Fl} {i : Nat} {f : Fl}, l[i]? = some f → (fvals l)[i * 2]? = some (.string f.nm) ∧ (fvals l)[i * 2 + 1]? = some (.int .u8 (f.ty : Int))
  | [], i, f, h => by simp at h
  | g :: l, 0, f, h => by
    simp at h
    subst h
    unfold fvals
    rw [List.flatMap_cons]
    exact ⟨rfl, rfl⟩
  | g :: l, i + 1, f, h => by
    have h' : l[i]? = some f := by simpa using h
    obtain ⟨h1, h2⟩ := fvals_get h'
    unfold fvals at h1 h2 ⊢
    rw [List.flatMap_cons]
    constructor
    · rw [List.getElem?_append_right (by simp [fcells]; omega)]
      rw [← h1]; congr 1; simp [fcells]; omega
    · rw [List.getElem?_append_right (by simp [fcells]; omega)]
      rw [← h2]; congr 1; simp [fcells]; omega
theorem fcells_at {w : World} {b : Nat} : ∀ (fs : List Fl) (off : Nat), (∀ (i : Nat) f, fs[i]? = some f → FlAt w b (off + i * 2) f) → ∀ (j : Nat) u, (fvals fs)[j]? = some u → w.cell? ⟨b, off + j, none⟩ = some u
  | [], off, h, j, u, hu => by simp [fvals] at hu
  | f :: fs, off, h, j, u, hu => by
    have h0 := h 0 f rfl
    unfold fvals at hu
    rw [List.flatMap_cons] at hu
    match j with
    | 0 =>
      simp [fcells] at hu
      subst hu
      simpa using h0.c0
    | 1 =>
      simp [fcells] at hu
      subst hu
      simpa using h0.c1
    | j + 2 =>
      rw [List.getElem?_append_right (by simp [fcells])] at hu
      have := fcells_at fs (off + 2) (fun i g hg => by
        have := h (i + 1) g (by simpa using hg)
        rw [show off + (i + 1) * 2 = off + 2 + i * 2 from by omega] at this
        exact this) j u (by simpa [fcells, fvals] using hu)
      rw [show off + (j + 2) = off + 2 + j from by omega]
      exact this

def OwnF (w : World) (base : Nat) (v : Value) (l : List Fl) : Prop := w.ownsRow base 56 2 v l.length (fvals l)
/-- What a field must keep to. -/
def FlOk (f : Fl) : Prop := f.nm.size ≤ 140737488351232 ∧ f.ty < 256
theorem OwnF.at {w : World} {base : Nat} {v : Value} {l : List Fl} (h : OwnF w base v l) (hok : ∀ f ∈ l, FlOk f) : ∃ ao cap, v = .slice ao l.length cap ∧ FsAt w ao l ∧ (ao = none → l = [] ∧ cap = 0) ∧ l.length ≤ cap := by
  rcases h.2 with ⟨h1, h2⟩ | ⟨g, cap, cur, rfl, hb, hh, hn, hm, hs, ht⟩
  · obtain rfl := List.eq_nil_of_length_eq_zero h2
    exact ⟨none, 0, h1, fun i f hf => by simp at hf, fun _ => ⟨rfl, rfl⟩, Nat.le_refl _⟩
  · refine ⟨_, cap, rfl, fun i f hf => ⟨g, 0, rfl, ?_⟩, fun e => (by cases e), hn⟩
    have hi := (List.getElem?_eq_some_iff.1 hf).1
    obtain ⟨h1, h2⟩ := fvals_get hf
    have hf' := hok f (List.mem_of_getElem? hf)
    refine ⟨?_, ?_, hf'.1, hf'.2⟩
    · rw [Nat.zero_add, h.cellAt (i * 2) (by omega)]; exact h1
    · rw [Nat.zero_add, h.cellAt (i * 2 + 1) (by omega)]; exact h2

/-! ### Lines -/
theorem lineR_lt (T : List Cl) : ∀ (k : Nat) (c : Int), ∀ x ∈ lineR T k c, x < T.length
  | 0, c, x, h => by simp [lineR] at h
  | k + 1, c, x, h => by
    unfold lineR at h
    by_cases hc : 0 ≤ c ∧ c < (T.length : Int)
    · rw [if_pos hc, List.mem_cons] at h
      rcases h with h | h
      · omega
      · exact lineR_lt T k _ x h
    · rw [if_neg hc] at h
      simp at h
theorem lineR_out {T : List Cl} {c : Int} (k : Nat) (h : ¬ (0 ≤ c ∧ c < (T.length : Int))) : lineR T k c = [] := by
  cases k with
  | zero => rfl
  | succ k => unfold lineR; rw [if_neg h]
theorem lineR_in {T : List Cl} {c : Nat} (k : Nat) (h : c < T.length) : lineR T (k + 1) (c : Int) = c :: lineR T k (parD T c) := by
  rw [lineR, if_pos (by omega)]
  simp
theorem parD_at {T : List Cl} {c : Nat} {x : Cl} (h : T[c]? = some x) : parD T c = x.par := by unfold parD; rw [h]
theorem fsD_at {T : List Cl} {c : Nat} {x : Cl} (h : T[c]? = some x) : fsD T c = x.fs := by unfold fsD; rw [h]

theorem cell_one_newI (w : World) (x : Value) (t : TypeId) : ∀ (j : Nat) u, [x][j]? = some u → (w.alloc (.cells #[x] t)).cell? ((⟨w.heap.size, 0, none⟩ : Addr).add j) = some u := by
  intro j u hj
  match j, hj with
  | 0, hj =>
    simp at hj
    subst hj
    simp [Addr.add]

end Go.Proofs.YtgelbihdcfgjcaaDoor

/-
  Contracts of types.line and of the function that it makes: a class, its parent, and so on, while parents stand ahead. Conditions: the table fits; of a round, that it leaves the table and the box that holds it.
-/
namespace Go.Proofs.YtgelbihdcfgjcaaDoor
open Go.RowKit Go.Shelf
set_option maxRecDepth 20000
attribute [local go_sem] Oper.semAt_some

/-- The line of a class, while each one stands ahead of the one before. -/
def lineB (T : List Cl) (bel : Nat) (at_ : Int) : List Nat :=
  if _h : 0 ≤ at_ ∧ at_ < (bel : Int) then at_.toNat :: lineB T at_.toNat (parD T at_.toNat) else []
termination_by bel
decreasing_by omega

theorem lineB_in {T : List Cl} {bel k : Nat} (h : k < bel) : lineB T bel (k : Int) = k :: lineB T k (parD T k) := by
  rw [lineB, dif_pos (by omega)]
  simp
theorem lineB_out {T : List Cl} {bel : Nat} {c : Int} (h : ¬ (0 ≤ c ∧ c < (bel : Int))) : lineB T bel c = [] := by
  rw [lineB, dif_neg h]

/-- What a round that goes on keeps. -/
def KeepsL (n₀ Bl : Nat) (W W' : World) : Prop := Below n₀ W W' ∧ W'.heap[Bl]? = W.heap[Bl]?
theorem keepsL_t {n₀ Bl : Nat} {A B C : World} (h : KeepsL n₀ Bl A B) (k : KeepsL n₀ Bl B C) : KeepsL n₀ Bl A C := ⟨h.1.trans k.1, k.2.trans h.2⟩
theorem keepsL_b {n₀ Bl : Nat} {w : World} (hn : n₀ ≤ w.heap.size) (hl : Bl < w.heap.size) (W : World) (l : Nat) (o o' : Obj) (hw : w.heap.size ≤ l) (h : W.heap[l]? = some o) (h1 : o.isCells = false) (h2 : o.isWalk = false) : KeepsL n₀ Bl W (W.putObj l o') := by
  refine ⟨belowK_b hn W l o o' hw h h1 h2, ?_⟩
  have := (grownBy_putObj' W l o').block Bl (by have := (Array.getElem?_eq_some_iff.1 h).1; omega) (fun e => by injection e with e; omega)
  exact this

end Go.Proofs.YtgelbihdcfgjcaaDoor

/-
  Contracts of provisoref02's word, isWord, Valid, Stored and has: each answers what the plain function says, in the same world. Conditions: a type is a byte; the fields fit.
-/
namespace Go.Proofs.YtgelbihdcfgjcaaDoor
open Go.RowKit
set_option maxRecDepth 20000

def wordD : Nat → ByteArray
  | 0 => ⟨#[116, 111, 112]⟩
  | 1 => ⟨#[105, 110, 116]⟩
  | 2 => ⟨#[98, 111, 111, 108]⟩
  | 3 => ⟨#[110, 117, 108, 108]⟩
  | 4 => ⟨#[105, 110, 116, 115]⟩
  | 5 => ⟨#[97, 110, 121]⟩
  | _ => ⟨#[]⟩
def isWordD (s : ByteArray) : Bool := (List.range 6).any fun t => (wordD t).toList == s.toList

theorem validD_lo {n t : Nat} (h : t ≤ 5) : validD n t = true := decide_eq_true (Or.inl h)
theorem validD_hi {n t : Nat} (h1 : 16 ≤ t) (h2 : t - 16 < n) : validD n t = true := decide_eq_true (Or.inr ⟨h1, h2⟩)
theorem validD_no {n t : Nat} (h1 : ¬ t ≤ 5) (h2 : ¬ (16 ≤ t ∧ t - 16 < n)) : validD n t = false := decide_eq_false (fun h => by omega)

theorem hasD_snoc {fs : List Fl} {k : Nat} (s : ByteArray) (h : k < fs.length) : hasD (fs.take (k + 1)) s = (hasD (fs.take k) s || (fs[k].nm.toList == s.toList)) := by
  unfold hasD
  rw [← List.take_append_getElem h, List.any_append]
  simp
theorem hasD_found {fs : List Fl} {k : Nat} {s : ByteArray} (h : k < fs.length) (hb : (fs[k].nm.toList == s.toList) = true) : hasD fs s = true := by
  unfold hasD
  rw [List.any_eq_true]
  exact ⟨_, List.getElem_mem h, hb⟩

end Go.Proofs.YtgelbihdcfgjcaaDoor

/-
  Contracts of types.classOf, isClass, Valid, IsRef, inLine and Sub: each answers what the plain function says; nothing old is turned. Conditions: a type is a byte; the table fits.
-/
namespace Go.Proofs.YtgelbihdcfgjcaaDoor
open Go.RowKit Go.Shelf
set_option maxRecDepth 20000
attribute [local go_sem] Oper.semAt_some

def isClassD (n : Nat) (c : Int) : Bool := decide (0 ≤ c ∧ c < (n : Int))
theorem valid_class {n t : Nat} (h : ¬ t ≤ 5) : isClassD n ((t : Int) - 16) = validD n t := by
  unfold isClassD validD
  rw [decide_eq_decide]
  omega
def isRefD (t : Nat) : Bool := decide (t = 3 ∨ t = 4 ∨ t = 5 ∨ 16 ≤ t)
/-! ### Lines -/
def inLineD (T : List Cl) (c a : Int) : Bool := (lineB T T.length c).any fun (x : Nat) => (x : Int) == a
theorem inLineD_yes {T : List Cl} {c a : Int} {pre : List Nat} {x : Nat} (hp : pre <+: lineB T T.length c) (hx : x ∈ pre) (e : (x : Int) = a) : inLineD T c a = true := by
  unfold inLineD
  rw [List.any_eq_true]
  exact ⟨x, hp.subset hx, beq_t e⟩
theorem inLineD_no {T : List Cl} {c a : Int} (h : ∀ x ∈ lineB T T.length c, (x : Int) ≠ a) : inLineD T c a = false := by
  unfold inLineD
  rw [List.any_eq_false]
  intro x hx
  rw [beq_f (h x hx)]
  simp

theorem cellBox {W : World} {B : Nat} {v : Value} {t : TypeId} (h : W.heap[B]? = some (.cells #[v] t (0, 0))) : W.cell? ⟨B, 0, none⟩ = some v ∧ W.frozen? ⟨B, 0, none⟩ = false := by
  constructor <;> simp [World.cell?, World.frozen?, h]
theorem cellNew (W : World) (v : Value) (t : TypeId) : (W.alloc (.cells #[v] t)).cell? ⟨W.heap.size, 0, none⟩ = some v ∧ (W.alloc (.cells #[v] t)).frozen? ⟨W.heap.size, 0, none⟩ = false := by
  exact cellBox (World.alloc_heap_new W _)
theorem cellAlloc {W : World} {a : Addr} {v : Value} (o : Obj) (h : W.cell? a = some v) : (W.alloc o).cell? a = some v := cell_kept h (World.grownBy_alloc W o none) (fun r e => by cases e)
theorem frozenAlloc {W : World} {a : Addr} {v : Value} (o : Obj) (h : W.cell? a = some v) (hf : W.frozen? a = false) : (W.alloc o).frozen? a = false := (frozen_kept h (World.grownBy_alloc W o none) (fun r e => by cases e)).trans hf

end Go.Proofs.YtgelbihdcfgjcaaDoor

/-
  The order of types, plainly: it is one. No Go in it.
-/
namespace Go.Proofs.YtgelbihdcfgjcaaDoor
set_option maxRecDepth 20000

def subD (T : List Cl) (a b : Nat) : Bool :=
  if (!validD T.length a || !validD T.length b) = true then false
  else if a = b ∨ b = 0 then true
  else if a = 3 then isRefD b
  else if b = 5 then isRefD a
  else inLineD T ((a : Int) - 16) ((b : Int) - 16)

/-- The same, said at once. -/
def Le (T : List Cl) (a b : Nat) : Prop :=
  (a ≤ 5 ∨ (16 ≤ a ∧ a - 16 < T.length)) ∧ (b ≤ 5 ∨ (16 ≤ b ∧ b - 16 < T.length)) ∧
  (a = b ∨ b = 0 ∨ (a = 3 ∧ (b = 3 ∨ b = 4 ∨ b = 5 ∨ 16 ≤ b)) ∨ (b = 5 ∧ (a = 3 ∨ a = 4 ∨ a = 5 ∨ 16 ≤ a)) ∨ (16 ≤ a ∧ 16 ≤ b ∧ (b - 16) ∈ lineB T T.length ((a - 16 : Nat) : Int)))

theorem lineB_lt (T : List Cl) : ∀ (n bel : Nat) (c : Int), bel ≤ n → ∀ x ∈ lineB T bel c, x < bel
  | 0, bel, c, hn, x, hx => by
    rw [lineB_out (by omega)] at hx
    simp at hx
  | n + 1, bel, c, hn, x, hx => by
    by_cases hc : 0 ≤ c ∧ c < (bel : Int)
    · obtain ⟨k, rfl⟩ : ∃ k : Nat, c = (k : Int) := ⟨c.toNat, by omega⟩
      rw [lineB_in (by omega), List.mem_cons] at hx
      rcases hx with rfl | hx
      · omega
      · have := lineB_lt T n k _ (by omega) x hx
        omega
    · rw [lineB_out hc] at hx
      simp at hx
/-- What stands in a line has its own line behind it. -/
theorem lineB_tail (T : List Cl) : ∀ (n bel : Nat) (c : Int), bel ≤ n → ∀ x ∈ lineB T bel c, (x :: lineB T x (parD T x)) <:+ lineB T bel c
  | 0, bel, c, hn, x, hx => by
    rw [lineB_out (by omega)] at hx
    simp at hx
  | n + 1, bel, c, hn, x, hx => by
    by_cases hc : 0 ≤ c ∧ c < (bel : Int)
    · obtain ⟨k, rfl⟩ : ∃ k : Nat, c = (k : Int) := ⟨c.toNat, by omega⟩
      rw [lineB_in (by omega)] at hx ⊢
      rw [List.mem_cons] at hx
      rcases hx with rfl | hx
      · exact List.suffix_refl _
      · exact (lineB_tail T n k _ (by omega) x hx).trans (List.suffix_cons _ _)
    · rw [lineB_out hc] at hx
      simp at hx
theorem line_refl {T : List Cl} {x : Nat} (h : x < T.length) : x ∈ lineB T T.length (x : Int) := by rw [lineB_in h]; simp
theorem line_le {T : List Cl} {x y : Nat} (h : y ∈ lineB T T.length (x : Int)) : y ≤ x := by
  by_cases hx : x < T.length
  · rw [lineB_in hx, List.mem_cons] at h
    rcases h with rfl | h
    · exact Nat.le_refl _
    · exact Nat.le_of_lt (lineB_lt T _ _ _ (Nat.le_refl _) y h)
  · rw [lineB_out (by omega)] at h
    simp at h
theorem line_trans {T : List Cl} {x y z : Nat} (h : y ∈ lineB T T.length (x : Int)) (k : z ∈ lineB T T.length (y : Int)) : z ∈ lineB T T.length (x : Int) := by
  have hy : y < T.length := lineB_lt T _ _ _ (Nat.le_refl _) y h
  rw [lineB_in hy] at k
  exact (lineB_tail T _ _ _ (Nat.le_refl _) y h).subset k

theorem inLineD_iff {T : List Cl} {a b : Nat} : inLineD T ((a : Int) - 16) ((b : Int) - 16) = true ↔ 16 ≤ a ∧ 16 ≤ b ∧ (b - 16) ∈ lineB T T.length ((a - 16 : Nat) : Int) := by
  unfold inLineD
  rw [List.any_eq_true]
  constructor
  · rintro ⟨x, hx, e⟩
    have e' : (x : Int) = (b : Int) - 16 := eq_of_beq e
    have ha : 16 ≤ a := by
      by_cases h : 16 ≤ a
      · exact h
      · rw [lineB_out (by omega)] at hx
        simp at hx
    refine ⟨ha, by omega, ?_⟩
    rw [show ((a - 16 : Nat) : Int) = (a : Int) - 16 from by omega, show b - 16 = x from by omega]
    exact hx
  · rintro ⟨ha, hb, hx⟩
    rw [show ((a - 16 : Nat) : Int) = (a : Int) - 16 from by omega] at hx
    exact ⟨b - 16, hx, beq_t (by omega)⟩

theorem validD_iff {n t : Nat} : validD n t = true ↔ (t ≤ 5 ∨ (16 ≤ t ∧ t - 16 < n)) := by unfold validD; exact decide_eq_true_iff
theorem isRefD_iff {t : Nat} : isRefD t = true ↔ (t = 3 ∨ t = 4 ∨ t = 5 ∨ 16 ≤ t) := by unfold isRefD; exact decide_eq_true_iff

theorem subD_iff {T : List Cl} {a b : Nat} : subD T a b = true ↔ Le T a b := by
  unfold subD
  by_cases h1 : validD T.length a = true
  · by_cases h2 : validD T.length b = true
    · rw [if_neg (by rw [h1, h2]; simp)]
      have v1 := validD_iff.1 h1
      have v2 := validD_iff.1 h2
      by_cases e1 : a = b ∨ b = 0
      · rw [if_pos e1]
        exact ⟨fun _ => ⟨v1, v2, by rcases e1 with e | e <;> simp [e]⟩, fun _ => rfl⟩
      · rw [if_neg e1]
        by_cases e2 : a = 3
        · rw [if_pos e2, isRefD_iff]
          refine ⟨fun h => ⟨v1, v2, .inr (.inr (.inl ⟨e2, h⟩))⟩, ?_⟩
          rintro ⟨_, _, h | h | ⟨_, h⟩ | ⟨h, _⟩ | ⟨h, _⟩⟩ <;> omega
        · rw [if_neg e2]
          by_cases e3 : b = 5
          · rw [if_pos e3, isRefD_iff]
            refine ⟨fun h => ⟨v1, v2, .inr (.inr (.inr (.inl ⟨e3, h⟩)))⟩, ?_⟩
            rintro ⟨_, _, h | h | ⟨h, _⟩ | ⟨_, h⟩ | ⟨_, h, _⟩⟩ <;> omega
          · rw [if_neg e3, inLineD_iff]
            refine ⟨fun h => ⟨v1, v2, .inr (.inr (.inr (.inr h)))⟩, ?_⟩
            rintro ⟨_, _, h | h | ⟨h, _⟩ | ⟨h, _⟩ | h⟩
            · exact absurd (.inl h) e1
            · exact absurd (.inr h) e1
            · exact absurd h e2
            · exact absurd h e3
            · exact h
    · rw [if_pos (by simp at h2; simp [h2])]
      refine ⟨fun h => (by cases h), fun h => absurd (validD_iff.2 h.2.1) h2⟩
  · rw [if_pos (by simp at h1; simp [h1])]
    refine ⟨fun h => (by cases h), fun h => absurd (validD_iff.2 h.1) h1⟩

theorem Le.refl {T : List Cl} {a : Nat} (h : validD T.length a = true) : Le T a a := ⟨validD_iff.1 h, validD_iff.1 h, .inl rfl⟩
theorem Le.antisymm {T : List Cl} {a b : Nat} (h : Le T a b) (k : Le T b a) : a = b := by
  obtain ⟨h1, h2, h3⟩ := h
  obtain ⟨_, _, k3⟩ := k
  rcases h3 with e | e | ⟨e, e'⟩ | ⟨e, e'⟩ | ⟨e1, e2, e3⟩
  · exact e
  · rcases k3 with f | f | ⟨f, f'⟩ | ⟨f, f'⟩ | ⟨f1, f2, f3⟩ <;> omega
  · rcases k3 with f | f | ⟨f, f'⟩ | ⟨f, f'⟩ | ⟨f1, f2, f3⟩ <;> omega
  · rcases k3 with f | f | ⟨f, f'⟩ | ⟨f, f'⟩ | ⟨f1, f2, f3⟩ <;> omega
  · rcases k3 with f | f | ⟨f, f'⟩ | ⟨f, f'⟩ | ⟨f1, f2, f3⟩
    · omega
    · omega
    · omega
    · omega
    · have := line_le e3
      have := line_le f3
      omega
theorem Le.trans {T : List Cl} {a b c : Nat} (h : Le T a b) (k : Le T b c) : Le T a c := by
  obtain ⟨h1, h2, h3⟩ := h
  obtain ⟨_, k2, k3⟩ := k
  refine ⟨h1, k2, ?_⟩
  rcases h3 with e | e | ⟨e, e'⟩ | ⟨e, e'⟩ | ⟨e1, e2, e3⟩
  · rw [e]; exact k3
  · rcases k3 with f | f | ⟨f, f'⟩ | ⟨f, f'⟩ | ⟨f1, f2, f3⟩ <;> omega
  · rcases k3 with f | f | ⟨f, f'⟩ | ⟨f, f'⟩ | ⟨f1, f2, f3⟩ <;> omega
  · rcases k3 with f | f | ⟨f, f'⟩ | ⟨f, f'⟩ | ⟨f1, f2, f3⟩ <;> omega
  · rcases k3 with f | f | ⟨f, f'⟩ | ⟨f, f'⟩ | ⟨f1, f2, f3⟩
    · rw [← f]; exact .inr (.inr (.inr (.inr ⟨e1, e2, e3⟩)))
    · omega
    · omega
    · omega
    · exact .inr (.inr (.inr (.inr ⟨e1, f2, line_trans e3 f3⟩)))
end Go.Proofs.YtgelbihdcfgjcaaDoor

/-
  The contract of types.Sub: what the plain function 'subD' says; nothing old is turned. Conditions: types are bytes.
-/
namespace Go.Proofs.YtgelbihdcfgjcaaDoor
open Go.RowKit
set_option maxRecDepth 20000

end Go.Proofs.YtgelbihdcfgjcaaDoor

/-
  The least type above two, plainly: it is above both and below whatever is above both. No Go in it.
-/
namespace Go.Proofs.YtgelbihdcfgjcaaDoor
set_option maxRecDepth 20000

def mergeD (T : List Cl) (a b : Nat) : Nat :=
  if (!validD T.length a || !validD T.length b) = true then 0
  else if subD T a b = true then b
  else if subD T b a = true then a
  else if (!isRefD a || !isRefD b) = true then 0
  else match (lineB T T.length ((a : Int) - 16)).find? (fun c => subD T b (16 + c)) with
    | some c => 16 + c
    | none => 5

theorem lineB_sorted (T : List Cl) : ∀ (n bel : Nat) (c : Int), bel ≤ n → (lineB T bel c).Pairwise (· > ·)
  | 0, bel, c, hn => by rw [lineB_out (by omega)]; exact List.Pairwise.nil
  | n + 1, bel, c, hn => by
    by_cases hc : 0 ≤ c ∧ c < (bel : Int)
    · obtain ⟨k, rfl⟩ : ∃ k : Nat, c = (k : Int) := ⟨c.toNat, by omega⟩
      rw [lineB_in (by omega), List.pairwise_cons]
      exact ⟨fun x hx => lineB_lt T _ _ _ (Nat.le_refl _) x hx, lineB_sorted T n k _ (by omega)⟩
    · rw [lineB_out hc]; exact List.Pairwise.nil

/-- Of two that stand in one line the lower one has the higher one in its line. -/
theorem line_chain {T : List Cl} {c : Int} {x y : Nat} (hx : x ∈ lineB T T.length c) (hy : y ∈ lineB T T.length c) (hle : y ≤ x) : y ∈ lineB T T.length (x : Int) := by
  have h1 := lineB_tail T _ _ _ (Nat.le_refl _) x hx
  have h2 := lineB_tail T _ _ _ (Nat.le_refl _) y hy
  have lx : x < T.length := lineB_lt T _ _ _ (Nat.le_refl _) x hx
  have ly : y < T.length := lineB_lt T _ _ _ (Nat.le_refl _) y hy
  rw [lineB_in lx]
  rcases List.suffix_or_suffix_of_suffix h1 h2 with h | h
  · have : x ∈ y :: lineB T y (parD T y) := h.subset (by simp)
    rw [← lineB_in ly] at this
    have := line_le this
    have : x = y := by omega
    subst this
    simp
  · exact h.subset (by simp)

theorem Le.top {T : List Cl} {a : Nat} (h : a ≤ 5 ∨ (16 ≤ a ∧ a - 16 < T.length)) : Le T a 0 := ⟨h, .inl (by omega), .inr (.inl rfl)⟩
theorem Le.any {T : List Cl} {a : Nat} (h : a ≤ 5 ∨ (16 ≤ a ∧ a - 16 < T.length)) (hr : a = 3 ∨ a = 4 ∨ a = 5 ∨ 16 ≤ a) : Le T a 5 := ⟨h, .inl (by omega), .inr (.inr (.inr (.inl ⟨rfl, hr⟩)))⟩

/-- Above both, and below whatever is above both. -/
structure IsLub (T : List Cl) (a b m : Nat) : Prop where
  left : Le T a m
  right : Le T b m
  least : ∀ c, Le T a c → Le T b c → Le T m c

theorem mergeD_lub {T : List Cl} {a b : Nat} (ha : validD T.length a = true) (hb : validD T.length b = true) : IsLub T a b (mergeD T a b) := by
  have va := validD_iff.1 ha
  have vb := validD_iff.1 hb
  unfold mergeD
  rw [if_neg (by rw [ha, hb]; simp)]
  by_cases h1 : subD T a b = true
  · rw [if_pos h1]
    exact ⟨subD_iff.1 h1, Le.refl hb, fun c _ h => h⟩
  · rw [if_neg h1]
    by_cases h2 : subD T b a = true
    · rw [if_pos h2]
      exact ⟨Le.refl ha, subD_iff.1 h2, fun c h _ => h⟩
    · rw [if_neg h2]
      have n1 : ¬ Le T a b := fun h => h1 (subD_iff.2 h)
      have n2 : ¬ Le T b a := fun h => h2 (subD_iff.2 h)
      by_cases h3 : (!isRefD a || !isRefD b) = true
      · rw [if_pos h3]
        refine ⟨Le.top va, Le.top vb, fun c hac hbc => ?_⟩
        have hr : ¬ (a = 3 ∨ a = 4 ∨ a = 5 ∨ 16 ≤ a) ∨ ¬ (b = 3 ∨ b = 4 ∨ b = 5 ∨ 16 ≤ b) := by
          rw [Bool.or_eq_true] at h3
          rcases h3 with h | h
          · exact .inl (fun h' => by rw [isRefD_iff.2 h'] at h; simp at h)
          · exact .inr (fun h' => by rw [isRefD_iff.2 h'] at h; simp at h)
        rcases hr with hr | hr
        · obtain ⟨_, _, h⟩ := hac
          rcases h with e | e | ⟨e, _⟩ | ⟨_, e⟩ | ⟨e, _⟩
          · exact absurd (e ▸ hbc) n2
          · subst e; exact Le.top (.inl (by omega))
          · omega
          · omega
          · omega
        · obtain ⟨_, _, h⟩ := hbc
          rcases h with e | e | ⟨e, _⟩ | ⟨_, e⟩ | ⟨e, _⟩
          · exact absurd (e ▸ hac) n1
          · subst e; exact Le.top (.inl (by omega))
          · omega
          · omega
          · omega
      · rw [if_neg h3]
        have ra : a = 3 ∨ a = 4 ∨ a = 5 ∨ 16 ≤ a := isRefD_iff.1 (by simp at h3; exact h3.1)
        have rb : b = 3 ∨ b = 4 ∨ b = 5 ∨ 16 ≤ b := isRefD_iff.1 (by simp at h3; exact h3.2)
        have a3 : a ≠ 3 := fun e => n1 ⟨va, vb, .inr (.inr (.inl ⟨e, rb⟩))⟩
        have b3 : b ≠ 3 := fun e => n2 ⟨vb, va, .inr (.inr (.inl ⟨e, ra⟩))⟩
        have a5 : a ≠ 5 := fun e => n2 ⟨vb, va, .inr (.inr (.inr (.inl ⟨e, rb⟩)))⟩
        have b5 : b ≠ 5 := fun e => n1 ⟨va, vb, .inr (.inr (.inr (.inl ⟨e, ra⟩)))⟩
        have up : ∀ c, Le T a c → Le T b c → c = 0 ∨ c = 5 ∨ (16 ≤ a ∧ 16 ≤ c ∧ (c - 16) ∈ lineB T T.length ((a : Int) - 16)) := by
          intro c hac hbc
          obtain ⟨_, _, h⟩ := hac
          rcases h with e | e | ⟨e, _⟩ | ⟨e, _⟩ | ⟨e1, e2, e3⟩
          · exact absurd (e ▸ hbc) n2
          · exact .inl e
          · exact absurd e a3
          · exact .inr (.inl e)
          · rw [show ((a - 16 : Nat) : Int) = (a : Int) - 16 from by omega] at e3
            exact .inr (.inr ⟨e1, e2, e3⟩)
        cases hf : (lineB T T.length ((a : Int) - 16)).find? (fun c => subD T b (16 + c)) with
        | some x =>
          simp only
          have hx : x ∈ lineB T T.length ((a : Int) - 16) := List.mem_of_find?_eq_some hf
          have hbx : Le T b (16 + x) := subD_iff.1 (by have := List.find?_some hf; simpa using this)
          have a16 : 16 ≤ a := by
            by_cases h : 16 ≤ a
            · exact h
            · rw [lineB_out (by omega)] at hx; simp at hx
          have lx : x < T.length := lineB_lt T _ _ _ (Nat.le_refl _) x hx
          refine ⟨⟨va, .inr ⟨by omega, by omega⟩, .inr (.inr (.inr (.inr ⟨a16, by omega, ?_⟩)))⟩, hbx, fun c hac hbc => ?_⟩
          · rw [show 16 + x - 16 = x from by omega, show ((a - 16 : Nat) : Int) = (a : Int) - 16 from by omega]
            exact hx
          · have vc := hac.2.1
            rcases up c hac hbc with e | e | ⟨_, e2, e3⟩
            · subst e; exact Le.top (.inr ⟨by omega, by omega⟩)
            · subst e; exact Le.any (.inr ⟨by omega, by omega⟩) (by omega)
            · obtain ⟨_, fs, bs, hl, hn⟩ := List.find?_eq_some_iff_append.1 hf
              have hle : c - 16 ≤ x := by
                rw [hl] at e3
                have hs := lineB_sorted T _ _ ((a : Int) - 16) (Nat.le_refl T.length)
                rw [hl, List.pairwise_append, List.pairwise_cons] at hs
                rcases List.mem_append.1 e3 with h | h
                · have := hn _ h
                  rw [show 16 + (c - 16) = c from by omega, subD_iff.2 hbc] at this
                  simp at this
                · rcases List.mem_cons.1 h with h | h
                  · omega
                  · have := hs.2.1.1 _ h
                    omega
              refine ⟨.inr ⟨by omega, by omega⟩, vc, .inr (.inr (.inr (.inr ⟨by omega, e2, ?_⟩)))⟩
              rw [show 16 + x - 16 = x from by omega]
              exact line_chain hx e3 hle
        | none =>
          simp only
          refine ⟨Le.any va ra, Le.any vb rb, fun c hac hbc => ?_⟩
          rcases up c hac hbc with e | e | ⟨_, e2, e3⟩
          · subst e; exact Le.top (.inl (by omega))
          · subst e; exact Le.any (.inl (by omega)) (by omega)
          · have := List.find?_eq_none.1 hf _ e3
            rw [show 16 + (c - 16) = c from by omega, subD_iff.2 hbc] at this
            simp at this

theorem IsLub.uniq {T : List Cl} {a b m m' : Nat} (h : IsLub T a b m) (h' : IsLub T a b m') : m = m' := (h.least _ h'.left h'.right).antisymm (h'.least _ h.left h.right)
theorem IsLub.symm {T : List Cl} {a b m : Nat} (h : IsLub T a b m) : IsLub T b a m := ⟨h.right, h.left, fun c h1 h2 => h.least c h2 h1⟩
theorem merge_comm {T : List Cl} {a b : Nat} (ha : validD T.length a = true) (hb : validD T.length b = true) : mergeD T a b = mergeD T b a := (mergeD_lub ha hb).uniq (mergeD_lub hb ha).symm
theorem merge_idem {T : List Cl} {a : Nat} (ha : validD T.length a = true) : mergeD T a a = a := (mergeD_lub ha ha).uniq ⟨Le.refl ha, Le.refl ha, fun _ h _ => h⟩
theorem merge_valid {T : List Cl} {a b : Nat} (ha : validD T.length a = true) (hb : validD T.length b = true) : validD T.length (mergeD T a b) = true := validD_iff.2 (mergeD_lub ha hb).left.2.1
theorem merge_sub {T : List Cl} {a b : Nat} (ha : validD T.length a = true) (hb : validD T.length b = true) : subD T a b = decide (mergeD T a b = b) := by
  have h := mergeD_lub ha hb
  by_cases e : mergeD T a b = b
  · rw [decide_eq_true e]
    exact subD_iff.2 (e ▸ h.left)
  · rw [decide_eq_false e]
    cases hs : subD T a b with
    | false => rfl
    | true => exact absurd (h.uniq ⟨subD_iff.1 hs, Le.refl hb, fun _ _ h => h⟩) e
theorem merge_assoc {T : List Cl} {a b c : Nat} (ha : validD T.length a = true) (hb : validD T.length b = true) (hc : validD T.length c = true) : mergeD T a (mergeD T b c) = mergeD T (mergeD T a b) c := by
  have h1 := mergeD_lub hb hc
  have h2 := mergeD_lub ha (merge_valid hb hc)
  have h3 := mergeD_lub ha hb
  have h4 := mergeD_lub (merge_valid ha hb) hc
  refine Le.antisymm (h2.least _ (h3.left.trans h4.left) (h1.least _ (h3.right.trans h4.left) h4.right)) (h4.least _ (h3.least _ h2.left (h1.left.trans h2.right)) (h1.right.trans h2.right))
theorem merge_lt {T : List Cl} {a b : Nat} (ha : a < 256) (hb : b < 256) : mergeD T a b < 256 := by
  unfold mergeD
  split
  · omega
  · split
    · exact hb
    · split
      · exact ha
      · split
        · omega
        · cases hf : (lineB T T.length ((a : Int) - 16)).find? (fun c => subD T b (16 + c)) with
          | none => simp
          | some x =>
            simp only
            have hx : x ∈ lineB T T.length ((a : Int) - 16) := List.mem_of_find?_eq_some hf
            by_cases h : 16 ≤ a
            · rw [show (a : Int) - 16 = ((a - 16 : Nat) : Int) from by omega] at hx
              have := line_le hx
              omega
            · rw [lineB_out (by omega)] at hx; simp at hx
end Go.Proofs.YtgelbihdcfgjcaaDoor

/-
  Contracts of types.typeOf and Merge: what the plain functions say; nothing old is turned. Conditions: types are bytes.
-/
namespace Go.Proofs.YtgelbihdcfgjcaaDoor
open Go.RowKit Go.Shelf
set_option maxRecDepth 20000
attribute [local go_sem] Oper.semAt_some

def tyD (x : Nat) : Nat := (16 + x) % 256
theorem tyD_lt (x : Nat) : tyD x < 256 := Nat.mod_lt _ (by decide)
theorem tyD_eq {x : Nat} (h : x < 240) : tyD x = 16 + x := by unfold tyD; omega
theorem keepsOthers_below {W W' : World} (h : Below W.heap.size W W') : KeepsOthers W W' :=
  KeepsOthers.of_grownBy (row := none) ⟨h.os, h.tape, h.output, h.size, fun k hk _ => h.block k hk⟩ (fun r o e => by cases e)
theorem line_240 {T : List Cl} {a y : Nat} (ha : a < 256) (hy : y ∈ lineB T T.length ((a : Int) - 16)) : y < 240 := by
  by_cases h : 16 ≤ a
  · rw [show (a : Int) - 16 = ((a - 16 : Nat) : Int) from by omega] at hy
    have := line_le hy
    omega
  · rw [lineB_out (by omega)] at hy; simp at hy
theorem find_none {T : List Cl} {a b : Nat} (ha : a < 256) (h : ∀ y ∈ lineB T T.length ((a : Int) - 16), subD T b (tyD y) = false) : (lineB T T.length ((a : Int) - 16)).find? (fun c => subD T b (16 + c)) = none := by
  rw [List.find?_eq_none]
  intro y hy
  have := h y hy
  rw [tyD_eq (line_240 ha hy)] at this
  simpa using this
theorem find_some {T : List Cl} {a b : Nat} {pre : List Nat} {y : Nat} (ha : a < 256) (hp : (pre ++ [y]) <+: lineB T T.length ((a : Int) - 16)) (hn : ∀ z ∈ pre, subD T b (tyD z) = false) (hy : subD T b (tyD y) = true) : (lineB T T.length ((a : Int) - 16)).find? (fun c => subD T b (16 + c)) = some y := by
  have h240 : ∀ z ∈ pre ++ [y], z < 240 := fun z hz => line_240 ha (hp.subset hz)
  obtain ⟨rest, hr⟩ := hp
  rw [List.find?_eq_some_iff_append]
  refine ⟨?_, pre, rest, by rw [← hr]; simp, fun z hz => ?_⟩
  · rw [← tyD_eq (h240 y (by simp))]; exact hy
  · have := hn z hz
    rw [tyD_eq (h240 z (by simp [hz]))] at this
    simpa using this

/-- A statement that cannot leave but ahead, and ends in one state. -/
theorem wpIn_same {F : Fence} {n : Nat} {P : Program} {c : Code} {K : Act → World → Prop} {Q : Exit → Act → World → Prop} {a : Act} {w : World} {A : Act} {W : World}
    (h : c.wpIn F n P (Exit.then (fun a' w' => a' = A ∧ w' = W) (fun _ _ _ => False)) a w) (rest : K A W) : c.wpIn F n P (Exit.then K Q) a w := by
  refine wpIn_mono h ?_
  intro e a' w' hq
  cases e with
  | normal =>
    obtain ⟨h1, h2⟩ : a' = A ∧ w' = W := hq
    rw [h1, h2]
    exact rest
  | exit id => exact False.elim hq
  | goto l => exact False.elim hq
  | ret => exact False.elim hq
  | panic ch => exact False.elim hq
  | outgrown => exact False.elim hq
/-- The same, where the world is known by a relation. -/
theorem wpIn_rel {F : Fence} {n : Nat} {P : Program} {c : Code} {K : Act → World → Prop} {Q : Exit → Act → World → Prop} {a : Act} {w : World} {A : Act} (R : World → Prop)
    (h : c.wpIn F n P (Exit.then (fun a' w' => a' = A ∧ R w') (fun _ _ _ => False)) a w) (rest : ∀ W, R W → K A W) : c.wpIn F n P (Exit.then K Q) a w := by
  refine wpIn_mono h ?_
  intro e a' w' hq
  cases e with
  | normal =>
    obtain ⟨h1, h2⟩ : a' = A ∧ R w' := hq
    rw [h1]
    exact rest _ h2
  | exit id => exact False.elim hq
  | goto l => exact False.elim hq
  | ret => exact False.elim hq
  | panic ch => exact False.elim hq
  | outgrown => exact False.elim hq

/-- The boxes of a call. -/
structure MB (w W : World) (ao : Option Addr) (cap : Nat) (T : List Cl) (b : Nat) : Prop where
  l : W.cell? ⟨w.heap.size, 0, none⟩ = some (.slice ao T.length cap)
  b : W.cell? ⟨w.heap.size + 1, 0, none⟩ = some (.int .u8 (b : Int))
  r : W.cell? ⟨w.heap.size + 1 + 1, 0, none⟩ = some (.int .u8 0)
  f : W.frozen? ⟨w.heap.size + 1 + 1, 0, none⟩ = false
  bel : Below w.heap.size w W
theorem MB.below {w W W' : World} {ao : Option Addr} {cap : Nat} {T : List Cl} {b : Nat} (h : MB w W ao cap T b) (hb : Below W.heap.size W W') : MB w W' ao cap T b := by
  have h1 := World.block_lt_of_cell? W _ h.l
  have h2 := World.block_lt_of_cell? W _ h.b
  have h3 := World.block_lt_of_cell? W _ h.r
  exact ⟨(hb.cell (p := ⟨w.heap.size, 0, none⟩) h1).trans h.l, (hb.cell (p := ⟨w.heap.size + 1, 0, none⟩) h2).trans h.b, (hb.cell (p := ⟨w.heap.size + 1 + 1, 0, none⟩) h3).trans h.r, (hb.frozen (p := ⟨w.heap.size + 1 + 1, 0, none⟩) h3).trans h.f, h.bel.trans (hb.mono h.bel.size)⟩
theorem MB.tab {w W : World} {ao : Option Addr} {cap : Nat} {T : List Cl} {b : Nat} (h : MB w W ao cap T b) (hT : TabAt w ao T) : TabAt W ao T := hT.below h.bel
theorem MB.start (w : World) (ao : Option Addr) (cap : Nat) (T : List Cl) (b : Nat) : MB w (((w.alloc (Obj.cells #[Value.slice ao T.length cap] 22)).alloc (Obj.cells #[Value.int IntKind.u8 (b : Int)] 35)).alloc (Obj.cells #[Value.int IntKind.u8 0] 35)) ao cap T b := by
  have c0 := cellNew w (.slice ao T.length cap) 22
  have c1 := cellNew (w.alloc (.cells #[.slice ao T.length cap] 22)) (.int .u8 (b : Int)) 35
  have c2 := cellNew ((w.alloc (.cells #[.slice ao T.length cap] 22)).alloc (.cells #[.int .u8 (b : Int)] 35)) (.int .u8 0) 35
  simp only [World.size_alloc] at c1 c2
  exact ⟨cellAlloc _ (cellAlloc _ c0.1), cellAlloc _ c1.1, c2.1, c2.2, (((Below.refl _ w).alloc (Nat.le_refl _) _).alloc (by simp) _).alloc (by simp; omega) _⟩

theorem merge_0 {T : List Cl} {a b : Nat} (h : (!validD T.length a || !validD T.length b) = true) : mergeD T a b = 0 := by unfold mergeD; rw [if_pos h]
theorem merge_1 {T : List Cl} {a b : Nat} (h : ¬ (!validD T.length a || !validD T.length b) = true) (h1 : subD T a b = true) : mergeD T a b = b := by unfold mergeD; rw [if_neg h, if_pos h1]
theorem merge_2 {T : List Cl} {a b : Nat} (h : ¬ (!validD T.length a || !validD T.length b) = true) (h1 : ¬ subD T a b = true) (h2 : subD T b a = true) : mergeD T a b = a := by unfold mergeD; rw [if_neg h, if_neg h1, if_pos h2]
theorem merge_3 {T : List Cl} {a b : Nat} (h : ¬ (!validD T.length a || !validD T.length b) = true) (h1 : ¬ subD T a b = true) (h2 : ¬ subD T b a = true) (h3 : (!isRefD a || !isRefD b) = true) : mergeD T a b = 0 := by unfold mergeD; rw [if_neg h, if_neg h1, if_neg h2, if_pos h3]
theorem merge_4 {T : List Cl} {a b : Nat} (h : ¬ (!validD T.length a || !validD T.length b) = true) (h1 : ¬ subD T a b = true) (h2 : ¬ subD T b a = true) (h3 : ¬ (!isRefD a || !isRefD b) = true) : mergeD T a b = match (lineB T T.length ((a : Int) - 16)).find? (fun c => subD T b (16 + c)) with | some c => 16 + c | none => 5 := by unfold mergeD; rw [if_neg h, if_neg h1, if_neg h2, if_neg h3] <;> rfl

end Go.Proofs.YtgelbihdcfgjcaaDoor

/-
  Contracts of types.Rank and highestRef: what the plain functions say; nothing old is turned. Conditions: types are bytes; the table fits.
-/
namespace Go.Proofs.YtgelbihdcfgjcaaDoor
open Go.RowKit Go.Shelf
set_option maxRecDepth 20000
attribute [local go_sem] Oper.semAt_some

theorem lineB_length (T : List Cl) : ∀ (n bel : Nat) (c : Int), bel ≤ n → (lineB T bel c).length ≤ bel
  | 0, bel, c, hn => by rw [lineB_out (by omega)]; simp
  | n + 1, bel, c, hn => by
    by_cases hc : 0 ≤ c ∧ c < (bel : Int)
    · obtain ⟨k, rfl⟩ : ∃ k : Nat, c = (k : Int) := ⟨c.toNat, by omega⟩
      rw [lineB_in (by omega), List.length_cons]
      have := lineB_length T n k (parD T k) (by omega)
      omega
    · rw [lineB_out hc]; simp

/-- The rank of what is neither null nor a row of numbers. -/
def rankP (T : List Cl) (t : Nat) : Nat := if (!validD T.length t || t == 0) = true then 0 else 1 + (lineB T T.length ((t : Int) - 16)).length

theorem rankP_5 (T : List Cl) : rankP T 5 = 1 := by
  unfold rankP
  rw [if_neg (by rw [validD_lo (by omega)]; simp), lineB_out (by omega)]
  rfl
theorem rankP_class {T : List Cl} {c : Nat} (h : c < T.length) : rankP T (16 + c) = 1 + (lineB T T.length (c : Int)).length := by
  unfold rankP
  rw [if_neg (by rw [validD_hi (by omega) (by omega)]; simp), show ((16 + c : Nat) : Int) - 16 = (c : Int) from by omega]

/-- The highest rank of the first classes, and of a row of numbers. -/
def highN (T : List Cl) : Nat → Nat
  | 0 => 2
  | k + 1 => max (highN T k) (1 + (lineB T T.length (k : Int)).length)
theorem highN_le {T : List Cl} {b : Nat} (hb : 2 ≤ b) : ∀ (k : Nat), (∀ (j : Nat), j < k → 1 + (lineB T T.length (j : Int)).length ≤ b) → highN T k ≤ b
  | 0, _ => hb
  | k + 1, h => by
    unfold highN
    have := highN_le hb k (fun j hj => h j (by omega))
    have := h k (by omega)
    omega
theorem highN_ge {T : List Cl} : ∀ {k j : Nat}, j < k → 1 + (lineB T T.length (j : Int)).length ≤ highN T k
  | k + 1, j, h => by
    unfold highN
    by_cases e : j = k
    · subst e; omega
    · have := highN_ge (T := T) (show j < k by omega); omega
theorem highN_two {T : List Cl} : ∀ (k : Nat), 2 ≤ highN T k
  | 0 => Nat.le_refl _
  | k + 1 => by unfold highN; have := highN_two (T := T) k; omega

theorem highN_fit {T : List Cl} (hz : T.length * 48 ≤ 140737488351232) (k : Nat) : highN T k ≤ 4000000000000 := highN_le (by omega) k (fun j _ => by have := lineB_length T _ T.length (j : Int) (Nat.le_refl _); omega)
def rankD (T : List Cl) (t : Nat) : Nat := if t = 3 then 1 + highN T (min T.length 32) else if t = 4 then 2 else rankP T t
/-! ### Ranks fall as the order rises -/
theorem line_pos {T : List Cl} {c : Nat} (h : c < T.length) : 1 ≤ (lineB T T.length (c : Int)).length := by rw [lineB_in h]; simp
theorem rank_class {T : List Cl} {t : Nat} (h : 16 ≤ t) (h2 : t - 16 < T.length) : rankD T t = 1 + (lineB T T.length ((t - 16 : Nat) : Int)).length := by
  unfold rankD
  rw [if_neg (by omega), if_neg (by omega)]
  have := rankP_class h2
  rw [show 16 + (t - 16) = t from by omega] at this
  exact this
theorem rank_small {T : List Cl} {t : Nat} (h : t = 1 ∨ t = 2 ∨ t = 5) : rankD T t = 1 := by
  unfold rankD rankP
  rw [if_neg (by omega), if_neg (by omega), if_neg (by rw [validD_lo (by omega)]; simp; omega), lineB_out (by omega)]
  rfl
theorem rank_0 {T : List Cl} : rankD T 0 = 0 := by
  unfold rankD rankP
  rw [if_neg (by omega), if_neg (by omega), if_pos (by simp)]
theorem rank_4 {T : List Cl} : rankD T 4 = 2 := by unfold rankD; rw [if_neg (by omega), if_pos rfl]
theorem rank_3 {T : List Cl} : rankD T 3 = 1 + highN T (min T.length 32) := by unfold rankD; rw [if_pos rfl]
theorem rank_bad {T : List Cl} {t : Nat} (h : ¬ (t ≤ 5 ∨ (16 ≤ t ∧ t - 16 < T.length))) : rankD T t = 0 := by
  unfold rankD rankP
  rw [if_neg (by omega), if_neg (by omega), if_pos]
  have : validD T.length t = false := by
    cases hv : validD T.length t with
    | false => rfl
    | true => exact absurd (validD_iff.1 hv) h
  rw [this]
  rfl
theorem rank_le {T : List Cl} (hT : T.length ≤ 32) (t : Nat) : rankD T t ≤ 34 := by
  by_cases hv : t ≤ 5 ∨ (16 ≤ t ∧ t - 16 < T.length)
  · rcases hv with hv | ⟨h1, h2⟩
    · rcases (show t = 0 ∨ t = 3 ∨ t = 4 ∨ (t = 1 ∨ t = 2 ∨ t = 5) by omega) with rfl | rfl | rfl | h
      · rw [rank_0]; omega
      · rw [rank_3]
        have := highN_le (T := T) (b := 33) (by omega) (min T.length 32) (fun j _ => by have := lineB_length T _ T.length (j : Int) (Nat.le_refl _); omega)
        omega
      · rw [rank_4]; omega
      · rw [rank_small h]; omega
    · rw [rank_class h1 h2]
      have := lineB_length T _ T.length ((t - 16 : Nat) : Int) (Nat.le_refl _)
      omega
  · rw [rank_bad hv]; omega
theorem rank_lt {T : List Cl} (hT : T.length ≤ 32) {a b : Nat} (h : Le T a b) (hne : a ≠ b) : rankD T b < rankD T a := by
  obtain ⟨va, vb, h⟩ := h
  have pos : ∀ t, (t ≤ 5 ∨ (16 ≤ t ∧ t - 16 < T.length)) → t ≠ 0 → 1 ≤ rankD T t := by
    intro t hv h0
    rcases hv with hv | ⟨h1, h2⟩
    · rcases (show t = 3 ∨ t = 4 ∨ (t = 1 ∨ t = 2 ∨ t = 5) by omega) with rfl | rfl | h
      · rw [rank_3]; omega
      · rw [rank_4]; omega
      · rw [rank_small h]; omega
    · rw [rank_class h1 h2]; omega
  rcases h with e | e | ⟨e, e'⟩ | ⟨e, e'⟩ | ⟨e1, e2, e3⟩
  · exact absurd e hne
  · subst e
    rw [rank_0]
    exact pos a va hne
  · subst e
    rw [rank_3]
    have := highN_two (T := T) (min T.length 32)
    rcases e' with e' | e' | e' | e'
    · omega
    · subst e'; rw [rank_4]; omega
    · subst e'; rw [rank_small (by omega)]; omega
    · rw [rank_class e' (by omega)]
      have := highN_ge (T := T) (k := min T.length 32) (j := b - 16) (by omega)
      omega
  · subst e
    rw [rank_small (t := 5) (by omega)]
    rcases e' with e' | e' | e' | e'
    · subst e'; rw [rank_3]; have := highN_two (T := T) (min T.length 32); omega
    · subst e'; rw [rank_4]; omega
    · omega
    · rw [rank_class e' (by omega)]
      have := line_pos (T := T) (c := a - 16) (by omega)
      omega
  · rw [rank_class e1 (by omega), rank_class e2 (by omega)]
    have hs := lineB_tail T _ _ _ (Nat.le_refl _) _ e3
    rw [lineB_in (show a - 16 < T.length by omega)] at hs e3 ⊢
    rw [lineB_in (show b - 16 < T.length by omega)]
    rcases List.suffix_cons_iff.1 hs with h | h
    · injection h with h1 _
      omega
    · have := h.length_le
      simp at this ⊢
      omega
end Go.Proofs.YtgelbihdcfgjcaaDoor

/-
  Contracts of slices.AppendSeq and slices.Collect at the sequence that types.line makes: the line, in new memory. Conditions: the table fits.
-/
namespace Go.Proofs.YtgelbihdcfgjcaaDoor
open Go.RowKit Go.Shelf
set_option maxRecDepth 20000
attribute [local go_sem] Oper.semAt_some

theorem ivals_append (l m : List Nat) : ivals (l ++ m) = ivals l ++ ivals m := by unfold ivals; simp
theorem ivals_length (l : List Nat) : (ivals l).length = l.length := by unfold ivals; simp

end Go.Proofs.YtgelbihdcfgjcaaDoor

/-
  The contract of slices.Reverse at a row of numbers of one's own: the numbers from behind, in the same block. Conditions: the row's own.
-/
namespace Go.Proofs.YtgelbihdcfgjcaaDoor
open Go.RowKit
set_option maxRecDepth 20000

theorem OwnI.store {w : World} {B g n cap : Nat} {l : List Nat} (h : OwnI w B (.slice (some ⟨g, 0, none⟩) n cap) l) (hn : l.length = n) (k : Nat) (y : Nat) :
    OwnI (w.setCell ⟨g, k, none⟩ (.int .i64 (y : Int))) B (.slice (some ⟨g, 0, none⟩) n cap) (l.set k y) ∧ w.grownBy (w.setCell ⟨g, k, none⟩ (.int .i64 (y : Int))) (some g) := by
  subst hn
  have := World.ownsRow.stored h k (.int .i64 (y : Int))
  refine ⟨?_, this.2⟩
  unfold OwnI
  rw [List.length_set]
  have e : ivals (l.set k y) = (ivals l).set k (.int .i64 (y : Int)) := by unfold ivals; rw [List.map_set]
  rw [e]
  exact this.1

theorem grownBy_trans' {a b c : World} {row : Option Nat} (h : a.grownBy b row) (k : b.grownBy c row) : a.grownBy c row :=
  ⟨k.os.trans h.os, k.tape.trans h.tape, k.output.trans h.output, Nat.le_trans h.size k.size, fun i hi hne => (k.block i (Nat.lt_of_lt_of_le hi h.size) hne).trans (h.block i hi hne)⟩

/-- So far it is turned: ahead of i and behind j. -/
def Half (l m : List Nat) (i : Nat) (j : Int) : Prop := m.length = l.length ∧ ∀ q : Nat, q < l.length → m[q]? = if q < i ∨ j < (q : Int) then l[l.length - 1 - q]? else l[q]?

theorem Half.swap {l m : List Nat} {i j : Nat} (h : Half l m i j) (hij : i < j) (hs : i + j + 1 = l.length) {x y : Nat} (hx : m[i]? = some x) (hy : m[j]? = some y) : Half l ((m.set i y).set j x) (i + 1) ((j : Int) - 1) := by
  obtain ⟨hl, hq⟩ := h
  refine ⟨by simp [hl], fun q hqn => ?_⟩
  by_cases e1 : q = j
  · subst e1
    rw [List.getElem?_set_self (by simp; omega), if_pos (by omega)]
    have := hq i (by omega)
    rw [if_neg (by omega), hx] at this
    rw [this]
    congr 1
    omega
  · rw [List.getElem?_set_ne (fun h => e1 h.symm)]
    by_cases e2 : q = i
    · subst e2
      rw [List.getElem?_set_self (by omega), if_pos (by omega)]
      have := hq j (by omega)
      rw [if_neg (by omega), hy] at this
      rw [this]
      congr 1
      omega
    · rw [List.getElem?_set_ne (fun h => e2 h.symm), hq q hqn]
      by_cases e3 : q < i ∨ (j : Int) < (q : Int)
      · rw [if_pos e3, if_pos (by omega)]
      · rw [if_neg e3, if_neg (by omega)]
theorem Half.done {l m : List Nat} {i : Nat} {j : Int} (h : Half l m i j) (hij : ¬ (i : Int) < j) (hs : (i : Int) + j + 1 = l.length) : m = l.reverse := by
  obtain ⟨hl, hq⟩ := h
  apply List.ext_getElem?
  intro q
  by_cases hqn : q < l.length
  · rw [hq q hqn, List.getElem?_reverse hqn]
    by_cases e : q < i ∨ j < (q : Int)
    · rw [if_pos e]
    · rw [if_neg e]
      congr 1
      omega
  · rw [List.getElem?_eq_none (by omega), List.getElem?_eq_none (by simp; omega)]

end Go.Proofs.YtgelbihdcfgjcaaDoor
