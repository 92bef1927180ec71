/-
  The contract of cert.Find: what the plain function 'fndV' says; nothing old is turned. Conditions: lengths fit.
-/
import Derived.Test.YtednnfmomhallaaCe3
import Derived.Test.YtednnfmomhallaaCr3
import Derived.Test.YtednnfmomhallaaCrz
import Derived.Deep.Cut
namespace Go.Proofs.Ytednnfmomhallaa
open Go.RowKit Go.Shelf
attribute [local go_sem] Oper.semAt_some

def fndY (at_ : Int) (l : List Yd) : En × Bool := l.foldl (fun acc y => if y.1.at_ = at_ then (y.1, true) else acc) (enZ, false)
theorem fndY_snoc (at_ : Int) (l : List Yd) (y : Yd) : fndY at_ (l ++ [y]) = if y.1.at_ = at_ then (y.1, true) else fndY at_ l := by unfold fndY; rw [List.foldl_append]; rfl
/-- What Find tells: the entry, whether it is there, the error. -/
def fndR (L : List UInt8) (lo n : Nat) (at_ : Int) : (En × Bool) × Int :=
  if (hdE L).2 ≠ 0 then ((enZ, false), (hdE L).2) else
  if (tolD L lo n 6 (-1)).2.2 ≠ 0 then ((enZ, false), (tolD L lo n 6 (-1)).2.2) else (fndY at_ (ysA (tolD L lo n 6 (-1)).1), 0)
def fndV (r : (En × Bool) × Int) : Value := .tuple #[.agg (enA r.1.1), .bool r.1.2, .int .i64 r.2]
theorem results_cell3 {fn : Func} {p u v : Tmp} {tp tu tv : TypeId} (h : fn.results = #[.cell p tp, .cell u tu, .cell v tv]) (tmps : Array Value) (P : Program) (w : World) :
    (results fn tmps).run P w =
      ((asAddr (tmps.getD p undef)).run P w).andThen fun a w₁ => ((loadVar tp a).run P w₁).andThen fun x w₂ => ((asAddr (tmps.getD u undef)).run P w₂).andThen fun b w₃ => ((loadVar tu b).run P w₃).andThen fun y w₄ => ((asAddr (tmps.getD v undef)).run P w₄).andThen fun c w₅ => ((loadVar tv c).run P w₅).andThen fun z w₆ => .ok (.tuple #[x, y, z]) w₆ := by
  simp only [results, h]
  simp [Sem.run_bind, Result.andThen]
/-- Find's own boxes: the address, the result's three. -/
structure FB (w W : World) (at_ : Int) (x : En) (b : Bool) (e : Int) : Prop where
  a : W.heap[w.heap.size]? = some (.cells #[.int .i64 at_] 3 (0, 0))
  x : EAt W (w.heap.size + 1) x
  b : W.heap[w.heap.size + 2]? = some (.cells #[.bool b] 4 (0, 0))
  e : W.heap[w.heap.size + 3]? = some (.cells #[.int .i64 e] 26 (0, 0))
  bel : Below w.heap.size w W
theorem FB.lt {w W : World} {at_ : Int} {x : En} {b : Bool} {e : Int} (h : FB w W at_ x b e) : w.heap.size + 3 < W.heap.size := (Array.getElem?_eq_some_iff.1 h.e).1
theorem FB.move {w W W' : World} {at_ : Int} {x : En} {b : Bool} {e : Int} (h : FB w W at_ x b e) (hb : Below w.heap.size W W') (hs : ∀ r, w.heap.size ≤ r → r ≤ w.heap.size + 3 → W'.heap[r]? = W.heap[r]?) : FB w W' at_ x b e :=
  ⟨(hs _ (by omega) (by omega)).trans h.a, (hs _ (by omega) (by omega)).trans h.x, (hs _ (by omega) (by omega)).trans h.b, (hs _ (by omega) (by omega)).trans h.e, h.bel.trans hb⟩
theorem FB.below {w W W' : World} {at_ : Int} {x : En} {b : Bool} {e : Int} (h : FB w W at_ x b e) (hb : Below W.heap.size W W') : FB w W' at_ x b e :=
  h.move (hb.mono h.bel.size) (fun r _ _ => hb.block r (by have := h.lt; omega))
theorem FB.new (w : World) (at_ : Int) : FB w ((((w.alloc (.cells #[.int .i64 at_] 3)).alloc (.cells (enA enZ) 42)).alloc (.cells #[.bool false] 4)).alloc (.cells #[.int .i64 0] 26)) at_ enZ false 0 := by
  have n1 := heap_alloc_new w (.cells #[.int .i64 at_] 3)
  have n2 := heap_alloc_new (w.alloc (.cells #[.int .i64 at_] 3)) (.cells (enA enZ) 42)
  have n3 := heap_alloc_new ((w.alloc (.cells #[.int .i64 at_] 3)).alloc (.cells (enA enZ) 42)) (.cells #[.bool false] 4)
  have n4 := heap_alloc_new (((w.alloc (.cells #[.int .i64 at_] 3)).alloc (.cells (enA enZ) 42)).alloc (.cells #[.bool false] 4)) (.cells #[.int .i64 0] 26)
  simp only [World.size_alloc] at n2 n3 n4
  have k1 := (Below.refl _ (((w.alloc (.cells #[.int .i64 at_] 3)).alloc (.cells (enA enZ) 42)).alloc (.cells #[.bool false] 4))).alloc (Nat.le_refl _) (.cells #[.int .i64 0] 26)
  have k2 := (Below.refl _ ((w.alloc (.cells #[.int .i64 at_] 3)).alloc (.cells (enA enZ) 42))).alloc (Nat.le_refl _) (.cells #[.bool false] 4)
  have k3 := (Below.refl _ (w.alloc (.cells #[.int .i64 at_] 3))).alloc (Nat.le_refl _) (.cells (enA enZ) 42)
  refine ⟨?_, ?_, ?_, n4, ?_⟩
  · exact (k1.block _ (by simp; omega)).trans ((k2.block _ (by simp; omega)).trans ((k3.block _ (by simp)).trans n1))
  · exact (k1.block _ (by simp)).trans ((k2.block _ (by simp)).trans n2)
  · exact (k1.block _ (by simp)).trans n3
  · exact ((((Below.refl w.heap.size w).alloc (Nat.le_refl _) _).alloc (by simp) _).alloc (by simp; omega) _).alloc (by simp; omega) _
theorem FB.results {w W : World} {at_ : Int} {x : En} {b : Bool} {e : Int} (h : FB w W at_ x b e) (hx : FrOk x.fr) {fn : Func} {p u v : Tmp} (hf : fn.results = #[.cell p 42, .cell u 4, .cell v 26]) (tmps : Array Value)
    (hp : tmps.getD p undef = .pointer (some ⟨w.heap.size + 1, 0, none⟩)) (hu : tmps.getD u undef = .pointer (some ⟨w.heap.size + 2, 0, none⟩)) (hv : tmps.getD v undef = .pointer (some ⟨w.heap.size + 3, 0, none⟩)) :
    (results fn tmps).run Try.prog W = .ok (fndV ((x, b), e)) W := by
  have c2 : W.cell? ⟨w.heap.size + 2, 0, none⟩ = some (.bool b) := cell_of_row _ _ 0 _ _ _ h.b
  have c3 : W.cell? ⟨w.heap.size + 3, 0, none⟩ = some (.int .i64 e) := cell_of_row _ _ 0 _ _ _ h.e
  rw [results_cell3 hf, hp, hu, hv, run_addr, Result.andThen_ok, run_loadVar_row W (w.heap.size + 1) 42 42 (enA x) (0, 0) _ h.x Try.underlying42 rfl (sizeEn hx), Result.andThen_ok, run_addr, Result.andThen_ok]
  go_simp
  rfl

theorem box_set {W : World} {g : Nat} {u : Value} {t : TypeId} (h : W.heap[g]? = some (.cells #[u] t (0, 0))) (v : Value) : (W.setCell ⟨g, 0, none⟩ v).heap[g]? = some (.cells #[v] t (0, 0)) := by
  simp only [World.setCell, Array.getElem?_modify, if_true, h]
  rfl
theorem grown_setCell (W : World) (g i : Nat) (v : Value) : W.grownBy (W.setCell ⟨g, i, none⟩ v) (some g) :=
  ⟨rfl, rfl, rfl, by simp, fun j _ hj => Below.heap_setCell W ⟨g, i, none⟩ v j (fun e => hj (by rw [e]))⟩
theorem FB.setX {w W : World} {at_ : Int} {x : En} {b : Bool} {e : Int} (h : FB w W at_ x b e) (y : En) : FB w (W.setRow (w.heap.size + 1) (enA y)) at_ y b e :=
  ⟨(setRow_other _ _ _ _ (by omega)).trans h.a, h.x.row y, (setRow_other _ _ _ _ (by omega)).trans h.b, (setRow_other _ _ _ _ (by omega)).trans h.e, below_setRow' h.bel (by omega) _⟩
theorem FB.setB {w W : World} {at_ : Int} {x : En} {b : Bool} {e : Int} (h : FB w W at_ x b e) (b' : Bool) : FB w (W.setCell ⟨w.heap.size + 2, 0, none⟩ (.bool b')) at_ x b' e :=
  ⟨(Below.heap_setCell _ _ _ _ (by simp)).trans h.a, (Below.heap_setCell _ _ _ _ (by simp)).trans h.x, box_set h.b _, (Below.heap_setCell _ _ _ _ (by simp)).trans h.e, h.bel.setCell (p := ⟨w.heap.size + 2, 0, none⟩) (by simp) _⟩
theorem FB.setE {w W : World} {at_ : Int} {x : En} {b : Bool} {e : Int} (h : FB w W at_ x b e) (e' : Int) : FB w (W.setCell ⟨w.heap.size + 3, 0, none⟩ (.int .i64 e')) at_ x b e' :=
  ⟨(Below.heap_setCell _ _ _ _ (by simp)).trans h.a, (Below.heap_setCell _ _ _ _ (by simp)).trans h.x, (Below.heap_setCell _ _ _ _ (by simp)).trans h.b, box_set h.e _, h.bel.setCell (p := ⟨w.heap.size + 3, 0, none⟩) (by simp) _⟩
theorem FB.drew {w W : World} {at_ : Int} {x : En} {b : Bool} {e : Int} (h : FB w W at_ x b e) : FB w W.drew at_ x b e := ⟨h.a, h.x, h.b, h.e, belowD h.bel 1⟩
theorem FB.cb {w W : World} {at_ : Int} {x : En} {b : Bool} {e : Int} (h : FB w W at_ x b e) : W.cell? ⟨w.heap.size + 2, 0, none⟩ = some (.bool b) ∧ W.frozen? ⟨w.heap.size + 2, 0, none⟩ = false := ⟨cell_of_row _ _ 0 _ _ _ h.b, frozen_of_row _ _ _ _ _ h.b⟩
theorem FB.ce {w W : World} {at_ : Int} {x : En} {b : Bool} {e : Int} (h : FB w W at_ x b e) : W.cell? ⟨w.heap.size + 3, 0, none⟩ = some (.int .i64 e) ∧ W.frozen? ⟨w.heap.size + 3, 0, none⟩ = false := ⟨cell_of_row _ _ 0 _ _ _ h.e, frozen_of_row _ _ _ _ _ h.e⟩

/-- The boxes of Find's loop: Find's own, the entry found, whether there is one. -/
structure FG (w W : World) (at_ : Int) (f0 : Nat) (r : En × Bool) : Prop where
  fb : FB w W at_ enZ false 0
  f : EAt W f0 r.1
  i : W.heap[f0 + 1]? = some (.cells #[.bool r.2] 4 (0, 0))
theorem FG.grown {w W W' : World} {at_ : Int} {f0 : Nat} {r : En × Bool} {row : Option Nat} (h : FG w W at_ f0 r) (hg : W.grownBy W' row) (hr : ∀ k, row = some k → w.heap.size + 3 < k ∧ k ≠ f0 ∧ k ≠ f0 + 1) : FG w W' at_ f0 r :=
  ⟨h.fb.move (below_grown hg h.fb.bel.size (fun k e => by have := (hr k e).1; omega)) (fun k h1 h2 => hg.block k (by have := h.fb.lt; omega) (fun e => by have := (hr k e.symm).1; omega)), (hg.block f0 h.f.lt (fun e => (hr _ e.symm).2.1 rfl)).trans h.f, (hg.block (f0 + 1) (Array.getElem?_eq_some_iff.1 h.i).1 (fun e => (hr _ e.symm).2.2 rfl)).trans h.i⟩
theorem fnd_ok {at_ : Int} : ∀ (l : List Yd) (acc : En × Bool), FrOk acc.1.fr → (∀ y ∈ l, y.2.2 = 0 ∧ FrOk y.1.fr) → FrOk (l.foldl (fun acc y => if y.1.at_ = at_ then (y.1, true) else acc) acc).1.fr
  | [], _, h, _ => h
  | y :: l, acc, h, hl => by
    rw [List.foldl_cons]
    refine fnd_ok l _ ?_ (fun z hz => hl z (List.mem_cons_of_mem _ hz))
    split
    · exact (hl y (List.mem_cons_self ..)).2
    · exact h
theorem fndY_ok {at_ : Int} {l : List Yd} (h : ∀ y ∈ l, y.2.2 = 0 ∧ FrOk y.1.fr) : FrOk (fndY at_ l).1.fr := fnd_ok l _ enZ_ok h
theorem ys_bad {A : List (En × Nat)} {q : Nat} {er : Int} {x : Yd} (h : x ∈ ysT A q er) (hx : x.2.2 ≠ 0) : x.2.2 = er ∧ er ≠ 0 := by
  unfold ysT at h
  rcases List.mem_append.1 h with h | h
  · obtain ⟨a, _, rfl⟩ := List.mem_map.1 h
    exact absurd rfl hx
  · by_cases he : er = 0
    · rw [if_pos he] at h
      cases h
    · rw [if_neg he] at h
      rw [List.mem_singleton.1 h]
      exact ⟨rfl, he⟩
theorem ys_good {A : List (En × Nat)} {q : Nat} {er : Int} (h : ∀ y ∈ ysT A q er, y.2.2 = 0) : er = 0 := by
  refine Decidable.byContradiction fun he => he (h (enZ, (q : Int), er) ?_)
  unfold ysT
  rw [if_neg he]
  simp
theorem mem_of_pre {pre l : List Yd} {x : Yd} (h : pre ++ [x] <+: l) : x ∈ l := h.subset (by simp)

end Go.Proofs.Ytednnfmomhallaa
