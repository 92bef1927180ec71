/-
  The contract of cert.Find: what the plain function 'fndV' says; nothing old is turned. Conditions: lengths fit.
-/
import Derived.Test.YthejnhdabokhjaaCe3
import Derived.Test.YthejnhdabokhjaaCr3
import Derived.Test.YthejnhdabokhjaaWalkCertReads
import Derived.Deep.Cut
namespace Go.Proofs.Ythejnhdabokhjaa
open Go.RowKit Go.Shelf
attribute [local go_sem] Oper.semAt_some

def fndY (at_ : Int) (l : List Yd) : En × Bool := l.foldl (fun acc y => if y.1.at_ = at_ then (y.1, true) else acc) (enZ, false)
theorem fndY_snoc (at_ : Int) (l : List Yd) (y : Yd) : fndY at_ (l ++ [y]) = if y.1.at_ = at_ then (y.1, true) else fndY at_ l := by unfold fndY; rw [List.foldl_append]; rfl
/-- What Find tells: the entry, whether it is there, the error. -/
def fndR (L : List UInt8) (lo n : Nat) (at_ : Int) : (En × Bool) × Int :=
  if (hdE L).2 ≠ 0 then ((enZ, false), (hdE L).2) else
  if (tolD L lo n 6 (-1)).2.2 ≠ 0 then ((enZ, false), (tolD L lo n 6 (-1)).2.2) else (fndY at_ (ysA (tolD L lo n 6 (-1)).1), 0)
def fndV (r : (En × Bool) × Int) : Value := .tuple #[.agg (enA r.1.1), .bool r.1.2, .int .i64 r.2]
theorem results_cell3 {fn : Func} {p u v : Tmp} {tp tu tv : TypeId} (h : fn.results = #[.cell p tp, .cell u tu, .cell v tv]) (tmps : Array Value) (P : Program) (w : World) :
    (results fn tmps).run P w =
      ((asAddr (tmps.getD p undef)).run P w).andThen fun a w₁ => ((loadVar tp a).run P w₁).andThen fun x w₂ => ((asAddr (tmps.getD u undef)).run P w₂).andThen fun b w₃ => ((loadVar tu b).run P w₃).andThen fun y w₄ => ((asAddr (tmps.getD v undef)).run P w₄).andThen fun c w₅ => ((loadVar tv c).run P w₅).andThen fun z w₆ => .ok (.tuple #[x, y, z]) w₆ := by
  simp only [results, h]
  simp [Sem.run_bind, Result.andThen]
/-- Find's own boxes: the address, the result's three. -/
structure FB (w W : World) (at_ : Int) (x : En) (b : Bool) (e : Int) : Prop where
  a : W.heap[w.heap.size]? = some (.cells #[.int .i64 at_] 3 (0, 0))
  x : EAt W (w.heap.size + 1) x
  b : W.heap[w.heap.size + 2]? = some (.cells #[.bool b] 4 (0, 0))
  e : W.heap[w.heap.size + 3]? = some (.cells #[.int .i64 e] 26 (0, 0))
  bel : Below w.heap.size w W
theorem FB.lt {w W : World} {at_ : Int} {x : En} {b : Bool} {e : Int} (h : FB w W at_ x b e) : w.heap.size + 3 < W.heap.size := (Array.getElem?_eq_some_iff.1 h.e).1
theorem FB.move {w W W' : World} {at_ : Int} {x : En} {b : Bool} {e : Int} (h : FB w W at_ x b e) (hb : Below w.heap.size W W') (hs : ∀ r, w.heap.size ≤ r → r ≤ w.heap.size + 3 → W'.heap[r]? = W.heap[r]?) : FB w W' at_ x b e :=
  ⟨(hs _ (by omega) (by omega)).trans h.a, (hs _ (by omega) (by omega)).trans h.x, (hs _ (by omega) (by omega)).trans h.b, (hs _ (by omega) (by omega)).trans h.e, h.bel.trans hb⟩
theorem FB.below {w W W' : World} {at_ : Int} {x : En} {b : Bool} {e : Int} (h : FB w W at_ x b e) (hb : Below W.heap.size W W') : FB w W' at_ x b e :=
  h.move (hb.mono h.bel.size) (fun r _ _ => hb.block r (by have := h.lt; omega))
theorem FB.new (w : World) (at_ : Int) : FB w ((((w.alloc (.cells #[.int .i64 at_] 3)).alloc (.cells (enA enZ) 44)).alloc (.cells #[.bool false] 4)).alloc (.cells #[.int .i64 0] 26)) at_ enZ false 0 := by
  have n1 := heap_alloc_new w (.cells #[.int .i64 at_] 3)
  have n2 := heap_alloc_new (w.alloc (.cells #[.int .i64 at_] 3)) (.cells (enA enZ) 44)
  have n3 := heap_alloc_new ((w.alloc (.cells #[.int .i64 at_] 3)).alloc (.cells (enA enZ) 44)) (.cells #[.bool false] 4)
  have n4 := heap_alloc_new (((w.alloc (.cells #[.int .i64 at_] 3)).alloc (.cells (enA enZ) 44)).alloc (.cells #[.bool false] 4)) (.cells #[.int .i64 0] 26)
  simp only [World.size_alloc] at n2 n3 n4
  have k1 := (Below.refl _ (((w.alloc (.cells #[.int .i64 at_] 3)).alloc (.cells (enA enZ) 44)).alloc (.cells #[.bool false] 4))).alloc (Nat.le_refl _) (.cells #[.int .i64 0] 26)
  have k2 := (Below.refl _ ((w.alloc (.cells #[.int .i64 at_] 3)).alloc (.cells (enA enZ) 44))).alloc (Nat.le_refl _) (.cells #[.bool false] 4)
  have k3 := (Below.refl _ (w.alloc (.cells #[.int .i64 at_] 3))).alloc (Nat.le_refl _) (.cells (enA enZ) 44)
  refine ⟨?_, ?_, ?_, n4, ?_⟩
  · exact (k1.block _ (by simp; omega)).trans ((k2.block _ (by simp; omega)).trans ((k3.block _ (by simp)).trans n1))
  · exact (k1.block _ (by simp)).trans ((k2.block _ (by simp)).trans n2)
  · exact (k1.block _ (by simp)).trans n3
  · exact ((((Below.refl w.heap.size w).alloc (Nat.le_refl _) _).alloc (by simp) _).alloc (by simp; omega) _).alloc (by simp; omega) _
theorem FB.results {w W : World} {at_ : Int} {x : En} {b : Bool} {e : Int} (h : FB w W at_ x b e) (hx : FrOk x.fr) {fn : Func} {p u v : Tmp} (hf : fn.results = #[.cell p 44, .cell u 4, .cell v 26]) (tmps : Array Value)
    (hp : tmps.getD p undef = .pointer (some ⟨w.heap.size + 1, 0, none⟩)) (hu : tmps.getD u undef = .pointer (some ⟨w.heap.size + 2, 0, none⟩)) (hv : tmps.getD v undef = .pointer (some ⟨w.heap.size + 3, 0, none⟩)) :
    (results fn tmps).run Try.prog W = .ok (fndV ((x, b), e)) W := by
  have c2 : W.cell? ⟨w.heap.size + 2, 0, none⟩ = some (.bool b) := cell_of_row _ _ 0 _ _ _ h.b
  have c3 : W.cell? ⟨w.heap.size + 3, 0, none⟩ = some (.int .i64 e) := cell_of_row _ _ 0 _ _ _ h.e
  rw [results_cell3 hf, hp, hu, hv, run_addr, Result.andThen_ok, run_loadVar_row W (w.heap.size + 1) 44 44 (enA x) (0, 0) _ h.x Try.underlying44 rfl (sizeEn hx), Result.andThen_ok, run_addr, Result.andThen_ok]
  go_simp
  rfl

theorem box_set {W : World} {g : Nat} {u : Value} {t : TypeId} (h : W.heap[g]? = some (.cells #[u] t (0, 0))) (v : Value) : (W.setCell ⟨g, 0, none⟩ v).heap[g]? = some (.cells #[v] t (0, 0)) := by
  simp only [World.setCell, Array.getElem?_modify, if_true, h]
  rfl
theorem grown_setCell (W : World) (g i : Nat) (v : Value) : W.grownBy (W.setCell ⟨g, i, none⟩ v) (some g) :=
  ⟨rfl, rfl, rfl, by simp, fun j _ hj => Below.heap_setCell W ⟨g, i, none⟩ v j (fun e => hj (by rw [e]))⟩
theorem FB.setX {w W : World} {at_ : Int} {x : En} {b : Bool} {e : Int} (h : FB w W at_ x b e) (y : En) : FB w (W.setRow (w.heap.size + 1) (enA y)) at_ y b e :=
  ⟨(setRow_other _ _ _ _ (by omega)).trans h.a, h.x.row y, (setRow_other _ _ _ _ (by omega)).trans h.b, (setRow_other _ _ _ _ (by omega)).trans h.e, below_setRow' h.bel (by omega) _⟩
theorem FB.setB {w W : World} {at_ : Int} {x : En} {b : Bool} {e : Int} (h : FB w W at_ x b e) (b' : Bool) : FB w (W.setCell ⟨w.heap.size + 2, 0, none⟩ (.bool b')) at_ x b' e :=
  ⟨(Below.heap_setCell _ _ _ _ (by simp)).trans h.a, (Below.heap_setCell _ _ _ _ (by simp)).trans h.x, box_set h.b _, (Below.heap_setCell _ _ _ _ (by simp)).trans h.e, h.bel.setCell (p := ⟨w.heap.size + 2, 0, none⟩) (by simp) _⟩
theorem FB.setE {w W : World} {at_ : Int} {x : En} {b : Bool} {e : Int} (h : FB w W at_ x b e) (e' : Int) : FB w (W.setCell ⟨w.heap.size + 3, 0, none⟩ (.int .i64 e')) at_ x b e' :=
  ⟨(Below.heap_setCell _ _ _ _ (by simp)).trans h.a, (Below.heap_setCell _ _ _ _ (by simp)).trans h.x, (Below.heap_setCell _ _ _ _ (by simp)).trans h.b, box_set h.e _, h.bel.setCell (p := ⟨w.heap.size + 3, 0, none⟩) (by simp) _⟩
theorem FB.drew {w W : World} {at_ : Int} {x : En} {b : Bool} {e : Int} (h : FB w W at_ x b e) : FB w W.drew at_ x b e := ⟨h.a, h.x, h.b, h.e, belowD h.bel 1⟩
theorem FB.cb {w W : World} {at_ : Int} {x : En} {b : Bool} {e : Int} (h : FB w W at_ x b e) : W.cell? ⟨w.heap.size + 2, 0, none⟩ = some (.bool b) ∧ W.frozen? ⟨w.heap.size + 2, 0, none⟩ = false := ⟨cell_of_row _ _ 0 _ _ _ h.b, frozen_of_row _ _ _ _ _ h.b⟩
theorem FB.ce {w W : World} {at_ : Int} {x : En} {b : Bool} {e : Int} (h : FB w W at_ x b e) : W.cell? ⟨w.heap.size + 3, 0, none⟩ = some (.int .i64 e) ∧ W.frozen? ⟨w.heap.size + 3, 0, none⟩ = false := ⟨cell_of_row _ _ 0 _ _ _ h.e, frozen_of_row _ _ _ _ _ h.e⟩

/-- The boxes of Find's loop: Find's own, the entry found, whether there is one. -/
structure FG (w W : World) (at_ : Int) (f0 : Nat) (r : En × Bool) : Prop where
  fb : FB w W at_ enZ false 0
  f : EAt W f0 r.1
  i : W.heap[f0 + 1]? = some (.cells #[.bool r.2] 4 (0, 0))
theorem FG.grown {w W W' : World} {at_ : Int} {f0 : Nat} {r : En × Bool} {row : Option Nat} (h : FG w W at_ f0 r) (hg : W.grownBy W' row) (hr : ∀ k, row = some k → w.heap.size + 3 < k ∧ k ≠ f0 ∧ k ≠ f0 + 1) : FG w W' at_ f0 r :=
  ⟨h.fb.move (below_grown hg h.fb.bel.size (fun k e => by have := (hr k e).1; omega)) (fun k h1 h2 => hg.block k (by have := h.fb.lt; omega) (fun e => by have := (hr k e.symm).1; omega)), (hg.block f0 h.f.lt (fun e => (hr _ e.symm).2.1 rfl)).trans h.f, (hg.block (f0 + 1) (Array.getElem?_eq_some_iff.1 h.i).1 (fun e => (hr _ e.symm).2.2 rfl)).trans h.i⟩
theorem fnd_ok {at_ : Int} : ∀ (l : List Yd) (acc : En × Bool), FrOk acc.1.fr → (∀ y ∈ l, y.2.2 = 0 ∧ FrOk y.1.fr) → FrOk (l.foldl (fun acc y => if y.1.at_ = at_ then (y.1, true) else acc) acc).1.fr
  | [], _, h, _ => h
  | y :: l, acc, h, hl => by
    rw [List.foldl_cons]
    refine fnd_ok l _ ?_ (fun z hz => hl z (List.mem_cons_of_mem _ hz))
    split
    · exact (hl y (List.mem_cons_self ..)).2
    · exact h
theorem fndY_ok {at_ : Int} {l : List Yd} (h : ∀ y ∈ l, y.2.2 = 0 ∧ FrOk y.1.fr) : FrOk (fndY at_ l).1.fr := fnd_ok l _ enZ_ok h
theorem ys_bad {A : List (En × Nat)} {q : Nat} {er : Int} {x : Yd} (h : x ∈ ysT A q er) (hx : x.2.2 ≠ 0) : x.2.2 = er ∧ er ≠ 0 := by
  unfold ysT at h
  rcases List.mem_append.1 h with h | h
  · obtain ⟨a, _, rfl⟩ := List.mem_map.1 h
    exact absurd rfl hx
  · by_cases he : er = 0
    · rw [if_pos he] at h
      cases h
    · rw [if_neg he] at h
      rw [List.mem_singleton.1 h]
      exact ⟨rfl, he⟩
theorem ys_good {A : List (En × Nat)} {q : Nat} {er : Int} (h : ∀ y ∈ ysT A q er, y.2.2 = 0) : er = 0 := by
  refine Decidable.byContradiction fun he => he (h (enZ, (q : Int), er) ?_)
  unfold ysT
  rw [if_neg he]
  simp
theorem mem_of_pre {pre l : List Yd} {x : Yd} (h : pre ++ [x] <+: l) : x ∈ l := h.subset (by simp)

set_option maxRecDepth 20000 in
set_option maxHeartbeats 4000000 in
theorem Find_any (ao : Option Addr) (c : Nat) (L : List UInt8) (lo n : Nat) (at_ : Int) (w : World) (hb : BAt w ao L) (hl : L.length ≤ 140737488355328) (hlo : at8 L 3 = lo) (hn4 : wdD L 4 = n) :
    Calls Try.prog 20 #[.slice ao L.length c, .int .i64 at_] w fun e w' => e = .returned (fndV (fndR L lo n at_)) ∧ Below w.heap.size w w' := by
  have HBt := hide hb
  have HF0 := hide (FB.new w at_)
  clear hb
  refine mk_calls Try.func20 rfl ?_
  simp only [Try.ntmps20, List.size_toArray, List.length_cons, List.length_nil, Nat.reduceAdd, Nat.reduceSub, Array.replicate_succ, Array.replicate_zero, List.push_toArray, List.append_toArray, List.nil_append, List.cons_append]
  go_wp2_with fail
  rw [enZ_eq]
  generalize ((((w.alloc (.cells #[.int .i64 at_] 3)).alloc (.cells (enA enZ) 44)).alloc (.cells #[.bool false] 4)).alloc (.cells #[.int .i64 0] 26)) = W1 at HF0 ⊢
  refine (open_any ao c L W1 ((unhide HBt).below' (unhide HF0).bel) hl).mono ?_
  rintro e W2 ⟨hB2, ⟨h0, gr, hgr, rfl, hR⟩ | ⟨h0, rfl⟩⟩
  · obtain ⟨h6, h16, h4k⟩ := mkE_good 3 0 h0
    rw [hlo, hn4] at hR
    have hlo' : lo ≤ 16 := by omega
    have hn' : n ≤ 4096 := by omega
    obtain ⟨A, q, er, HT⟩ : ∃ A q er, Hid (tolD L lo n 6 (-1) = (A, q, er)) := ⟨_, _, _, hide rfl⟩
    have HRs : Hid (fndR L lo n at_ = if er ≠ 0 then ((enZ, false), er) else (fndY at_ (ysA A), 0)) := hide (by unfold fndR; rw [if_neg (by omega), unhide HT])
    have HF2 := hide ((unhide HF0).below hB2)
    have hlt1 := (unhide HF0).lt
    have HR2 := hide hR
    clear hB2 HF0 h0 hR h16 h4k hlo hn4
    unfold ftV
    go_wp2_with fail
    rw [enZ_eq]
    have al1 := (Below.refl W2.heap.size W2).alloc (Nat.le_refl _) (.cells #[.int .i64 0, .int .i64 0] 72)
    have al2 := al1.alloc (by simp) (.cells (enA enZ) 44)
    have al3 := al2.alloc (by simp; omega) (.cells #[.bool false] 4)
    have hsz : (((W2.alloc (.cells #[.int .i64 0, .int .i64 0] 72)).alloc (.cells (enA enZ) 44)).alloc (.cells #[.bool false] 4)).heap.size = W2.heap.size + 3 := by simp
    have HG3 : Hid (FG w (((W2.alloc (.cells #[.int .i64 0, .int .i64 0] 72)).alloc (.cells (enA enZ) 44)).alloc (.cells #[.bool false] 4)) at_ (W2.heap.size + 1) (enZ, false)) := hide (by
      have n2 := heap_alloc_new (W2.alloc (.cells #[.int .i64 0, .int .i64 0] 72)) (.cells (enA enZ) 44)
      have n3 := heap_alloc_new ((W2.alloc (.cells #[.int .i64 0, .int .i64 0] 72)).alloc (.cells (enA enZ) 44)) (.cells #[.bool false] 4)
      simp only [World.size_alloc] at n2 n3
      exact ⟨(unhide HF2).below al3, (((Below.refl _ _).alloc (Nat.le_refl _) _).block (W2.heap.size + 1) (by simp)).trans n2, n3⟩)
    have HR3 := hide ((unhide HR2).below al3)
    have hgr2 := (unhide HR2).lt
    clear al1 al2 al3 HF2 HR2
    generalize (((W2.alloc (.cells #[.int .i64 0, .int .i64 0] 72)).alloc (.cells (enA enZ) 44)).alloc (.cells #[.bool false] 4)) = V at HG3 HR3 hsz ⊢
    refine (entriesMake_any gr V).mono ?_
    rintro e V' ⟨rfl, hV'⟩
    have hB4 : Below V.heap.size V V' := by rw [hV']; exact (Below.refl _ _).alloc (Nat.le_refl _) _
    have HBr4 : Hid (V'.heap[W2.heap.size + 3]? = some (.cells #[.pointer (some ⟨gr, 0, none⟩)] 50 (0, 0))) := hide (by rw [hV', ← hsz]; exact heap_alloc_new V _)
    have hsz4 : V'.heap.size = W2.heap.size + 4 := by rw [hV']; simp [hsz]
    have HG4 : Hid (FG w V' at_ (W2.heap.size + 1) (enZ, false)) := hide ((unhide HG3).grown (grown_of hB4 none) (fun k e => by cases e))
    have HR4 := hide ((unhide HR3).below hB4)
    rw [hsz]
    clear hV' hB4 HG3 HR3 hsz V
    go_upto_region 7 with fail
    have hfl := (unhide HG4).f.lt
    refine range_entries 4 (by omega) (W2.heap.size + 3) gr (c := c) w (unhide HBt) hl h6 hlo' hn' (unhide HT) rfl rfl (unhide HG4).fb.bel (unhide HBr4) (unhide HR4) (by have := (unhide HG4).fb.bel.size; omega) (by omega)
      (fun _ pre W => FG w W at_ (W2.heap.size + 1) (fndY at_ pre) ∧ ∀ y ∈ pre, y.2.2 = 0 ∧ FrOk y.1.fr)
      (fun xs W => ∃ pre x, xs = pre ++ [x] ∧ x.2.2 ≠ 0 ∧ FB w W at_ enZ false x.2.2)
      (fun B0 pre x a₁ W => (FG w W at_ (W2.heap.size + 1) (fndY at_ pre) ∧ ∀ y ∈ pre, y.2.2 = 0 ∧ FrOk y.1.fr) ∧ B0 ≤ W.heap.size ∧ ∃ bx, B0 ≤ bx ∧ bx + 1 < W.heap.size ∧ EAt W bx x.1 ∧ FtAt W (bx + 1) x.2.1 x.2.2 ∧ a₁ = { tmps := #[.slice ao L.length c, .int .i64 at_, undef, .pointer (some ⟨w.heap.size, 0, none⟩), .pointer (some ⟨w.heap.size + 1, 0, none⟩), .pointer (some ⟨w.heap.size + 1 + 1, 0, none⟩), .pointer (some ⟨w.heap.size + 1 + 1 + 1, 0, none⟩), .pointer (some ⟨gr, 0, none⟩), .pointer (some ⟨W2.heap.size, 0, none⟩), .pointer (some ⟨W2.heap.size + 1, 0, none⟩), .pointer (some ⟨W2.heap.size + 1 + 1, 0, none⟩), .pointer (some ⟨bx, 0, none⟩), .pointer (some ⟨bx + 1, 0, none⟩), .tuple #[.pointer (some ⟨gr, 0, none⟩), .agg #[.int .i64 0, .int .i64 0]], .slice ao L.length c, .tuple #[.pointer (some ⟨gr, 0, none⟩), .agg #[.int .i64 0, .int .i64 0]], .pointer (some ⟨gr, 0, none⟩), .agg #[.int .i64 0, .int .i64 0], .pointer (some ⟨W2.heap.size, 1, none⟩), .int .i64 0, .bool false, undef, undef, undef, .pointer (some ⟨gr, 0, none⟩), .func (.func 56) #[] #[.pointer (some ⟨W2.heap.size + 3, 0, none⟩)], .agg (enA x.1), .agg #[.int .i64 x.2.1, .int .i64 x.2.2], undef, undef, undef, undef, undef, undef, undef, undef, undef, undef, undef, undef, undef], defers := [] })
      ?abide ?abidex ?start ?assign ?mid ?body ?done ?stop
    case abide =>
      rintro B0 pre U1 U2 row ⟨u1, u2⟩ hgw hr
      exact ⟨u1.grown hgw (fun k e => by rcases hr k e with h | h <;> omega), u2⟩
    case abidex =>
      rintro xs U1 o ⟨pre, x, h1, h2, h3⟩
      exact ⟨pre, x, h1, h2, h3.move (below_grown (grownBy_putObj' _ _ _) h3.bel.size (fun k e => by injection e with e; omega)) (fun r r1 r2 => (grownBy_putObj' U1 _ o).block r (by have := h3.lt; omega) (fun e => by injection e with e; omega))⟩
    case start => exact fun B0 _ => ⟨unhide HG4, fun y hy => by cases hy⟩
    case mid =>
      rintro B0 pre x a₁ U1 o hB0 ⟨⟨u1, u2⟩, u3, bx, u4, u5, u6, u7, u8⟩
      have g := grownBy_putObj' U1 (V'.heap.size + 1) o
      exact ⟨⟨u1.grown g (fun k e => by injection e with e; omega), u2⟩, Nat.le_trans u3 g.size, bx, u4, Nat.lt_of_lt_of_le u5 g.size, (g.block bx (by omega) (fun e => by injection e with e; omega)).trans u6, (g.block (bx + 1) u5 (fun e => by injection e with e; omega)).trans u7, u8⟩
    case assign =>
      rintro l B0 pre x U hB0 hU ⟨u1, u2⟩ hpre hx
      have HU1 := hide u1
      have HU2 := hide u2
      have E1 : Hid (EAt (U.alloc (.cells (enA enZ) 44)) U.heap.size enZ) := hide (EAt.new U enZ)
      have E2 := hide ((unhide E1).row x.1)
      have bl : Below U.heap.size U (((U.alloc (.cells (enA enZ) 44)).setRow U.heap.size (enA x.1)).alloc (.cells #[.int .i64 x.2.1, .int .i64 x.2.2] 72)) := (below_setRow' ((Below.refl _ _).alloc (Nat.le_refl _) _) (Nat.le_refl _) _).alloc (by simp) _
      have E3 : Hid (EAt (((U.alloc (.cells (enA enZ) 44)).setRow U.heap.size (enA x.1)).alloc (.cells #[.int .i64 x.2.1, .int .i64 x.2.2] 72)) U.heap.size x.1) := hide ((((Below.refl _ _).alloc (Nat.le_refl _) _).block U.heap.size (by simp)).trans (unhide E2))
      have F2 : Hid (FtAt (((U.alloc (.cells (enA enZ) 44)).setRow U.heap.size (enA x.1)).alloc (.cells #[.int .i64 x.2.1, .int .i64 x.2.2] 72)) (U.heap.size + 1) x.2.1 x.2.2) := hide (by
        have := heap_alloc_new ((U.alloc (.cells (enA enZ) 44)).setRow U.heap.size (enA x.1)) (.cells #[.int .i64 x.2.1, .int .i64 x.2.2] 72)
        simp only [size_setRow, World.size_alloc] at this
        exact this)
      have usz : (((U.alloc (.cells (enA enZ) 44)).setRow U.heap.size (enA x.1)).alloc (.cells #[.int .i64 x.2.1, .int .i64 x.2.2] 72)).heap.size = U.heap.size + 2 := by simp
      clear u1 u2
      unfold encY ftV
      gi_wp2_with (refine wpListIn_store_s rfl 44 (.tmp 11) (.tmp 26) rfl U.heap.size (enA x.1) rfl rfl 44 (enA enZ) (unhide E1) (sizeEn hx) (sizeEqEn enZ_ok hx) (enA_one _) ?_; simp only [Act.put])
      rw [enZ_eq]
      simp only [size_setRow, World.size_alloc]
      generalize (((U.alloc (.cells (enA enZ) 44)).setRow U.heap.size (enA x.1)).alloc (.cells #[.int .i64 x.2.1, .int .i64 x.2.2] 72)) = V at bl E3 F2 usz ⊢
      exact ⟨bl.block _ (by omega), bl.block _ (by omega), Kpt.of_grown (grown_of bl none) (by have := (unhide HU1).fb.bel.size; omega) (by omega) (by omega) hU (fun r e => by cases e), ⟨(unhide HU1).grown (grown_of bl none) (fun k e => by cases e), unhide HU2⟩, by omega, U.heap.size, by omega, by omega, unhide E3, unhide F2, rfl⟩
    case body =>
      rintro l B0 pre x a₁ U hB0 hpre hx ⟨⟨u1, u2⟩, u3, bx, u4, u5, u6, u7, rfl⟩
      have HU1 := hide u1
      have HU2 := hide u2
      have HE := hide u6
      have HF := hide u7
      have c1 : U.cell? ⟨bx + 1, 1, none⟩ = some (.int .i64 x.2.2) := FtAt.c1 u7
      have hsl := u1.fb.lt
      have hfr := fndY_ok (at_ := at_) u2
      clear u1 u2 u6 u7
      by_cases he : x.2.2 = 0
      · have c2 : U.cell? ⟨bx, 0, none⟩ = some (.int .i64 x.1.at_) := EAt.c0 (unhide HE)
        have c3 : U.cell? ⟨w.heap.size, 0, none⟩ = some (.int .i64 at_) := cell_of_row _ _ 0 _ _ _ (unhide HU1).fb.a
        have HI2 : Hid (∀ y ∈ pre ++ [x], y.2.2 = 0 ∧ FrOk y.1.fr) := hide (fun y hy => by
          rcases List.mem_append.1 hy with h | h
          · exact unhide HU2 y h
          · rw [List.mem_singleton.1 h]; exact ⟨he, hx⟩)
        by_cases hat : x.1.at_ = at_
        · have b1 : (x.1.at_ == at_) = true := beq_t hat
          have HFY : Hid (fndY at_ (pre ++ [x]) = (x.1, true)) := hide (by rw [fndY_snoc, if_pos hat])
          have c4 : (U.setRow (W2.heap.size + 1) (enA x.1)).cell? ⟨W2.heap.size + 1 + 1, 0, none⟩ = some (.bool (fndY at_ pre).2) := (World.cell?_of_block (setRow_other U (W2.heap.size + 1) (W2.heap.size + 1 + 1) _ (by omega))).trans (cell_of_row _ _ 0 _ _ _ (unhide HU1).i)
          have c5 : (U.setRow (W2.heap.size + 1) (enA x.1)).frozen? ⟨W2.heap.size + 1 + 1, 0, none⟩ = false := (World.frozen?_of_block (setRow_other U (W2.heap.size + 1) (W2.heap.size + 1 + 1) _ (by omega))).trans (frozen_of_row _ _ _ _ _ (unhide HU1).i)
          clear hat
          rw [he] at c1
          gi_wp2_with (first | (refine wpListIn_load_s rfl 44 (.tmp 11) rfl bx rfl 44 (enA x.1) (0, 0) _ (unhide HE) Try.underlying44 rfl (sizeEn hx) ?_) | (refine wpListIn_store_s rfl 44 (.tmp 9) (.tmp 38) rfl (W2.heap.size + 1) (enA x.1) rfl rfl 44 (enA (fndY at_ pre).1) (unhide HU1).f (sizeEn hx) (sizeEqEn hfr hx) (enA_one _) ?_; simp only [Act.put]))
          have g1 := grown_setRow U (W2.heap.size + 1) (enA x.1)
          have g2 := grown_setCell (U.setRow (W2.heap.size + 1) (enA x.1)) (W2.heap.size + 1 + 1) 0 (.bool true)
          have hs1 := g1.size
          have hw := (unhide HU1).fb.bel.size
          refine ⟨(g2.block _ (by omega) (fun e => by injection e with e; omega)).trans (g1.block _ (by omega) (fun e => by injection e with e; omega)), (g2.block _ (by omega) (fun e => by injection e with e; omega)).trans (g1.block _ (by omega) (fun e => by injection e with e; omega)), (Kpt.of_grown g1 (by omega) (by omega) (by omega) u3 (fun r e => by injection e with e; omega)).trans (Kpt.of_grown g2 (by omega) (by omega) (by omega) (by omega) (fun r e => by injection e with e; omega)), ?_, unhide HI2⟩
          rw [unhide HFY]
          refine ⟨((unhide HU1).fb.move (below_grown g1 hw (fun k e => by injection e with e; omega)) (fun r r1 r2 => g1.block r (by omega) (fun e => by injection e with e; omega))).move (below_grown g2 (by omega) (fun k e => by injection e with e; omega)) (fun r r1 r2 => g2.block r (by omega) (fun e => by injection e with e; omega)), (g2.block _ (by omega) (fun e => by injection e with e; omega)).trans ((unhide HU1).f.row x.1), box_set ((setRow_other U (W2.heap.size + 1) (W2.heap.size + 1 + 1) _ (by omega)).trans (unhide HU1).i) _⟩
        · have b1 : (x.1.at_ == at_) = false := beq_f hat
          have HFY : Hid (fndY at_ (pre ++ [x]) = fndY at_ pre) := hide (by rw [fndY_snoc, if_neg hat])
          clear hat
          rw [he] at c1
          gi_wp2
          exact ⟨rfl, rfl, ⟨Below.refl _ _, rfl, rfl, fun _ _ _ => rfl⟩, by rw [unhide HFY]; exact unhide HU1, unhide HI2⟩
      · have b1 : (x.2.2 != 0) = true := bne_t he
        obtain ⟨xe, fx, fe⟩ := x
        simp only at *
        gi_wp2
        have HF3 := hide (unhide HU1).fb.drew
        have hww : V'.heap.size + 1 < U.heap.size := by omega
        have hbx3 : w.heap.size + 3 < bx + 1 := by omega
        refine region_any (S := fun w' => FtAt w' (bx + 1) fx fe) (by kernel_rfl) (by rintro ⟨_, _, h⟩; exact h) (by kernel_rfl) (unhide HF) (fun hS => ?_)
        have dd : ∀ k : Nat, U.drew.heap[k]? = U.heap[k]? := fun _ => rfl
        generalize U.drew = V0 at HF3 hS dd ⊢
        refine wpAnyH_take (i := 0) (v := .agg (enA enZ)) rfl (by kernel_rfl) (by kernel_rfl) (by kernel_rfl) (fun _ _ _ h => h) (Or.inl ⟨by rfl, fun w _ => by go_simp; rfl⟩) hS ?_
        refine wpAnyH_take (i := 1) (v := .pointer (some ⟨(bx + 1), 1, none⟩)) rfl (by kernel_rfl) (by kernel_rfl) (by kernel_rfl) (fun _ _ _ h => h) (Or.inl ⟨by rfl, fun w _ => by go_simp⟩) hS ?_
        refine wpAnyH_take (i := 2) (v := .int .i64 fe) rfl (by kernel_rfl) (by kernel_rfl) (by kernel_rfl) (fun _ _ _ h => h) (Or.inl ⟨by rfl, fun w hS => by have h0 := FtAt.c1 hS; go_simp⟩) hS ?_
        go_simp
        refine wpAnyH_ready (rs := [3]) (by kernel_rfl) (by simp) ?_
        refine AllReadyH.cons rfl (fun K hK => ?_) AllReadyH.nil
        rw [if_pos (by rfl)]
        refine wp_store_row 44 _ _ rfl (w.heap.size + 1) (enA enZ) rfl rfl 44 (enA enZ) (unhide HF3).x (sizeEn enZ_ok) rfl (enA_one _) ?_
        have hSx : FtAt (V0.setRow (w.heap.size + 1) (enA enZ)) (bx + 1) fx fe := (setRow_other V0 (w.heap.size + 1) (bx + 1) _ (by omega)).trans hS
        have HF4 := hide ((unhide HF3).setX enZ)
        have d1 : ∀ k, w.heap.size + 3 < k → (V0.setRow (w.heap.size + 1) (enA enZ)).heap[k]? = V0.heap[k]? := fun k hk => setRow_other V0 (w.heap.size + 1) k _ (by omega)
        refine hK.out _ _ hSx (fun _ => ?_)
        clear hK K hS HF3
        generalize (V0.setRow (w.heap.size + 1) (enA enZ)) = V1 at HF4 hSx d1 ⊢
        refine wpAnyH_ready (rs := [4]) (by kernel_rfl) (by simp) ?_
        refine AllReadyH.cons rfl (fun K hK => ?_) AllReadyH.nil
        rw [if_pos (by rfl)]
        have cb := (unhide HF4).cb
        obtain ⟨cb1, cb2⟩ := cb
        go_simp
        have hSy : FtAt (V1.setCell ⟨w.heap.size + 2, 0, none⟩ (.bool false)) (bx + 1) fx fe := (Below.heap_setCell V1 ⟨w.heap.size + 2, 0, none⟩ _ (bx + 1) (by simp; omega)).trans hSx
        have HF5 := hide ((unhide HF4).setB false)
        have d2 : ∀ k, w.heap.size + 3 < k → (V1.setCell ⟨w.heap.size + 2, 0, none⟩ (.bool false)).heap[k]? = V0.heap[k]? := fun k hk => (Below.heap_setCell V1 ⟨w.heap.size + 2, 0, none⟩ _ k (by simp; omega)).trans (d1 k hk)
        refine hK.out _ _ hSy (fun _ => ?_)
        clear hK K hSx HF4 cb1 cb2
        generalize (V1.setCell ⟨w.heap.size + 2, 0, none⟩ (.bool false)) = V2 at HF5 hSy d2 ⊢
        refine wpAnyH_ready (rs := [5]) (by kernel_rfl) (by simp) ?_
        refine AllReadyH.cons rfl (fun K hK => ?_) AllReadyH.nil
        rw [if_pos (by rfl)]
        have cb := (unhide HF5).ce
        obtain ⟨cb1, cb2⟩ := cb
        go_simp
        have hSz : FtAt (V2.setCell ⟨w.heap.size + 3, 0, none⟩ (.int .i64 fe)) (bx + 1) fx fe := (Below.heap_setCell V2 ⟨w.heap.size + 3, 0, none⟩ _ (bx + 1) (by simp; omega)).trans hSy
        have HF6 := hide ((unhide HF5).setE fe)
        have d3 : ∀ k, w.heap.size + 3 < k → (V2.setCell ⟨w.heap.size + 3, 0, none⟩ (.int .i64 fe)).heap[k]? = V0.heap[k]? := fun k hk => (Below.heap_setCell V2 ⟨w.heap.size + 3, 0, none⟩ _ k (by simp; omega)).trans (d2 k hk)
        refine hK.out _ _ hSz (fun _ => ?_)
        clear hK K hSy HF5 cb1 cb2 d1 d2
        generalize (V2.setCell ⟨w.heap.size + 3, 0, none⟩ (.int .i64 fe)) = V3 at HF6 hSz d3 ⊢
        refine wpAnyH_done (by kernel_rfl) ?_ _
        gi_wp2
        exact ⟨(d3 _ (by omega)).trans (dd _), (d3 _ (by omega)).trans (dd _), pre, (xe, fx, fe), rfl, he, unhide HF6⟩
    case done =>
      rintro B0 U hB0 ⟨u1, u2⟩ hD
      obtain rfl : er = 0 := ys_good (fun y hy => (u2 y hy).1)
      have HU1 := hide u1
      have hfr := fndY_ok (at_ := at_) u2
      have HRt : Hid (fndR L lo n at_ = (fndY at_ (ysT A q 0), 0)) := hide (by rw [unhide HRs, if_neg (by simp), ysT, if_pos rfl, List.append_nil])
      have HD := hide hD
      have hul := u1.fb.lt
      clear u1 u2 hD
      generalize fndY at_ (ysT A q 0) = r at HU1 hfr HRt
      go_upto_region 13 with fail
      have hS0 : EAt U.drew (W2.heap.size + 1) r.1 ∧ U.drew.cell? ⟨W2.heap.size + 1 + 1, 0, none⟩ = some (.bool r.2) := ⟨(unhide HU1).f, cell_of_row _ _ 0 _ _ _ (unhide HU1).i⟩
      have HF3 := hide (unhide HU1).fb.drew
      have hD3 : U.drew.heap[V'.heap.size]? = some (.deferred (some [])) := unhide HD
      refine wp_region_held_drew (S := fun w' => EAt w' (W2.heap.size + 1) r.1 ∧ w'.cell? ⟨W2.heap.size + 1 + 1, 0, none⟩ = some (.bool r.2)) (by kernel_rfl) hS0 (fun hS => ?_)
      clear hS0 HU1 HD
      generalize U.drew = V0 at HF3 hS hD3 ⊢
      refine wpAnyH_take (i := 0) (v := .agg (enA r.1)) rfl (by kernel_rfl) (by kernel_rfl) (by kernel_rfl) (fun _ _ _ h => h) (yieldsIf_load_en (by rfl) _ rfl (W2.heap.size + 1) rfl r.1 hfr (fun _ h => h.1)) hS ?_
      refine wpAnyH_take (i := 1) (v := .bool r.2) rfl (by kernel_rfl) (by kernel_rfl) (by kernel_rfl) (fun _ _ _ h => h) (Or.inl ⟨by rfl, fun w hS => by have h0 := hS.2; go_simp⟩) hS ?_
      go_simp
      refine wpAnyH_ready (rs := [2]) (by kernel_rfl) (by simp) ?_
      refine AllReadyH.cons rfl (fun K hK => ?_) AllReadyH.nil
      rw [if_pos (by rfl)]
      refine wp_store_row 44 _ _ rfl (w.heap.size + 1) (enA r.1) rfl rfl 44 (enA enZ) (unhide HF3).x (sizeEn hfr) (sizeEqEn enZ_ok hfr) (enA_one _) ?_
      have o1 := setRow_other V0 (w.heap.size + 1) (W2.heap.size + 1 + 1) (enA r.1) (by omega)
      have hSx : EAt (V0.setRow (w.heap.size + 1) (enA r.1)) (W2.heap.size + 1) r.1 ∧ (V0.setRow (w.heap.size + 1) (enA r.1)).cell? ⟨W2.heap.size + 1 + 1, 0, none⟩ = some (.bool r.2) := ⟨(setRow_other V0 (w.heap.size + 1) (W2.heap.size + 1) _ (by omega)).trans hS.1, (World.cell?_of_block o1).trans hS.2⟩
      have HF4 := hide ((unhide HF3).setX r.1)
      have hD4 : (V0.setRow (w.heap.size + 1) (enA r.1)).heap[V'.heap.size]? = some (.deferred (some [])) := (setRow_other V0 (w.heap.size + 1) V'.heap.size _ (by omega)).trans hD3
      refine hK.out _ _ hSx (fun _ => ?_)
      clear hK K hS HF3 hD3 o1
      generalize (V0.setRow (w.heap.size + 1) (enA r.1)) = V1 at HF4 hSx hD4 ⊢
      refine wpAnyH_ready (rs := [3]) (by kernel_rfl) (by simp) ?_
      refine AllReadyH.cons rfl (fun K hK => ?_) AllReadyH.nil
      rw [if_pos (by rfl)]
      have cb := (unhide HF4).cb
      obtain ⟨cb1, cb2⟩ := cb
      go_simp
      have o2 := Below.heap_setCell V1 ⟨w.heap.size + 2, 0, none⟩ (.bool r.2) (W2.heap.size + 1 + 1) (by simp; omega)
      have hSy : EAt (V1.setCell ⟨w.heap.size + 2, 0, none⟩ (.bool r.2)) (W2.heap.size + 1) r.1 ∧ (V1.setCell ⟨w.heap.size + 2, 0, none⟩ (.bool r.2)).cell? ⟨W2.heap.size + 1 + 1, 0, none⟩ = some (.bool r.2) := ⟨(Below.heap_setCell V1 ⟨w.heap.size + 2, 0, none⟩ _ (W2.heap.size + 1) (by simp; omega)).trans hSx.1, (World.cell?_of_block o2).trans hSx.2⟩
      have HF5 := hide ((unhide HF4).setB r.2)
      have hD5 : (V1.setCell ⟨w.heap.size + 2, 0, none⟩ (.bool r.2)).heap[V'.heap.size]? = some (.deferred (some [])) := (Below.heap_setCell V1 ⟨w.heap.size + 2, 0, none⟩ _ V'.heap.size (by simp; omega)).trans hD4
      refine hK.out _ _ hSy (fun _ => ?_)
      clear hK K hSx HF4 cb1 cb2 hD4 o2
      generalize (V1.setCell ⟨w.heap.size + 2, 0, none⟩ (.bool r.2)) = V2 at HF5 hSy hD5 ⊢
      refine wpAnyH_ready (rs := [4]) (by kernel_rfl) (by simp) ?_
      refine AllReadyH.cons rfl (fun K hK => ?_) AllReadyH.nil
      rw [if_pos (by rfl)]
      have cb := (unhide HF5).ce
      obtain ⟨cb1, cb2⟩ := cb
      go_simp
      have o3 := Below.heap_setCell V2 ⟨w.heap.size + 3, 0, none⟩ (.int .i64 0) (W2.heap.size + 1 + 1) (by simp; omega)
      have hSz : EAt (V2.setCell ⟨w.heap.size + 3, 0, none⟩ (.int .i64 0)) (W2.heap.size + 1) r.1 ∧ (V2.setCell ⟨w.heap.size + 3, 0, none⟩ (.int .i64 0)).cell? ⟨W2.heap.size + 1 + 1, 0, none⟩ = some (.bool r.2) := ⟨(Below.heap_setCell V2 ⟨w.heap.size + 3, 0, none⟩ _ (W2.heap.size + 1) (by simp; omega)).trans hSy.1, (World.cell?_of_block o3).trans hSy.2⟩
      have HF6 := hide ((unhide HF5).setE 0)
      have hD6 : (V2.setCell ⟨w.heap.size + 3, 0, none⟩ (.int .i64 0)).heap[V'.heap.size]? = some (.deferred (some [])) := (Below.heap_setCell V2 ⟨w.heap.size + 3, 0, none⟩ _ V'.heap.size (by simp; omega)).trans hD5
      refine hK.out _ _ hSz (fun _ => ?_)
      clear hK K hSy HF5 cb1 cb2 hD5 o3 hSz
      generalize (V2.setCell ⟨w.heap.size + 3, 0, none⟩ (.int .i64 0)) = V3 at HF6 hD6 ⊢
      refine wpAnyH_done (by kernel_rfl) ?_ _
      go_wp2
      rw [hsz4] at hD6
      have h3 := unhide HF6
      have hlu := h3.lt
      have h3' := h3.move (below_grown (grownBy_putObj' V3 (W2.heap.size + 4) (.deferred none)) h3.bel.size (fun k e => by injection e with e; omega)) (fun r r1 r2 => (grownBy_putObj' V3 (W2.heap.size + 4) (.deferred none)).block r (by omega) (fun e => by injection e with e; omega))
      exact ⟨by simp, .inl ⟨_, _, rfl, run_takeDeferred hD6, ⟨_, h3'.results hfr rfl _ rfl rfl rfl, by rw [unhide HRt], h3'.bel⟩⟩⟩
    case stop =>
      rintro pre x U hpre ⟨pre', x', h1, h2, h3⟩ hD
      obtain ⟨rfl, rfl⟩ : pre = pre' ∧ x = x' := by
        have := List.append_inj' h1 rfl
        exact ⟨this.1, by simpa using this.2⟩
      obtain ⟨h4, h5⟩ := ys_bad (mem_of_pre hpre) h2
      rw [h4] at h3
      have HRt : Hid (fndR L lo n at_ = ((enZ, false), er)) := hide (by rw [unhide HRs, if_pos h5])
      have hlu := h3.lt
      have h3' := h3.move (below_grown (grownBy_putObj' U V'.heap.size (.deferred none)) h3.bel.size (fun k e => by injection e with e; omega)) (fun r r1 r2 => (grownBy_putObj' U V'.heap.size (.deferred none)).block r (by omega) (fun e => by injection e with e; omega))
      exact ⟨by simp, .inl ⟨_, _, rfl, run_takeDeferred hD, ⟨_, h3'.results enZ_ok rfl _ rfl rfl rfl, by rw [unhide HRt], h3'.bel⟩⟩⟩
  · have HF2 := hide ((unhide HF0).below hB2)
    have HRs : Hid (fndR L lo n at_ = ((enZ, false), (hdE L).2)) := hide (by unfold fndR; rw [if_pos h0])
    have b1 : ((hdE L).2 != 0) = true := bne_t h0
    clear hB2 HF0 h0
    unfold ftV
    obtain ⟨er, HER⟩ : ∃ er, Hid ((hdE L).2 = er) := ⟨_, hide rfl⟩
    obtain ⟨fx, HFX⟩ : ∃ fx : Int, Hid (((hdE L).1 : Int) = fx) := ⟨_, hide rfl⟩
    rw [unhide HER] at HRs b1
    rw [unhide HER, unhide HFX]
    go_upto_region 3 with fail
    have hft : FtAt (W2.alloc (.cells #[.int .i64 fx, .int .i64 er] 72)) W2.heap.size fx er := heap_alloc_new W2 _
    have HF3 := hide ((unhide HF2).below ((Below.refl W2.heap.size W2).alloc (Nat.le_refl _) (.cells #[.int .i64 fx, .int .i64 er] 72))).drew
    have hlt := (unhide HF2).lt
    clear HF2
    refine wp_region_held_drew (S := fun w' => FtAt w' W2.heap.size fx er) (by kernel_rfl) hft (fun hS => ?_)
    clear hft
    generalize (W2.alloc (.cells #[.int .i64 fx, .int .i64 er] 72)).drew = V0 at HF3 hS ⊢
    refine wpAnyH_take (i := 0) (v := .agg (enA enZ)) rfl (by kernel_rfl) (by kernel_rfl) (by kernel_rfl) (fun _ _ _ h => h) (Or.inl ⟨by rfl, fun w _ => by go_simp; rfl⟩) hS ?_
    refine wpAnyH_take (i := 1) (v := .pointer (some ⟨W2.heap.size, 1, none⟩)) rfl (by kernel_rfl) (by kernel_rfl) (by kernel_rfl) (fun _ _ _ h => h) (Or.inl ⟨by rfl, fun w _ => by go_simp⟩) hS ?_
    refine wpAnyH_take (i := 2) (v := .int .i64 er) rfl (by kernel_rfl) (by kernel_rfl) (by kernel_rfl) (fun _ _ _ h => h) (Or.inl ⟨by rfl, fun w hS => by have h0 := FtAt.c1 hS; go_simp⟩) hS ?_
    go_simp
    refine wpAnyH_ready (rs := [3]) (by kernel_rfl) (by simp) ?_
    refine AllReadyH.cons rfl (fun K hK => ?_) AllReadyH.nil
    rw [if_pos (by rfl)]
    refine wp_store_row 44 _ _ rfl (w.heap.size + 1) (enA enZ) rfl rfl 44 (enA enZ) (unhide HF3).x (sizeEn enZ_ok) rfl (enA_one _) ?_
    have hSx : FtAt (V0.setRow (w.heap.size + 1) (enA enZ)) W2.heap.size fx er := (setRow_other V0 (w.heap.size + 1) W2.heap.size _ (by omega)).trans hS
    have HF4 := hide ((unhide HF3).setX enZ)
    refine hK.out _ _ hSx (fun _ => ?_)
    clear hK K hS HF3
    generalize (V0.setRow (w.heap.size + 1) (enA enZ)) = V1 at HF4 hSx ⊢
    refine wpAnyH_ready (rs := [4]) (by kernel_rfl) (by simp) ?_
    refine AllReadyH.cons rfl (fun K hK => ?_) AllReadyH.nil
    rw [if_pos (by rfl)]
    have cb := (unhide HF4).cb
    obtain ⟨cb1, cb2⟩ := cb
    go_simp
    have hSy : FtAt (V1.setCell ⟨w.heap.size + 2, 0, none⟩ (.bool false)) W2.heap.size fx er := (Below.heap_setCell V1 ⟨w.heap.size + 2, 0, none⟩ _ W2.heap.size (by simp; omega)).trans hSx
    have HF5 := hide ((unhide HF4).setB false)
    refine hK.out _ _ hSy (fun _ => ?_)
    clear hK K hSx HF4 cb1 cb2
    generalize (V1.setCell ⟨w.heap.size + 2, 0, none⟩ (.bool false)) = V2 at HF5 hSy ⊢
    refine wpAnyH_ready (rs := [5]) (by kernel_rfl) (by simp) ?_
    refine AllReadyH.cons rfl (fun K hK => ?_) AllReadyH.nil
    rw [if_pos (by rfl)]
    have cb := (unhide HF5).ce
    obtain ⟨cb1, cb2⟩ := cb
    go_simp
    have hSz : FtAt (V2.setCell ⟨w.heap.size + 3, 0, none⟩ (.int .i64 er)) W2.heap.size fx er := (Below.heap_setCell V2 ⟨w.heap.size + 3, 0, none⟩ _ W2.heap.size (by simp; omega)).trans hSy
    have HF6 := hide ((unhide HF5).setE er)
    refine hK.out _ _ hSz (fun _ => ?_)
    clear hK K hSy HF5 cb1 cb2
    generalize (V2.setCell ⟨w.heap.size + 3, 0, none⟩ (.int .i64 er)) = V3 at HF6 hSz ⊢
    refine wpAnyH_done (by kernel_rfl) ?_ _
    go_wp2
    exact ⟨_, (unhide HF6).results enZ_ok rfl _ rfl rfl rfl, by rw [unhide HRs], (unhide HF6).bel⟩
end Go.Proofs.Ythejnhdabokhjaa
