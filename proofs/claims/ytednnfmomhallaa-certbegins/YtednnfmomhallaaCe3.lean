/-
  A loop over (*Reader).entries: what its rounds owe. Conditions: the reader is one that Open made, its bytes lie there.
-/
import Derived.Test.YtednnfmomhallaaCe2
namespace Go.Proofs.Ytednnfmomhallaa
open Go.RowKit Go.Shelf

/-- How a body with a loop over a function in it is left. -/
def mkQ (fn : Func) (R : Ending → World → Prop) : Exit → Act → World → Prop
  | .normal, a, w | .ret, a, w => LeavesInM Fence.wide 4 Try.prog fn a.tmps R a.defers .returning w
  | _, _, _ => False
theorem mk_calls {f : FuncId} {fn : Func} {c : Code} {args : Array Value} {w : World} {R : Ending → World → Prop} (hf : Try.prog.funcs[f]? = some fn) (hb : fn.body = some c) (h : c.wp Try.prog (mkQ fn R) { tmps := args ++ Array.replicate (fn.ntmps - args.size) undef, defers := [] } w) : Calls Try.prog f args w R := by
  refine (callsIn_wide (n := 4)).1 (callsIn_of_wp_marks hf hb trivial (wpIn_mono (wpIn_wide.2 h) ?_) rfl)
  rintro e a w h
  cases e <;> first | exact h | exact h.elim
/-- How a round is left: the loop's own two blocks lie as they lay. -/
def rndQ (n0 gr Br D B0 : Nat) (I : Nat → List Yd → World → Prop) (Ix : List Yd → World → Prop) (xs : List Yd) (W : World) : Exit → Act → World → Prop
  | .normal, _, W' => W'.heap[D]? = W.heap[D]? ∧ W'.heap[D + 1]? = W.heap[D + 1]? ∧ Kpt n0 gr Br (D + 2) B0 W W' ∧ I B0 xs W'
  | .ret, _, W' => W'.heap[D]? = W.heap[D]? ∧ W'.heap[D + 1]? = W.heap[D + 1]? ∧ Ix xs W'
  | _, _, _ => False
theorem rndQ_lets {n0 gr Br D B0 : Nat} {I : Nat → List Yd → World → Prop} {Ix : List Yd → World → Prop} {xs : List Yd} {W : World} : ¬ LetsOut (rndQ n0 gr Br D B0 I Ix xs W) := fun ⟨_, _, h⟩ => h
theorem Kpt.trans {n0 gr Br B1 B0 : Nat} {X Y Z : World} (h : Kpt n0 gr Br B1 B0 X Y) (k : Kpt n0 gr Br B1 B0 Y Z) : Kpt n0 gr Br B1 B0 X Z :=
  ⟨h.bel.trans k.bel, k.rd.trans h.rd, k.bx.trans h.bx, fun r a b => (k.own r a b).trans (h.own r a b)⟩
/-- One block is turned, that is none of those that are to be kept. -/
theorem Kpt.of_grown {n0 gr Br B1 B0 : Nat} {X Y : World} {row : Option Nat} (hg : X.grownBy Y row) (hn : n0 ≤ X.heap.size) (hgr : gr < X.heap.size) (hbr : Br < X.heap.size) (hB0 : B0 ≤ X.heap.size) (h : ∀ r, row = some r → n0 ≤ r ∧ r ≠ gr ∧ r ≠ Br ∧ (r < B1 ∨ B0 ≤ r)) : Kpt n0 gr Br B1 B0 X Y :=
  ⟨below_grown hg hn (fun k e => (h k e).1), hg.block gr hgr (fun e => (h _ e.symm).2.1 rfl), hg.block Br hbr (fun e => (h _ e.symm).2.2.1 rfl), fun r a b => hg.block r (by omega) (fun e => by have := (h _ e.symm).2.2.2; omega)⟩

theorem range_entries {g : Operand} {ps : Array Tmp} {assign body : Code} {Q : Exit → Act → World → Prop} {a : Act} {w : World} (nf : Nat) (hnf : 2 ≤ nf) (Br gr : Nat) {ao : Option Addr} {c : Nat} {L : List UInt8} {lo n q : Nat} {er : Int} {A : List (En × Nat)} (w0 : World) (hb : BAt w0 ao L) (hl : L.length ≤ 562949953421312) (h6 : 6 ≤ L.length) (hlo : lo ≤ 16) (hn : n ≤ 4096) (hT : tolD L lo n 6 (-1) = (A, q, er))
    (hg : a.eval g = .func (.func 39) #[] #[.pointer (some ⟨Br, 0, none⟩)]) (hps : ps.size = 2)
    (hB : Below w0.heap.size w0 w) (hBr : w.heap[Br]? = some (.cells #[.pointer (some ⟨gr, 0, none⟩)] 56 (0, 0))) (hR : RAt w gr (.slice ao L.length c) lo n 6 0 (-1)) (hgr : w0.heap.size ≤ gr) (hne : Br ≠ gr)
    (I : Nat → List Yd → World → Prop) (Ix : List Yd → World → Prop) (M : Nat → List Yd → Yd → Act → World → Prop)
    (hI : ∀ B0 pre W1 W2 row, I B0 pre W1 → W1.grownBy W2 row → (∀ r, row = some r → r = gr ∨ (w.heap.size ≤ r ∧ r < B0)) → I B0 pre W2)
    (hIx : ∀ pre W1 o, Ix pre W1 → Ix pre (W1.putObj (w.heap.size + 1) o))
    (h0 : ∀ B0, w.heap.size ≤ B0 → I B0 [] w)
    (hassign : ∀ (l B0 : Nat) (pre : List Yd) (x : Yd) (W : World), w.heap.size + 2 ≤ B0 → B0 ≤ W.heap.size → I B0 pre W → pre ++ [x] <+: ysT A q er → FrOk x.1.fr →
      assign.wpIn (Fence.wide.inRound l) (nf - 1 - 1) Try.prog (Exit.then (fun a₁ W₁ => W₁.heap[w.heap.size]? = W.heap[w.heap.size]? ∧ W₁.heap[w.heap.size + 1]? = W.heap[w.heap.size + 1]? ∧ Kpt w0.heap.size gr Br (w.heap.size + 2) B0 W W₁ ∧ M B0 pre x a₁ W₁) (fun _ _ _ => False)) { tmps := (ps.zip (encY x)).foldl (fun t (p, v) => t.setIfInBounds p v) a.tmps, defers := [] } W)
    (hM : ∀ B0 pre x a₁ W₁ o, w.heap.size + 2 ≤ B0 → M B0 pre x a₁ W₁ → M B0 pre x a₁ (W₁.putObj (w.heap.size + 1) o))
    (hbody : ∀ (l B0 : Nat) (pre : List Yd) (x : Yd) (a₁ : Act) (W : World), w.heap.size + 2 ≤ B0 → pre ++ [x] <+: ysT A q er → FrOk x.1.fr → M B0 pre x a₁ W → body.wpIn (Fence.wide.inRound l) (nf - 1 - 1) Try.prog (rndQ w0.heap.size gr Br w.heap.size B0 I Ix (pre ++ [x]) W) a₁ W)
    (hdone : ∀ (B0 : Nat) (W : World), w.heap.size ≤ B0 → I B0 (ysT A q er) W → W.heap[w.heap.size]? = some (.deferred (some [])) → Q .normal { a with defers := { target := .collected w.heap.size, args := #[] } :: a.defers } W)
    (hstop : ∀ (pre : List Yd) (x : Yd) (W : World), pre ++ [x] <+: ysT A q er → Ix (pre ++ [x]) W → W.heap[w.heap.size]? = some (.deferred (some [])) → Q .ret { a with defers := { target := .collected w.heap.size, args := #[] } :: a.defers } W) :
    (Code.rangeFunc g ps assign body).wp Try.prog Q a w := by
  have hgrl : gr < w.heap.size := hR.lt
  have hbrl : Br < w.heap.size := (Array.getElem?_eq_some_iff.1 hBr).1
  refine (wpIn_wide (n := nf)).1 (wpIn_rangeFunc fun fn _ => ?_)
  obtain ⟨R, HRd⟩ : ∃ R : LoopState → Option Code → Loop, R = fun s j => { state := s, pending := j, fn := fn, tmps := a.tmps, params := ps, assign := assign, body := body, defers := w.heap.size } := ⟨_, rfl⟩
  have g1 : w.grownBy (w.alloc (.deferred (some []))) none := World.grownBy_alloc _ _ _
  have g2 : (w.alloc (.deferred (some []))).grownBy ((w.alloc (.deferred (some []))).alloc (.loop (R .ready none))) none := World.grownBy_alloc _ _ _
  have bl : Below w.heap.size w ((w.alloc (.deferred (some []))).alloc (.loop (R .ready none))) := ((Below.refl _ _).alloc (Nat.le_refl _) _).alloc (by simp) _
  have hD : ((w.alloc (.deferred (some []))).alloc (.loop (R .ready none))).heap[w.heap.size]? = some (.deferred (some [])) := (Below.heap_alloc _ _ _ (by simp)).trans (World.alloc_heap_new w _)
  have hLp : ((w.alloc (.deferred (some []))).alloc (.loop (R .ready none))).heap[w.heap.size + 1]? = some (.loop (R .ready none)) := by
    have := World.alloc_heap_new (w.alloc (.deferred (some []))) (.loop (R .ready none))
    rwa [World.size_alloc] at this
  have hsz : ((w.alloc (.deferred (some []))).alloc (.loop (R .ready none))).heap.size = w.heap.size + 2 := by simp
  refine ⟨w.heap.size + 1, [{ target := .collected w.heap.size, args := #[] }], (w.alloc (.deferred (some []))).alloc (.loop (R .ready none)), { target := .fn (.func 39) #[.pointer (some ⟨Br, 0, none⟩)], args := #[.func (.yield (w.heap.size + 1)) #[] #[]] }, (w.alloc (.deferred (some []))).alloc (.loop (R .ready none)), 39, #[.func (.yield (w.heap.size + 1)) #[] #[], .pointer (some ⟨Br, 0, none⟩)], (w.alloc (.deferred (some []))).alloc (.loop (R .ready none)), by rw [HRd]; exact run_enterLoop_outer _ _ _ _ _, by simp only [resolve, hg]; simp [go_sem], fun _ _ => trivial, by simp [invoke, go_sem], (fun e => by cases e), ?_⟩
  have h0' : ∀ B0, w.heap.size ≤ B0 → I B0 [] ((w.alloc (.deferred (some []))).alloc (.loop (R .ready none))) := fun B0 h => hI _ _ _ _ _ (hI _ _ _ _ _ (h0 B0 h) g1 (fun r e => by cases e)) g2 (fun r e => by cases e)
  have hBr' := (bl.block Br hbrl).trans hBr
  have hR' : RAt ((w.alloc (.deferred (some []))).alloc (.loop (R .ready none))) gr (.slice ao L.length c) lo n 6 0 (-1) := (bl.block gr hgrl).trans hR
  have hB' := hB.trans (bl.mono hB.size)
  generalize ((w.alloc (.deferred (some []))).alloc (.loop (R .ready none))) = W1 at *
  refine (entries1_in (nf - 1) (by omega) (w.heap.size + 1) Br gr (c := c) w0 hb hl h6 hlo hn hT
    (fun B0 pre W => I B0 pre W ∧ W.heap[w.heap.size]? = some (.deferred (some [])) ∧ W.heap[w.heap.size + 1]? = some (.loop (R .ready none)))
    (fun pre W => Ix pre W ∧ W.heap[w.heap.size]? = some (.deferred (some [])) ∧ W.heap[w.heap.size + 1]? = some (.loop (R .done (some .ret)))) W1 ?abide ?round hB' hBr' hR' hgr hne ?start).mono ?_
  case start => exact fun B0 h => ⟨h0' B0 (by omega), hD, hLp⟩
  case abide =>
    rintro B0 pre W2 W3 row ⟨i1, i2, i3⟩ hgw hr
    refine ⟨hI _ _ _ _ _ i1 hgw (fun r e => ?_), (hgw.block _ (Array.getElem?_eq_some_iff.1 i2).1 (fun e => ?_)).trans i2, (hgw.block _ (Array.getElem?_eq_some_iff.1 i3).1 (fun e => ?_)).trans i3⟩
    · rcases hr r e with h | h
      · exact .inl h
      · exact .inr (by omega)
    · rcases hr _ e.symm with h | h <;> omega
    · rcases hr _ e.symm with h | h <;> omega
  case round =>
    rintro B0 pre x W2 ⟨i1, i2, i3⟩ hw1 hw2 hpre hx
    have hw1' : w.heap.size + 2 ≤ B0 := by omega
    have hy := run_yield (P := Try.prog) (args := encY x) i3 (by rw [HRd]; exact hps.symm)
    rw [HRd] at hy
    refine ⟨fn, _, assign, body, hy, roundIn_of_wpIn trivial (wpIn_mono (hassign (w.heap.size + 1) B0 pre x W2 hw1' hw2 i1 hpre hx) ?_)⟩
    rintro e a3 W3 he
    cases e with
    | normal =>
      obtain ⟨k1, k2, k3, k4⟩ := he
      have l3 : W3.heap[w.heap.size + 1]? = some (.loop (R .ready none)) := k2.trans i3
      have s3 : w.heap.size + 1 < W3.heap.size := (Array.getElem?_eq_some_iff.1 l3).1
      refine ⟨_, run_beginRound l3 (by rw [HRd]), ?_⟩
      have l4 : (W3.putObj (w.heap.size + 1) (.loop { R .ready none with state := .busy })).heap[w.heap.size + 1]? = some (.loop { R .ready none with state := .busy }) := World.putObj_heap_same s3
      have d4 : (W3.putObj (w.heap.size + 1) (.loop { R .ready none with state := .busy })).heap[w.heap.size]? = some (.deferred (some [])) := (World.putObj_heap_other (by omega)).trans (k1.trans i2)
      have q4 : Kpt w0.heap.size gr Br (w.heap.size + 2) B0 W3 (W3.putObj (w.heap.size + 1) (.loop { R .ready none with state := .busy })) := Kpt.of_grown (grownBy_putObj' _ _ _) (by have := hB.size; omega) (by omega) (by omega) (by have := k3.bel.size; omega) (fun r e => by injection e with e; have := hB.size; omega)
      refine wpIn_mono (hbody (w.heap.size + 1) B0 pre x a3 _ hw1' hpre hx (hM _ _ _ _ _ _ hw1' k4)) ?_
      rintro e a5 W5 he5
      cases e with
      | normal =>
        obtain ⟨m1, m2, m3, m4⟩ := he5
        have l5 := m2.trans l4
        have s5 : w.heap.size + 1 < W5.heap.size := (Array.getElem?_eq_some_iff.1 l5).1
        refine ⟨_, _, run_endRound none l5, .inl ⟨rfl, ⟨hI _ _ _ _ _ m4 (grownBy_putObj' _ _ _) (fun r e => by injection e with e; exact .inr (by omega)), (World.putObj_heap_other (by omega)).trans (m1.trans d4), by rw [World.putObj_heap_same s5, HRd]; rfl⟩, ?_⟩⟩
        rw [hsz]
        exact (k3.trans (q4.trans m3)).trans (Kpt.of_grown (grownBy_putObj' _ _ _) (by have := hB.size; omega) (by omega) (by omega) (by have := (k3.trans (q4.trans m3)).bel.size; omega) (fun r e => by injection e with e; have := hB.size; omega))
      | ret =>
        obtain ⟨m1, m2, m4⟩ := he5
        have l5 := m2.trans l4
        have s5 : w.heap.size + 1 < W5.heap.size := (Array.getElem?_eq_some_iff.1 l5).1
        exact ⟨_, _, run_endRound (some .ret) l5, .inr ⟨rfl, hIx _ _ _ m4, (World.putObj_heap_other (by omega)).trans (m1.trans d4), by rw [World.putObj_heap_same s5, HRd]; rfl⟩⟩
      | _ => exact he5.elim
    | _ => exact he.elim
  rintro e W2 ⟨⟨v, rfl⟩, ⟨B0, hb0, i1, i2, i3⟩ | ⟨pre, x, hpre, i1, i2, i3⟩⟩
  · exact ⟨none, _, by have := run_endLoop (P := Try.prog) i3 (by rw [HRd]; simp); rw [this, HRd], hdone B0 _ (by omega) (hI _ _ _ _ _ i1 (grownBy_putObj' _ _ _) (fun r e => by injection e with e; exact .inr (by omega))) ((World.putObj_heap_other (by omega)).trans i2)⟩
  · exact ⟨some .ret, _, by have := run_endLoop (P := Try.prog) i3 (by rw [HRd]; simp); rw [this, HRd], wpIn_ret (hstop pre x _ hpre (hIx _ _ _ i1) ((World.putObj_heap_other (by omega)).trans i2))⟩
end Go.Proofs.Ytednnfmomhallaa
