/-
  flow.firsts of instructions by their addresses: a map of the first place of each address. Conditions: the row lies there, addresses are numbers of the machine.
-/
import Derived.Test.YtdpfinnclnapbaaDoorFb1
import Derived.Test.YtdpfinnclnapbaaDoorRi
import Derived.Deep.RegionHeld3
import Derived.Deep.Cut
namespace Go.Proofs.YtdpfinnclnapbaaDoor
open Go.RowKit Go.Shelf Go.Maps
set_option maxRecDepth 20000
attribute [local go_sem] Oper.semAt_some

/-- How a body with a loop over a function in it is left. -/
def mkQb (fn : Func) (R : Ending → World → Prop) : Exit → Act → World → Prop
  | .normal, a, w | .ret, a, w => LeavesInM Fence.wide 4 Tryd.prog fn a.tmps R a.defers .returning w
  | _, _, _ => False
theorem mk_callsb {f : FuncId} {fn : Func} {c : Code} {args : Array Value} {w : World} {R : Ending → World → Prop} (hf : Tryd.prog.funcs[f]? = some fn) (hb : fn.body = some c) (h : c.wp Tryd.prog (mkQb fn R) { tmps := args ++ Array.replicate (fn.ntmps - args.size) undef, defers := [] } w) : Calls Tryd.prog f args w R := by
  refine (callsIn_wide (n := 4)).1 (callsIn_of_wp_marks hf hb trivial (wpIn_mono (wpIn_wide.2 h) ?_) rfl)
  rintro e a w h
  cases e <;> first | exact h | exact h.elim
/-- How a round is left. -/
def rndB (n0 Bl D : Nat) (I : List (Ix × Nat) → World → Prop) (xs : List (Ix × Nat)) (W : World) : Exit → Act → World → Prop
  | .normal, _, W' => W'.heap[D]? = W.heap[D]? ∧ W'.heap[D + 1]? = W.heap[D + 1]? ∧ KeepsB n0 Bl W W' ∧ I xs W'
  | _, _, _ => False

theorem range_back {g : Operand} {ps : Array Tmp} {assign body : Code} {Q : Exit → Act → World → Prop} {a : Act} {w : World} (nf : Nat) (hnf : 2 ≤ nf) (Bl : Nat) {ao : Option Addr} {cap : Nat} {xs : List Ix} (w0 : World) (hX : XsAt w0 ao xs) (hz : xs.length ≤ 4400000000000)
    (hg : a.eval g = .func (.func 58) #[] #[.pointer (some ⟨Bl, 0, none⟩)]) (hps : ps.size = 2)
    (hB : Below w0.heap.size w0 w) (hBl : w.heap[Bl]? = some (.cells #[.slice ao xs.length cap] 23 (0, 0)))
    (I : List (Ix × Nat) → World → Prop) (M : List (Ix × Nat) → Ix × Nat → Act → World → Prop)
    (hIp : ∀ pre W o, I pre W → I pre (W.putObj (w.heap.size + 1) o)) (hIa : ∀ pre W o, I pre W → I pre (W.alloc o)) (h0 : I [] w)
    (hassign : ∀ (l : Nat) pre x (W : World), I pre W → pre ++ [x] <+: bks xs → w.heap.size + 2 ≤ W.heap.size →
      assign.wpIn (Fence.wide.inRound l) (nf - 1 - 1) Tryd.prog (Exit.then (fun a₁ W₁ => W₁.heap[w.heap.size]? = W.heap[w.heap.size]? ∧ W₁.heap[w.heap.size + 1]? = W.heap[w.heap.size + 1]? ∧ KeepsB w0.heap.size Bl W W₁ ∧ M pre x a₁ W₁) (fun _ _ _ => False)) { tmps := (ps.zip (encB x)).foldl (fun t (p, v) => t.setIfInBounds p v) a.tmps, defers := [] } W)
    (hM : ∀ pre x a₁ W₁ o, M pre x a₁ W₁ → M pre x a₁ (W₁.putObj (w.heap.size + 1) o))
    (hbody : ∀ (l : Nat) pre x (a₁ : Act) (W : World), pre ++ [x] <+: bks xs → M pre x a₁ W → body.wpIn (Fence.wide.inRound l) (nf - 1 - 1) Tryd.prog (rndB w0.heap.size Bl w.heap.size I (pre ++ [x]) W) a₁ W)
    (hdone : ∀ (W : World), I (bks xs) W → W.heap[w.heap.size]? = some (.deferred (some [])) → Q .normal { a with defers := { target := .collected w.heap.size, args := #[] } :: a.defers } W) :
    (Code.rangeFunc g ps assign body).wp Tryd.prog Q a w := by
  have hbl : Bl < w.heap.size := (Array.getElem?_eq_some_iff.1 hBl).1
  have hw0 := hB.size
  refine (wpIn_wide (n := nf)).1 (wpIn_rangeFunc fun fn _ => ?_)
  obtain ⟨R, HRd⟩ : ∃ R : LoopState → Option Code → Loop, R = fun s j => { state := s, pending := j, fn := fn, tmps := a.tmps, params := ps, assign := assign, body := body, defers := w.heap.size } := ⟨_, rfl⟩
  have bl : Below w.heap.size w ((w.alloc (.deferred (some []))).alloc (.loop (R .ready none))) := ((Below.refl _ _).alloc (Nat.le_refl _) _).alloc (by simp) _
  have hD : ((w.alloc (.deferred (some []))).alloc (.loop (R .ready none))).heap[w.heap.size]? = some (.deferred (some [])) := (Below.heap_alloc _ _ _ (by simp)).trans (World.alloc_heap_new w _)
  have hLp : ((w.alloc (.deferred (some []))).alloc (.loop (R .ready none))).heap[w.heap.size + 1]? = some (.loop (R .ready none)) := by
    have := World.alloc_heap_new (w.alloc (.deferred (some []))) (.loop (R .ready none))
    rwa [World.size_alloc] at this
  refine ⟨w.heap.size + 1, [{ target := .collected w.heap.size, args := #[] }], (w.alloc (.deferred (some []))).alloc (.loop (R .ready none)), { target := .fn (.func 58) #[.pointer (some ⟨Bl, 0, none⟩)], args := #[.func (.yield (w.heap.size + 1)) #[] #[]] }, (w.alloc (.deferred (some []))).alloc (.loop (R .ready none)), 58, #[.func (.yield (w.heap.size + 1)) #[] #[], .pointer (some ⟨Bl, 0, none⟩)], (w.alloc (.deferred (some []))).alloc (.loop (R .ready none)), by rw [HRd]; exact run_enterLoop_outer _ _ _ _ _, by simp only [resolve, hg]; simp [go_sem], fun _ _ => trivial, by simp [invoke, go_sem], (fun e => by cases e), ?_⟩
  have h0' : I [] ((w.alloc (.deferred (some []))).alloc (.loop (R .ready none))) := hIa _ _ _ (hIa _ _ _ h0)
  have hBl' : ((w.alloc (.deferred (some []))).alloc (.loop (R .ready none))).cell? ⟨Bl, 0, none⟩ = some (.slice ao xs.length cap) := cell_of_row _ _ 0 _ _ _ ((bl.block Bl hbl).trans hBl)
  have hB' := hB.trans (bl.mono hB.size)
  generalize ((w.alloc (.deferred (some []))).alloc (.loop (R .ready none))) = W1 at *
  refine (back1_in (nf - 1) (by omega) (w.heap.size + 1) Bl ao cap xs w0 hX hz
    (fun pre W => I pre W ∧ W.heap[w.heap.size]? = some (.deferred (some [])) ∧ W.heap[w.heap.size + 1]? = some (.loop (R .ready none)))
    (fun _ _ => False) ?round W1 hB' hBl' ⟨h0', hD, hLp⟩).mono ?_
  case round =>
    rintro pre x W2 ⟨i1, i2, i3⟩ hpre
    have s2 : w.heap.size + 1 < W2.heap.size := (Array.getElem?_eq_some_iff.1 i3).1
    have hy := run_yield (P := Tryd.prog) (args := encB x) i3 (by rw [HRd]; exact hps.symm)
    rw [HRd] at hy
    refine ⟨fn, _, assign, body, hy, roundIn_of_wpIn trivial (wpIn_mono (hassign (w.heap.size + 1) pre x W2 i1 hpre (by omega)) ?_)⟩
    rintro e a3 W3 he
    cases e with
    | normal =>
      obtain ⟨k1, k2, k3, k4⟩ := he
      have l3 : W3.heap[w.heap.size + 1]? = some (.loop (R .ready none)) := k2.trans i3
      have s3 : w.heap.size + 1 < W3.heap.size := (Array.getElem?_eq_some_iff.1 l3).1
      refine ⟨_, run_beginRound l3 (by rw [HRd]), ?_⟩
      have g4 := grownBy_putObj' W3 (w.heap.size + 1) (.loop { R .ready none with state := .busy })
      have l4 : (W3.putObj (w.heap.size + 1) (.loop { R .ready none with state := .busy })).heap[w.heap.size + 1]? = some (.loop { R .ready none with state := .busy }) := World.putObj_heap_same s3
      have d4 : (W3.putObj (w.heap.size + 1) (.loop { R .ready none with state := .busy })).heap[w.heap.size]? = some (.deferred (some [])) := (World.putObj_heap_other (by omega)).trans (k1.trans i2)
      have q4 : KeepsB w0.heap.size Bl W3 (W3.putObj (w.heap.size + 1) (.loop { R .ready none with state := .busy })) := ⟨below_grown g4 (by omega) (fun k e => by injection e with e; omega), g4.block Bl (by omega) (fun e => by injection e with e; omega)⟩
      refine wpIn_mono (hbody (w.heap.size + 1) pre x a3 _ hpre (hM _ _ _ _ _ k4)) ?_
      rintro e a5 W5 he5
      cases e with
      | normal =>
        obtain ⟨m1, m2, m3, m4⟩ := he5
        have l5 := m2.trans l4
        have s5 : w.heap.size + 1 < W5.heap.size := (Array.getElem?_eq_some_iff.1 l5).1
        have g6 := fun o => grownBy_putObj' W5 (w.heap.size + 1) o
        refine ⟨_, _, run_endRound none l5, .inl ⟨rfl, ⟨hIp _ _ _ m4, (World.putObj_heap_other (by omega)).trans (m1.trans d4), by rw [World.putObj_heap_same s5, HRd]; rfl⟩, ?_⟩⟩
        exact keepsB_t (keepsB_t k3 (keepsB_t q4 m3)) ⟨below_grown (g6 _) (by omega) (fun k e => by injection e with e; omega), (g6 _).block Bl (by omega) (fun e => by injection e with e; omega)⟩
      | _ => exact he5.elim
    | _ => exact he.elim
  rintro e W2 ⟨⟨v, rfl⟩, ⟨ys, rfl, i1, i2, i3⟩ | ⟨_, _, h⟩⟩
  · exact ⟨none, _, by have := run_endLoop (P := Tryd.prog) i3 (by rw [HRd]; simp); rw [this, HRd], hdone _ (hIp _ _ _ i1) ((World.putObj_heap_other (by omega)).trans i2)⟩
  · exact h.elim
end Go.Proofs.YtdpfinnclnapbaaDoor
