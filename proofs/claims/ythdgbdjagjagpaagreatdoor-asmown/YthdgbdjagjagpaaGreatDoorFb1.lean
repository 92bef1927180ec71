/-
  slices.Backward over a row of instructions, and the function that it makes: each place and instruction, from the last one on. Conditions: the row lies there; of a round, that it leaves the row and the box that holds it.
  flow.firsts of instructions by their addresses: a map of the first place of each address. Conditions: the row lies there, addresses are numbers of the machine.
  The contract of flow.firsts, of instructions by their addresses. Conditions: the row lies there, addresses are numbers of the machine.
-/
import Derived.Test.YthdgbdjagjagpaaGreatDoorAl1
import Derived.Test.YthdgbdjagjagpaaGreatDoorFl1
import Derived.RangeFuncNested
import Derived.RangeFuncBound
import Derived.RangeFuncCalls
import Derived.RangeFuncLeaves
import Derived.Shelf.Abstract
import Derived.Shelf.RegionOpen
import Derived.WalkKit
import Derived.OwnWalkIn
import Derived.TacticsInMore
import Derived.LoopNIn
import Derived.LoopIn
import Derived.RangeFuncFrom
import Derived.Sort.QuietIn
import Derived.Test.YthdgbdjagjagpaaGreatDoorRi
import Derived.Deep.RegionHeld3
import Derived.Deep.Cut
namespace Go.Proofs.YthdgbdjagjagpaaGreatDoor
open Go.RowKit Go.Shelf Go.Maps
set_option maxRecDepth 20000

attribute [local go_sem] Oper.semAt_some

/-- Each instruction with its place, from the last one on. -/
def bks (xs : List Ix) : List (Ix × Nat) := xs.zipIdx.reverse
theorem bks_len (xs : List Ix) : (bks xs).length = xs.length := by simp [bks]
theorem bks_at {xs : List Ix} {k : Nat} {x : Ix} (h : xs[k]? = some x) : (bks xs)[xs.length - (k + 1)]? = some (x, k) := by
  have hk := (List.getElem?_eq_some_iff.1 h).1
  unfold bks
  rw [List.getElem?_reverse (by simp; omega)]
  rw [show xs.zipIdx.length - 1 - (xs.length - (k + 1)) = k by simp; omega]
  rw [List.getElem?_zipIdx, h]
  simp
def encB (y : Ix × Nat) : Array Value := #[.int .i64 (y.2 : Int), .agg #[.int .i64 y.1.p, .int .u8 (y.1.op : Int), .int .i64 y.1.a, .int .i64 y.1.b]]
/-- What a round that goes on keeps. -/
def KeepsB (n₀ Bl : Nat) (W W' : World) : Prop := Below n₀ W W' ∧ W'.heap[Bl]? = W.heap[Bl]?
theorem keepsB_t {n₀ Bl : Nat} {A B C : World} (h : KeepsB n₀ Bl A B) (k : KeepsB n₀ Bl B C) : KeepsB n₀ Bl A C := ⟨h.1.trans k.1, k.2.trans h.2⟩

set_option maxHeartbeats 1000000 in
theorem backMake_any (ao : Option Addr) (m cap : Nat) (w : World) :
    Calls Tryz.prog 90 #[.slice ao m cap] w fun e w' => e = .returned (.func (.func 109) #[] #[.pointer (some ⟨w.heap.size, 0, none⟩)]) ∧ w' = w.alloc (.cells #[.slice ao m cap] 50) := by
  go_enter Tryz.func90, Tryz.ntmps90
  go_wp2
  go_ret
  exact ⟨rfl, rfl⟩

set_option maxHeartbeats 2000000 in
theorem back1_in (n : Nat) (hn : 1 ≤ n) (l Bl : Nat) (ao : Option Addr) (cap : Nat) (xs : List Ix) (w0 : World) (hX : XsAt w0 ao xs) (hz : xs.length ≤ 4400000000000) (J Jx : List (Ix × Nat) → World → Prop)
    (hY : ∀ pre (x : Ix × Nat) W, J pre W → pre ++ [x] <+: bks xs → YieldAt Fence.wide (n - 1) Tryz.prog l (encB x) W fun e W' =>
      (e = .returned (.bool true) ∧ J (pre ++ [x]) W' ∧ KeepsB w0.heap.size Bl W W') ∨ (e = .returned (.bool false) ∧ Jx (pre ++ [x]) W'))
    (W : World) (hB0 : Below w0.heap.size w0 W) (hBl : W.cell? ⟨Bl, 0, none⟩ = some (.slice ao xs.length cap)) (h0 : J [] W) :
    CallsIn Fence.wide n Tryz.prog 109 #[.func (.yield l) #[] #[], .pointer (some ⟨Bl, 0, none⟩)] W fun e W' => (∃ v, e = .returned v) ∧
      ((∃ ys, ys = bks xs ∧ J ys W') ∨ (∃ pre, pre <+: bks xs ∧ Jx pre W')) := by
  have HX := hide hX
  have HB0 := hide hB0
  clear hX hB0
  refine callsIn_of_wp Tryz.func109 rfl trivial ?_ rfl
  simp only [Tryz.ntmps109, List.size_toArray, List.length_cons, List.length_nil, Nat.reduceAdd, Nat.reduceSub, Array.replicate_succ, Array.replicate_zero, List.push_toArray, List.append_toArray, List.nil_append, List.cons_append]
  gi_wp2
  gi_loopw [3] (fun iv wr => ∃ k : Nat, k ≤ xs.length ∧ iv = .int .i64 ((k : Int) - 1) ∧ Hid (J ((bks xs).take (xs.length - k)) wr) ∧ Hid (Below w0.heap.size w0 wr) ∧ wr.cell? ⟨Bl, 0, none⟩ = some (.slice ao xs.length cap)) (fun iv _ => (intOf iv + 1).toNat)
  case atStart => exact ⟨xs.length, Nat.le_refl _, by first | rfl | go_num, hide (by simpa using h0), HB0, hBl⟩
  case round =>
    obtain ⟨k, hk, rfl, HJ, HB, hbl⟩ := hrel
    by_cases h1 : 0 < k
    · obtain ⟨m, rfl⟩ : ∃ m, k = m + 1 := ⟨k - 1, by omega⟩
      have hm : m < xs.length := by omega
      have j0 : ((m + 1 : Nat) : Int) - 1 = (m : Int) := by omega
      rw [j0]
      have j1 : ((m : Nat) : Int) < ((xs.length : Nat) : Int) := by omega
      have j2 : ((m : Nat) : Int) ≥ 0 := by omega
      have hx := List.getElem?_eq_getElem hm
      generalize xs[m] = x at hx
      have HA := hide (bks_at hx)
      obtain ⟨b, off, rfl, hc⟩ := ((unhide HX).below (unhide HB)) m x hx
      obtain ⟨c0, c1, c2, c3, ho⟩ := hc
      have HN : Hid ((bks xs).take (xs.length - m) = (bks xs).take (xs.length - (m + 1)) ++ [(x, m)]) := hide (by
        rw [show xs.length - m = xs.length - (m + 1) + 1 by omega]
        exact take_snoc (unhide HA))
      obtain ⟨fn, tmps, assign, body, hy, hR⟩ := hY _ (x, m) wr (unhide HJ) (by rw [← unhide HN]; exact List.take_prefix _ _)
      unfold encB at hy
      simp only at hy
      clear hx HJ
      gi_wp2
      refine hR.mono ?_
      rintro e W3 (⟨rfl, hJ3, hk3⟩ | ⟨rfl, hJx3⟩)
      · have hbl3 : W3.cell? ⟨Bl, 0, none⟩ = some (.slice (some ⟨b, off, none⟩) xs.length cap) := (World.cell?_of_block hk3.2).trans hbl
        have HB3 := hide ((unhide HB).trans hk3.1)
        have HJ3 := hide hJ3
        clear hk3 hJ3 HB hR hy c0 c1 c2 c3
        gi_wp2
        go_roundw
        case rel => exact ⟨m, by omega, by first | rfl | go_num, hide (by rw [unhide HN]; exact unhide HJ3), HB3, hbl3⟩
        case measure => simp [intOf]
      · clear hR hy
        gi_wp2
        refine bodyPost_ret (results_none rfl _ _ _) rfl ⟨⟨_, rfl⟩, .inr ⟨_, by rw [← unhide HN]; exact List.take_prefix _ _, hJx3⟩⟩
    · obtain rfl : k = 0 := by omega
      gi_wp2
      go_end0
      exact ⟨⟨_, rfl⟩, .inl ⟨_, rfl, by have h := unhide HJ; rw [Nat.sub_zero, ← bks_len, List.take_length] at h; exact h⟩⟩
attribute [local go_sem] Oper.semAt_some

/-- How a body with a loop over a function in it is left. -/
def mkQb (fn : Func) (R : Ending → World → Prop) : Exit → Act → World → Prop
  | .normal, a, w | .ret, a, w => LeavesInM Fence.wide 4 Tryz.prog fn a.tmps R a.defers .returning w
  | _, _, _ => False
theorem mk_callsb {f : FuncId} {fn : Func} {c : Code} {args : Array Value} {w : World} {R : Ending → World → Prop} (hf : Tryz.prog.funcs[f]? = some fn) (hb : fn.body = some c) (h : c.wp Tryz.prog (mkQb fn R) { tmps := args ++ Array.replicate (fn.ntmps - args.size) undef, defers := [] } w) : Calls Tryz.prog f args w R := by
  refine (callsIn_wide (n := 4)).1 (callsIn_of_wp_marks hf hb trivial (wpIn_mono (wpIn_wide.2 h) ?_) rfl)
  rintro e a w h
  cases e <;> first | exact h | exact h.elim
/-- How a round is left. -/
def rndB (n0 Bl D : Nat) (I : List (Ix × Nat) → World → Prop) (xs : List (Ix × Nat)) (W : World) : Exit → Act → World → Prop
  | .normal, _, W' => W'.heap[D]? = W.heap[D]? ∧ W'.heap[D + 1]? = W.heap[D + 1]? ∧ KeepsB n0 Bl W W' ∧ I xs W'
  | _, _, _ => False

theorem range_back {g : Operand} {ps : Array Tmp} {assign body : Code} {Q : Exit → Act → World → Prop} {a : Act} {w : World} (nf : Nat) (hnf : 2 ≤ nf) (Bl : Nat) {ao : Option Addr} {cap : Nat} {xs : List Ix} (w0 : World) (hX : XsAt w0 ao xs) (hz : xs.length ≤ 4400000000000)
    (hg : a.eval g = .func (.func 109) #[] #[.pointer (some ⟨Bl, 0, none⟩)]) (hps : ps.size = 2)
    (hB : Below w0.heap.size w0 w) (hBl : w.heap[Bl]? = some (.cells #[.slice ao xs.length cap] 50 (0, 0)))
    (I : List (Ix × Nat) → World → Prop) (M : List (Ix × Nat) → Ix × Nat → Act → World → Prop)
    (hIp : ∀ pre W o, I pre W → I pre (W.putObj (w.heap.size + 1) o)) (hIa : ∀ pre W o, I pre W → I pre (W.alloc o)) (h0 : I [] w)
    (hassign : ∀ (l : Nat) pre x (W : World), I pre W → pre ++ [x] <+: bks xs → w.heap.size + 2 ≤ W.heap.size →
      assign.wpIn (Fence.wide.inRound l) (nf - 1 - 1) Tryz.prog (Exit.then (fun a₁ W₁ => W₁.heap[w.heap.size]? = W.heap[w.heap.size]? ∧ W₁.heap[w.heap.size + 1]? = W.heap[w.heap.size + 1]? ∧ KeepsB w0.heap.size Bl W W₁ ∧ M pre x a₁ W₁) (fun _ _ _ => False)) { tmps := (ps.zip (encB x)).foldl (fun t (p, v) => t.setIfInBounds p v) a.tmps, defers := [] } W)
    (hM : ∀ pre x a₁ W₁ o, M pre x a₁ W₁ → M pre x a₁ (W₁.putObj (w.heap.size + 1) o))
    (hbody : ∀ (l : Nat) pre x (a₁ : Act) (W : World), pre ++ [x] <+: bks xs → M pre x a₁ W → body.wpIn (Fence.wide.inRound l) (nf - 1 - 1) Tryz.prog (rndB w0.heap.size Bl w.heap.size I (pre ++ [x]) W) a₁ W)
    (hdone : ∀ (W : World), I (bks xs) W → W.heap[w.heap.size]? = some (.deferred (some [])) → Q .normal { a with defers := { target := .collected w.heap.size, args := #[] } :: a.defers } W) :
    (Code.rangeFunc g ps assign body).wp Tryz.prog Q a w := by
  have hbl : Bl < w.heap.size := (Array.getElem?_eq_some_iff.1 hBl).1
  have hw0 := hB.size
  refine (wpIn_wide (n := nf)).1 (wpIn_rangeFunc fun fn _ => ?_)
  obtain ⟨R, HRd⟩ : ∃ R : LoopState → Option Code → Loop, R = fun s j => { state := s, pending := j, fn := fn, tmps := a.tmps, params := ps, assign := assign, body := body, defers := w.heap.size } := ⟨_, rfl⟩
  have bl : Below w.heap.size w ((w.alloc (.deferred (some []))).alloc (.loop (R .ready none))) := ((Below.refl _ _).alloc (Nat.le_refl _) _).alloc (by simp) _
  have hD : ((w.alloc (.deferred (some []))).alloc (.loop (R .ready none))).heap[w.heap.size]? = some (.deferred (some [])) := (Below.heap_alloc _ _ _ (by simp)).trans (World.alloc_heap_new w _)
  have hLp : ((w.alloc (.deferred (some []))).alloc (.loop (R .ready none))).heap[w.heap.size + 1]? = some (.loop (R .ready none)) := by
    have := World.alloc_heap_new (w.alloc (.deferred (some []))) (.loop (R .ready none))
    rwa [World.size_alloc] at this
  refine ⟨w.heap.size + 1, [{ target := .collected w.heap.size, args := #[] }], (w.alloc (.deferred (some []))).alloc (.loop (R .ready none)), { target := .fn (.func 109) #[.pointer (some ⟨Bl, 0, none⟩)], args := #[.func (.yield (w.heap.size + 1)) #[] #[]] }, (w.alloc (.deferred (some []))).alloc (.loop (R .ready none)), 109, #[.func (.yield (w.heap.size + 1)) #[] #[], .pointer (some ⟨Bl, 0, none⟩)], (w.alloc (.deferred (some []))).alloc (.loop (R .ready none)), by rw [HRd]; exact run_enterLoop_outer _ _ _ _ _, by simp only [resolve, hg]; simp [go_sem], fun _ _ => trivial, by simp [invoke, go_sem], (fun e => by cases e), ?_⟩
  have h0' : I [] ((w.alloc (.deferred (some []))).alloc (.loop (R .ready none))) := hIa _ _ _ (hIa _ _ _ h0)
  have hBl' : ((w.alloc (.deferred (some []))).alloc (.loop (R .ready none))).cell? ⟨Bl, 0, none⟩ = some (.slice ao xs.length cap) := cell_of_row _ _ 0 _ _ _ ((bl.block Bl hbl).trans hBl)
  have hB' := hB.trans (bl.mono hB.size)
  generalize ((w.alloc (.deferred (some []))).alloc (.loop (R .ready none))) = W1 at *
  refine (back1_in (nf - 1) (by omega) (w.heap.size + 1) Bl ao cap xs w0 hX hz
    (fun pre W => I pre W ∧ W.heap[w.heap.size]? = some (.deferred (some [])) ∧ W.heap[w.heap.size + 1]? = some (.loop (R .ready none)))
    (fun _ _ => False) ?round W1 hB' hBl' ⟨h0', hD, hLp⟩).mono ?_
  case round =>
    rintro pre x W2 ⟨i1, i2, i3⟩ hpre
    have s2 : w.heap.size + 1 < W2.heap.size := (Array.getElem?_eq_some_iff.1 i3).1
    have hy := run_yield (P := Tryz.prog) (args := encB x) i3 (by rw [HRd]; exact hps.symm)
    rw [HRd] at hy
    refine ⟨fn, _, assign, body, hy, roundIn_of_wpIn trivial (wpIn_mono (hassign (w.heap.size + 1) pre x W2 i1 hpre (by omega)) ?_)⟩
    rintro e a3 W3 he
    cases e with
    | normal =>
      obtain ⟨k1, k2, k3, k4⟩ := he
      have l3 : W3.heap[w.heap.size + 1]? = some (.loop (R .ready none)) := k2.trans i3
      have s3 : w.heap.size + 1 < W3.heap.size := (Array.getElem?_eq_some_iff.1 l3).1
      refine ⟨_, run_beginRound l3 (by rw [HRd]), ?_⟩
      have g4 := grownBy_putObj' W3 (w.heap.size + 1) (.loop { R .ready none with state := .busy })
      have l4 : (W3.putObj (w.heap.size + 1) (.loop { R .ready none with state := .busy })).heap[w.heap.size + 1]? = some (.loop { R .ready none with state := .busy }) := World.putObj_heap_same s3
      have d4 : (W3.putObj (w.heap.size + 1) (.loop { R .ready none with state := .busy })).heap[w.heap.size]? = some (.deferred (some [])) := (World.putObj_heap_other (by omega)).trans (k1.trans i2)
      have q4 : KeepsB w0.heap.size Bl W3 (W3.putObj (w.heap.size + 1) (.loop { R .ready none with state := .busy })) := ⟨below_grown g4 (by omega) (fun k e => by injection e with e; omega), g4.block Bl (by omega) (fun e => by injection e with e; omega)⟩
      refine wpIn_mono (hbody (w.heap.size + 1) pre x a3 _ hpre (hM _ _ _ _ _ k4)) ?_
      rintro e a5 W5 he5
      cases e with
      | normal =>
        obtain ⟨m1, m2, m3, m4⟩ := he5
        have l5 := m2.trans l4
        have s5 : w.heap.size + 1 < W5.heap.size := (Array.getElem?_eq_some_iff.1 l5).1
        have g6 := fun o => grownBy_putObj' W5 (w.heap.size + 1) o
        refine ⟨_, _, run_endRound none l5, .inl ⟨rfl, ⟨hIp _ _ _ m4, (World.putObj_heap_other (by omega)).trans (m1.trans d4), by rw [World.putObj_heap_same s5, HRd]; rfl⟩, ?_⟩⟩
        exact keepsB_t (keepsB_t k3 (keepsB_t q4 m3)) ⟨below_grown (g6 _) (by omega) (fun k e => by injection e with e; omega), (g6 _).block Bl (by omega) (fun e => by injection e with e; omega)⟩
      | _ => exact he5.elim
    | _ => exact he.elim
  rintro e W2 ⟨⟨v, rfl⟩, ⟨ys, rfl, i1, i2, i3⟩ | ⟨_, _, h⟩⟩
  · exact ⟨none, _, by have := run_endLoop (P := Tryz.prog) i3 (by rw [HRd]; simp); rw [this, HRd], hdone _ (hIp _ _ _ i1) ((World.putObj_heap_other (by omega)).trans i2)⟩
  · exact h.elim
attribute [local go_sem] Oper.semAt_some

/-- What firsts puts, one behind another. -/
def fMap (l : List (Ix × Nat)) : DataW Unit := l.foldl (fun m y => m.put (.int .i64 y.1.p) (.lit (.int .i64 (y.2 : Int)))) (.map [])
theorem fMap_snoc (l : List (Ix × Nat)) (y : Ix × Nat) : fMap (l ++ [y]) = (fMap l).put (.int .i64 y.1.p) (.lit (.int .i64 (y.2 : Int))) := by unfold fMap; rw [List.foldl_append]; rfl
def MapAt (W : World) (b n : Nat) (l : List (Ix × Nat)) : Prop := W.ownsMap Tryz.prog 3 (plainElem (H := Unit) Tryz.prog 3) b n (fMap l)

theorem wp_mapUpdate_own {H : Type} {P : Program} {w : World} {o : Oper} {a : Act} {K : Act → World → Prop} {Q : Exit → Act → World → Prop} (m x v : Operand) (t : TypeId) (hop : o.op = Op.mapUpdate t m x v) (k e : TypeId) (Kd : Keyed P k) (ht : P.underlying t = some (.map k e)) (R : Value → Option (DataW H × List MemPlace)) (b n : Nat) (D : DataW H)
    (hm : a.eval m = .map (some b)) (hown : w.ownsMap P k R b n D) (hn : n < maxLen) (key val : Value) (kl : Lit) (hx : a.eval x = key) (hv : a.eval v = val) (hkey : keyOf P k key = some kl) (d : DataW H) (ps : List MemPlace) (hval : R val = some (d, ps))
    (hK : ∀ w', w'.ownsMap P k R b (n + 1) (D.put kl d) → w.grownBy w' (some b) → K (a.put o.dst undef) w') : o.wp P a w K Q := by
  obtain ⟨w', hrun, r1, r2⟩ := hown.update Kd ht hn hkey hval
  unfold Oper.wp
  simp [execOp, hop, hm, hx, hv, hrun, Result.andThen]
  exact hK w' r1 r2

set_option maxHeartbeats 1000000 in
theorem address_any (p : Int) (op : Nat) (a b : Int) (w : World) : Calls Tryz.prog 60 #[.agg #[.int .i64 p, .int .u8 (op : Int), .int .i64 a, .int .i64 b]] w fun e w' => e = .returned (.int .i64 p) ∧ Below w.heap.size w w' := by
  have hal := ((Below.refl w.heap.size w).alloc (Nat.le_refl _) (.cells #[.int .i64 p, .int .u8 (op : Int), .int .i64 a, .int .i64 b] 72))
  go_enter Tryz.func60, Tryz.ntmps60
  go_wp2
  go_ret
  exact ⟨rfl, hal⟩

theorem yieldsIf_load_ix {ops : Array Oper} {S : World → Prop} {o : Oper} {c : Act} (hw : Region.wanted o (yielded ops c.tmps) = true) (x : Operand) (ho : o.op = .load 72 x)
    (g : Nat) (hx : c.eval x = .pointer (some ⟨g, 0, none⟩)) (cs : Array Value) (hi : (Tryz.prog.info? 72).map (·.size) = some cs.size) (hS : ∀ w, S w → w.heap[g]? = some (.cells cs 72 (0, 0))) : YieldsIf Tryz.prog ops S o (.agg cs) c :=
  .inl ⟨hw, fun w hw' => by
    unfold execOp
    simp only [ho, hx, Instr.loadAt, Instr.sureAddr, Sem.run_bind, Sem.run_pure, Result.andThen_ok, run_loadVar_row w g 72 72 cs (0, 0) _ (hS w hw') Tryz.underlying72 rfl hi]⟩
/-- The loop's boxes: the function, the map's variable, the map. -/
structure FM (w W : World) (l : List (Ix × Nat)) : Prop where
  f : W.heap[w.heap.size]? = some (.cells #[.func (.func 60) #[] #[]] 111 (0, 0))
  v : W.heap[w.heap.size + 2]? = some (.cells #[.map (some (w.heap.size + 1))] 109 (0, 0))
  m : MapAt W (w.heap.size + 1) l.length l
  bel : Below w.heap.size w W
theorem FM.lt {w W : World} {l : List (Ix × Nat)} (h : FM w W l) : w.heap.size + 2 < W.heap.size := (Array.getElem?_eq_some_iff.1 h.v).1
theorem FM.grown {w W W' : World} {l : List (Ix × Nat)} {row : Option Nat} (h : FM w W l) (hg : W.grownBy W' row) (hr : ∀ k, row = some k → w.heap.size + 2 < k) : FM w W' l :=
  ⟨(hg.block _ (by have := h.lt; omega) (fun e => by have := hr _ e.symm; omega)).trans h.f, (hg.block _ h.lt (fun e => by have := hr _ e.symm; omega)).trans h.v, World.ownsMap.kept h.m hg (fun e => by have := hr _ e.symm; omega), h.bel.trans (below_grown hg h.bel.size (fun k e => by have := hr k e; omega))⟩

set_option maxRecDepth 20000 in
set_option maxHeartbeats 2000000 in
theorem firsts_any (ao : Option Addr) (cap : Nat) (xs : List Ix) (w : World) (hX : XsAt w ao xs) (hz : xs.length ≤ 4400000000000) (hbp : ∀ x ∈ xs, -9223372036854775808 ≤ x.p ∧ x.p ≤ 9223372036854775807) :
    Calls Tryz.prog 59 #[.slice ao xs.length cap, .func (.func 60) #[] #[]] w fun e w' => e = .returned (.map (some (w.heap.size + 1))) ∧ MapAt w' (w.heap.size + 1) xs.length (bks xs) ∧ Below w.heap.size w w' := by
  have hmm := @run_makeMap Tryz.prog
  have HX := hide hX
  clear hX
  refine mk_callsb Tryz.func59 rfl ?_
  simp only [Tryz.ntmps59, List.size_toArray, List.length_cons, List.length_nil, Nat.reduceAdd, Nat.reduceSub, Array.replicate_succ, Array.replicate_zero, List.push_toArray, List.append_toArray, List.nil_append, List.cons_append]
  go_wp2_with fail
  have HF : Hid (FM w (((w.alloc (.cells #[.func (.func 60) #[] #[]] 111)).alloc (.map #[] 0)).alloc (.cells #[.map (some (w.heap.size + 1))] 109)) []) := hide (by
    have n1 := heap_alloc_new w (.cells #[.func (.func 60) #[] #[]] 111)
    have n3 := heap_alloc_new ((w.alloc (.cells #[.func (.func 60) #[] #[]] 111)).alloc (.map #[] 0)) (.cells #[.map (some (w.heap.size + 1))] 109)
    simp only [World.size_alloc] at n3
    have m2 := World.ownsMap_made (w.alloc (.cells #[.func (.func 60) #[] #[]] 111)) Tryz.prog 3 (plainElem (H := Unit) Tryz.prog 3)
    rw [World.size_alloc] at m2
    have k1 := (Below.refl _ ((w.alloc (.cells #[.func (.func 60) #[] #[]] 111)).alloc (.map #[] 0))).alloc (Nat.le_refl _) (.cells #[.map (some (w.heap.size + 1))] 109)
    have k2 := (Below.refl _ (w.alloc (.cells #[.func (.func 60) #[] #[]] 111))).alloc (Nat.le_refl _) (.map #[] 0)
    exact ⟨(k1.block _ (by simp; omega)).trans ((k2.block _ (by simp)).trans n1), n3, m2.alloc _, (((Below.refl w.heap.size w).alloc (Nat.le_refl _) _).alloc (by simp) _).alloc (by simp; omega) _⟩)
  have hsz : (((w.alloc (.cells #[.func (.func 60) #[] #[]] 111)).alloc (.map #[] 0)).alloc (.cells #[.map (some (w.heap.size + 1))] 109)).heap.size = w.heap.size + 3 := by simp
  generalize (((w.alloc (.cells #[.func (.func 60) #[] #[]] 111)).alloc (.map #[] 0)).alloc (.cells #[.map (some (w.heap.size + 1))] 109)) = V at HF hsz ⊢
  refine (backMake_any ao xs.length cap V).mono ?_
  rintro e V' ⟨rfl, hV'⟩
  have HF4 : Hid (FM w V' []) := hide (by rw [hV']; exact (unhide HF).grown (World.grownBy_alloc _ _ none) (fun k e => by cases e))
  have HBl : Hid (V'.heap[w.heap.size + 3]? = some (.cells #[.slice ao xs.length cap] 50 (0, 0))) := hide (by rw [hV', ← hsz]; exact heap_alloc_new V _)
  have hsz4 : V'.heap.size = w.heap.size + 4 := by rw [hV']; simp [hsz]
  rw [hsz]
  clear hV' HF hsz V
  go_upto_region 3 with fail
  refine range_back 4 (by omega) (w.heap.size + 3) (cap := cap) w (unhide HX) hz rfl rfl (unhide HF4).bel (unhide HBl)
    (fun pre W => FM w W pre)
    (fun pre x a₁ W => FM w W pre ∧ w.heap.size + 6 ≤ W.heap.size ∧ ∃ bx, w.heap.size + 6 ≤ bx ∧ bx < W.heap.size ∧ W.heap[bx]? = some (.cells #[.int .i64 x.1.p, .int .u8 (x.1.op : Int), .int .i64 x.1.a, .int .i64 x.1.b] 72 (0, 0)) ∧ a₁ = { tmps := #[.slice ao xs.length cap, .func (.func 60) #[] #[], undef, .pointer (some ⟨w.heap.size, 0, none⟩), .map none, .pointer (some ⟨w.heap.size + 1 + 1, 0, none⟩), .int .i64 (x.2 : Int), .pointer (some ⟨bx, 0, none⟩), .map (some (w.heap.size + 1)), .slice ao xs.length cap, .func (.func 109) #[] #[.pointer (some ⟨w.heap.size + 3, 0, none⟩)], .int .i64 (x.2 : Int), .agg #[.int .i64 x.1.p, .int .u8 (x.1.op : Int), .int .i64 x.1.a, .int .i64 x.1.b], undef, undef, undef, undef, undef, undef], defers := [] })
    ?keepp ?keepa (unhide HF4) ?assign ?mid ?body ?done
  case keepp => exact fun pre W o h => h.grown (grownBy_putObj' _ _ _) (fun k e => by injection e with e; omega)
  case keepa => exact fun pre W o h => h.grown (World.grownBy_alloc _ _ none) (fun k e => by cases e)
  case mid =>
    rintro pre x a₁ W o ⟨h1, h2, bx, h3, h4, h5, h6⟩
    have g := grownBy_putObj' W (V'.heap.size + 1) o
    exact ⟨h1.grown g (fun k e => by injection e with e; omega), Nat.le_trans h2 g.size, bx, h3, Nat.lt_of_lt_of_le h4 g.size, (g.block bx h4 (fun e => by injection e with e; omega)).trans h5, h6⟩
  case assign =>
    rintro l pre x W hI hpre hW
    have HI := hide hI
    have bl := (Below.refl W.heap.size W).alloc (Nat.le_refl _) (.cells #[.int .i64 x.1.p, .int .u8 (x.1.op : Int), .int .i64 x.1.a, .int .i64 x.1.b] 72)
    have hn := heap_alloc_new W (.cells #[.int .i64 x.1.p, .int .u8 (x.1.op : Int), .int .i64 x.1.a, .int .i64 x.1.b] 72)
    have hs : (W.alloc (.cells #[.int .i64 x.1.p, .int .u8 (x.1.op : Int), .int .i64 x.1.a, .int .i64 x.1.b] 72)).heap.size = W.heap.size + 1 := by simp
    clear hI
    unfold encB
    gi_wp2
    generalize (W.alloc (.cells #[.int .i64 x.1.p, .int .u8 (x.1.op : Int), .int .i64 x.1.a, .int .i64 x.1.b] 72)) = W1 at bl hn hs ⊢
    have hwl := (unhide HI).bel.size
    exact ⟨bl.block _ (by omega), bl.block _ (by omega), ⟨bl.mono hwl, bl.block _ (by omega)⟩, (unhide HI).grown (⟨bl.os, bl.tape, bl.output, bl.size, fun j hj _ => bl.block j hj⟩ : W.grownBy W1 none) (fun k e => by cases e), by omega, W.heap.size, by omega, by omega, hn, rfl⟩
  case body =>
    rintro l pre x a₁ W hpre ⟨h1, h2, bx, h3, h4, h5, rfl⟩
    obtain ⟨xi, k⟩ := x
    simp only at *
    have hxm : (xi, k) ∈ bks xs := hpre.subset (by simp)
    have hxx : xi ∈ xs := by
      unfold bks at hxm
      have := List.mem_reverse.1 hxm
      exact (List.mem_zipIdx' this).2 ▸ List.getElem_mem _
    have hwf := wf_of (hbp xi hxx)
    have hkl : k < xs.length := by
      unfold bks at hxm
      exact (List.mem_zipIdx' (List.mem_reverse.1 hxm)).1
    have hwk := wf_of (x := (k : Int)) (by omega)
    have hpl : pre.length < 4400000000000 := by
      have := hpre.length_le
      rw [List.length_append, bks_len] at this
      simp at this
      omega
    have H1 := hide h1
    have hS0 : W.drew.cell? ⟨w.heap.size + 1 + 1, 0, none⟩ = some (.map (some (w.heap.size + 1))) ∧ W.drew.cell? ⟨w.heap.size, 0, none⟩ = some (.func (.func 60) #[] #[]) ∧ W.drew.heap[bx]? = some (.cells #[.int .i64 xi.p, .int .u8 (xi.op : Int), .int .i64 xi.a, .int .i64 xi.b] 72 (0, 0)) := ⟨cell_of_row _ _ 0 _ _ _ h1.v, cell_of_row _ _ 0 _ _ _ h1.f, h5⟩
    gi_wp2
    refine region_any (S := fun w' => w'.cell? ⟨w.heap.size + 1 + 1, 0, none⟩ = some (.map (some (w.heap.size + 1))) ∧ w'.cell? ⟨w.heap.size, 0, none⟩ = some (.func (.func 60) #[] #[]) ∧ w'.heap[bx]? = some (.cells #[.int .i64 xi.p, .int .u8 (xi.op : Int), .int .i64 xi.a, .int .i64 xi.b] 72 (0, 0))) (by kernel_rfl) (by rintro ⟨_, _, h⟩; exact h) (by kernel_rfl) hS0 (fun hS => ?_)
    have HV : Hid (FM w W.drew pre) := hide ⟨h1.f, h1.v, World.ownsMap.kept h1.m (⟨rfl, rfl, rfl, Nat.le_refl _, fun _ _ _ => rfl⟩ : W.grownBy W.drew none) (by intro e; cases e), belowD h1.bel 1⟩
    have dd : ∀ j : Nat, W.drew.heap[j]? = W.heap[j]? := fun _ => rfl
    have ds : W.drew.heap.size = W.heap.size := rfl
    have hKB : KeepsB w.heap.size (w.heap.size + 3) W W.drew := ⟨belowD (Below.refl _ _) 1, rfl⟩
    clear h1 H1 hS0
    generalize W.drew = V0 at HV hS dd ds hKB ⊢
    refine wpAnyH_take (i := 0) (v := .map (some (w.heap.size + 1))) rfl (by kernel_rfl) (by kernel_rfl) (by kernel_rfl) (fun _ _ _ h => h) (Or.inl ⟨by rfl, fun w hS => by have h0 := hS.1; go_simp⟩) hS ?_
    refine wpAnyH_take (i := 1) (v := .func (.func 60) #[] #[]) rfl (by kernel_rfl) (by kernel_rfl) (by kernel_rfl) (fun _ _ _ h => h) (Or.inl ⟨by rfl, fun w hS => by have h0 := hS.2.1; go_simp⟩) hS ?_
    refine wpAnyH_take (i := 2) (v := .agg #[.int .i64 xi.p, .int .u8 (xi.op : Int), .int .i64 xi.a, .int .i64 xi.b]) rfl (by kernel_rfl) (by kernel_rfl) (by kernel_rfl) (fun _ _ _ h => h) (yieldsIf_load_ix (by rfl) _ rfl bx rfl _ (by kernel_rfl) (fun _ h => h.2.2)) hS ?_
    refine wpAnyH_take (i := 4) (v := .int .i64 (k : Int)) rfl (by kernel_rfl) (by kernel_rfl) (by kernel_rfl) (fun _ _ _ h => h) (Or.inl ⟨by rfl, fun w _ => by go_simp⟩) hS ?_
    go_simp
    refine wpAnyH_ready (rs := [3]) (by kernel_rfl) (by simp) ?_
    refine AllReadyH.cons rfl (fun K hK => ?_) AllReadyH.nil
    rw [if_pos (by rfl)]
    go_wp2_with (go_at_call 60; refine (address_any xi.p xi.op xi.a xi.b V0).mono ?_; rintro e V1 ⟨rfl, hB1⟩)
    have hs1 := hB1.size
    have hS1 : V1.cell? ⟨w.heap.size + 1 + 1, 0, none⟩ = some (.map (some (w.heap.size + 1))) ∧ V1.cell? ⟨w.heap.size, 0, none⟩ = some (.func (.func 60) #[] #[]) ∧ V1.heap[bx]? = some (.cells #[.int .i64 xi.p, .int .u8 (xi.op : Int), .int .i64 xi.a, .int .i64 xi.b] 72 (0, 0)) := ⟨(hB1.cell (p := ⟨w.heap.size + 1 + 1, 0, none⟩) (by show w.heap.size + 1 + 1 < V0.heap.size; omega)).trans hS.1, (hB1.cell (p := ⟨w.heap.size, 0, none⟩) (by show w.heap.size < V0.heap.size; omega)).trans hS.2.1, (hB1.block bx (by omega)).trans hS.2.2⟩
    refine hK.out _ _ hS1 (fun _ => ?_)
    clear hK K hS
    have H1 := hide ((unhide HV).grown (⟨hB1.os, hB1.tape, hB1.output, hB1.size, fun j hj _ => hB1.block j hj⟩ : V0.grownBy V1 none) (fun k e => by cases e))
    have hwl := (unhide HV).bel.size
    refine wpAnyH_ready (rs := [5]) (by kernel_rfl) (by simp) ?_
    refine AllReadyH.cons rfl (fun K hK => ?_) AllReadyH.nil
    rw [if_pos (by rfl)]
    refine wp_mapUpdate_own (.tmp 13) (.tmp 16) (.tmp 17) 109 rfl 3 3 lawK Tryz.underlying109 (plainElem (H := Unit) Tryz.prog 3) (w.heap.size + 1) pre.length (fMap pre) rfl (unhide H1).m (by unfold maxLen; omega) _ _ _ rfl rfl (keyOf_int_mk Tryz.underlying3 hwf) _ [] (plainElem_int Tryz.underlying3 hwk) ?_
    intro w5 hm5 hg5
    have hs5 := hg5.size
    have hS5 : w5.cell? ⟨w.heap.size + 1 + 1, 0, none⟩ = some (.map (some (w.heap.size + 1))) ∧ w5.cell? ⟨w.heap.size, 0, none⟩ = some (.func (.func 60) #[] #[]) ∧ w5.heap[bx]? = some (.cells #[.int .i64 xi.p, .int .u8 (xi.op : Int), .int .i64 xi.a, .int .i64 xi.b] 72 (0, 0)) := ⟨(World.cell?_of_block (hg5.block (w.heap.size + 1 + 1) (by omega) (fun e => by injection e with e; omega))).trans hS1.1, (World.cell?_of_block (hg5.block w.heap.size (by omega) (fun e => by injection e with e; omega))).trans hS1.2.1, (hg5.block bx (by omega) (fun e => by injection e with e; omega)).trans hS1.2.2⟩
    refine hK.out _ _ hS5 (fun _ => ?_)
    clear hK K hS1
    refine wpAnyH_done (by kernel_rfl) ?_ _
    have hF := unhide H1
    refine ⟨(hg5.block _ (by omega) (fun e => by injection e with e; omega)).trans ((hB1.block _ (by omega)).trans (dd _)), (hg5.block _ (by omega) (fun e => by injection e with e; omega)).trans ((hB1.block _ (by omega)).trans (dd _)), keepsB_t hKB (keepsB_t ⟨hB1.mono (by omega), hB1.block _ (by omega)⟩ ⟨below_grown hg5 (by omega) (fun r e => by injection e with e; omega), hg5.block _ (by omega) (fun e => by injection e with e; omega)⟩), ⟨(hg5.block _ (by omega) (fun e => by injection e with e; omega)).trans hF.f, (hg5.block _ (by omega) (fun e => by injection e with e; omega)).trans hF.v, ?_, hF.bel.trans (below_grown hg5 hF.bel.size (fun r e => by injection e with e; omega))⟩⟩
    unfold MapAt
    rw [fMap_snoc, List.length_append]
    exact hm5
  case done =>
    rintro W hI hD
    have HI := hide hI
    have c1 : W.cell? ⟨w.heap.size + 1 + 1, 0, none⟩ = some (.map (some (w.heap.size + 1))) := cell_of_row _ _ 0 _ _ _ hI.v
    have hlt := hI.lt
    have HD := hide hD
    clear hI hD
    go_wp2
    have hF := (unhide HI).grown (grownBy_putObj' W V'.heap.size (.deferred none)) (fun k e => by injection e with e; omega)
    have hm := hF.m
    rw [bks_len] at hm
    exact ⟨by simp, .inl ⟨_, _, rfl, run_takeDeferred (unhide HD), ⟨_, results_tmp rfl _ _ _, rfl, hm, hF.bel⟩⟩⟩
end Go.Proofs.YthdgbdjagjagpaaGreatDoor
