/-
  slices.Backward over a row of instructions, and the function that it makes: each place and instruction, from the last one on. Conditions: the row lies there; of a round, that it leaves the row and the box that holds it.
  flow.firsts of instructions by their addresses: a map of the first place of each address. Conditions: the row lies there, addresses are numbers of the machine.
  The contract of flow.firsts, of instructions by their addresses. Conditions: the row lies there, addresses are numbers of the machine.
-/
import Derived.Test.YtgelbihdcfgjcaaDoorJIN
import Derived.Test.YtgelbihdcfgjcaaDoorKFl1
import Derived.RangeFuncNested
import Derived.RangeFuncBound
import Derived.RangeFuncCalls
import Derived.RangeFuncLeaves
import Derived.Shelf.Abstract
import Derived.Shelf.RegionOpen
import Derived.WalkKit
import Derived.OwnWalkIn
import Derived.TacticsInMore
import Derived.LoopNIn
import Derived.LoopIn
import Derived.RangeFuncFrom
import Derived.Sort.QuietIn
import Derived.Test.YtgelbihdcfgjcaaDoorRi
import Derived.Deep.RegionHeld3
import Derived.Deep.Cut
namespace Go.Proofs.YtgelbihdcfgjcaaDoor
open Go.RowKit Go.Shelf Go.Maps
set_option maxRecDepth 20000

attribute [local go_sem] Oper.semAt_some

/-- Each instruction with its place, from the last one on. -/
def bks (xs : List Ix) : List (Ix × Nat) := xs.zipIdx.reverse
theorem bks_len (xs : List Ix) : (bks xs).length = xs.length := by simp [bks]
theorem bks_at {xs : List Ix} {k : Nat} {x : Ix} (h : xs[k]? = some x) : (bks xs)[xs.length - (k + 1)]? = some (x, k) := by
  have hk := (List.getElem?_eq_some_iff.1 h).1
  unfold bks
  rw [List.getElem?_reverse (by simp; omega)]
  rw [show xs.zipIdx.length - 1 - (xs.length - (k + 1)) = k by simp; omega]
  rw [List.getElem?_zipIdx, h]
  simp
def encB (y : Ix × Nat) : Array Value := #[.int .i64 (y.2 : Int), .agg #[.int .i64 y.1.p, .int .u8 (y.1.op : Int), .int .i64 y.1.a, .int .i64 y.1.b]]
/-- What a round that goes on keeps. -/
def KeepsB (n₀ Bl : Nat) (W W' : World) : Prop := Below n₀ W W' ∧ W'.heap[Bl]? = W.heap[Bl]?
theorem keepsB_t {n₀ Bl : Nat} {A B C : World} (h : KeepsB n₀ Bl A B) (k : KeepsB n₀ Bl B C) : KeepsB n₀ Bl A C := ⟨h.1.trans k.1, k.2.trans h.2⟩

attribute [local go_sem] Oper.semAt_some

/-- How a body with a loop over a function in it is left. -/
def mkQb (fn : Func) (R : Ending → World → Prop) : Exit → Act → World → Prop
  | .normal, a, w | .ret, a, w => LeavesInM Fence.wide 4 Tryd.prog fn a.tmps R a.defers .returning w
  | _, _, _ => False
theorem mk_callsb {f : FuncId} {fn : Func} {c : Code} {args : Array Value} {w : World} {R : Ending → World → Prop} (hf : Tryd.prog.funcs[f]? = some fn) (hb : fn.body = some c) (h : c.wp Tryd.prog (mkQb fn R) { tmps := args ++ Array.replicate (fn.ntmps - args.size) undef, defers := [] } w) : Calls Tryd.prog f args w R := by
  refine (callsIn_wide (n := 4)).1 (callsIn_of_wp_marks hf hb trivial (wpIn_mono (wpIn_wide.2 h) ?_) rfl)
  rintro e a w h
  cases e <;> first | exact h | exact h.elim
/-- How a round is left. -/
def rndB (n0 Bl D : Nat) (I : List (Ix × Nat) → World → Prop) (xs : List (Ix × Nat)) (W : World) : Exit → Act → World → Prop
  | .normal, _, W' => W'.heap[D]? = W.heap[D]? ∧ W'.heap[D + 1]? = W.heap[D + 1]? ∧ KeepsB n0 Bl W W' ∧ I xs W'
  | _, _, _ => False

attribute [local go_sem] Oper.semAt_some

/-- What firsts puts, one behind another. -/
def fMap (l : List (Ix × Nat)) : DataW Unit := l.foldl (fun m y => m.put (.int .i64 y.1.p) (.lit (.int .i64 (y.2 : Int)))) (.map [])
theorem fMap_snoc (l : List (Ix × Nat)) (y : Ix × Nat) : fMap (l ++ [y]) = (fMap l).put (.int .i64 y.1.p) (.lit (.int .i64 (y.2 : Int))) := by unfold fMap; rw [List.foldl_append]; rfl
def MapAt (W : World) (b n : Nat) (l : List (Ix × Nat)) : Prop := W.ownsMap Tryd.prog 3 (plainElem (H := Unit) Tryd.prog 3) b n (fMap l)

theorem wp_mapUpdate_own {H : Type} {P : Program} {w : World} {o : Oper} {a : Act} {K : Act → World → Prop} {Q : Exit → Act → World → Prop} (m x v : Operand) (t : TypeId) (hop : o.op = Op.mapUpdate t m x v) (k e : TypeId) (Kd : Keyed P k) (ht : P.underlying t = some (.map k e)) (R : Value → Option (DataW H × List MemPlace)) (b n : Nat) (D : DataW H)
    (hm : a.eval m = .map (some b)) (hown : w.ownsMap P k R b n D) (hn : n < maxLen) (key val : Value) (kl : Lit) (hx : a.eval x = key) (hv : a.eval v = val) (hkey : keyOf P k key = some kl) (d : DataW H) (ps : List MemPlace) (hval : R val = some (d, ps))
    (hK : ∀ w', w'.ownsMap P k R b (n + 1) (D.put kl d) → w.grownBy w' (some b) → K (a.put o.dst undef) w') : o.wp P a w K Q := by
  obtain ⟨w', hrun, r1, r2⟩ := hown.update Kd ht hn hkey hval
  unfold Oper.wp
  simp [execOp, hop, hm, hx, hv, hrun, Result.andThen]
  exact hK w' r1 r2

theorem yieldsIf_load_ix {ops : Array Oper} {S : World → Prop} {o : Oper} {c : Act} (hw : Region.wanted o (yielded ops c.tmps) = true) (x : Operand) (ho : o.op = .load 68 x)
    (g : Nat) (hx : c.eval x = .pointer (some ⟨g, 0, none⟩)) (cs : Array Value) (hi : (Tryd.prog.info? 68).map (·.size) = some cs.size) (hS : ∀ w, S w → w.heap[g]? = some (.cells cs 68 (0, 0))) : YieldsIf Tryd.prog ops S o (.agg cs) c :=
  .inl ⟨hw, fun w hw' => by
    unfold execOp
    simp only [ho, hx, Instr.loadAt, Instr.sureAddr, Sem.run_bind, Sem.run_pure, Result.andThen_ok, run_loadVar_row w g 68 68 cs (0, 0) _ (hS w hw') Tryd.underlying68 rfl hi]⟩
end Go.Proofs.YtgelbihdcfgjcaaDoor
