/-
  A frame that lies in a block of its own: what is read of it, what a store makes of it. Then the contract of frames.trimmed: nothing stands behind the entries. Conditions: a frame's shape can be.
-/
import Derived.Test.YtplfpcbheijdlaaFrA
namespace Go.Proofs.Ytplfpcbheijdlaa
open Go.RowKit

theorem slV_set (l : List Nat) (i t : Nat) : (slV l).set i (.int .u8 (t : Int)) = slV (l.set i t) := by simp [slV, List.map_set, tyV]
theorem frA_set (f : Fr) (i t : Nat) : (frA f).setIfInBounds (2 + i) (.int .u8 (t : Int)) = frA { f with sl := f.sl.set i t } := by
  rw [Nat.add_comm 2 i]
  simp [frA, frL, ← slV_set]
theorem frA_setHe (f : Fr) (n : Int) : (frA f).setIfInBounds 1 (.int .i64 n) = frA { f with he := n } := by simp [frA, frL]
theorem below_setRow' {B : Nat} {w W : World} (h : Below B w W) {g : Nat} (hg : B ≤ g) (cs : Array Value) : Below B w (W.setRow g cs) := by
  refine h.trans ⟨rfl, rfl, rfl, by simp, fun k hk => setRow_other W g k cs (by omega)⟩

/-- A load of a row under a guard that lets it through. -/
theorem wpList_load_rowG {P : Program} {ops : Array Oper} {rest : List Oper} {o : Oper} {a : Act} {w : World} {Q : Exit → Act → World → Prop} (hw : Region.wanted o (yielded ops a.tmps) = true) (ty : TypeId) (x : Operand) (ho : o.op = .load ty x)
    (g : Nat) (hx : a.eval x = .pointer (some ⟨g, 0, none⟩)) (t : TypeId) (cs : Array Value) (fr : Nat × Nat) (d : TypeDesc) (hg : w.heap[g]? = some (.cells cs t fr))
    (hu : P.underlying ty = some d) (hd : (match d with | .struct _ | .array _ _ => true | _ => false) = true) (hi : (P.info? ty).map (·.size) = some cs.size)
    (h : wpList P ops Q rest (a.put o.dst (.agg cs)) w) : wpList P ops Q (o :: rest) a w :=
  wpList_step fun _ hK => by rw [if_pos hw]; exact wp_load_row ty x ho g hx t cs fr d hg hu hd hi (hK _ _ h)

/-- The zero frame. -/
def frZ : Fr := ⟨0, 0, List.replicate 24 0⟩
def zeroV : Array Value := #[.int .i64 0, .int .i64 0, .int .u8 0, .int .u8 0, .int .u8 0, .int .u8 0, .int .u8 0, .int .u8 0, .int .u8 0, .int .u8 0, .int .u8 0, .int .u8 0, .int .u8 0, .int .u8 0, .int .u8 0, .int .u8 0, .int .u8 0, .int .u8 0, .int .u8 0, .int .u8 0, .int .u8 0, .int .u8 0, .int .u8 0, .int .u8 0, .int .u8 0, .int .u8 0]
theorem frZ_eq : (#[.int .i64 0, .int .i64 0, .int .u8 0, .int .u8 0, .int .u8 0, .int .u8 0, .int .u8 0, .int .u8 0, .int .u8 0, .int .u8 0, .int .u8 0, .int .u8 0, .int .u8 0, .int .u8 0, .int .u8 0, .int .u8 0, .int .u8 0, .int .u8 0, .int .u8 0, .int .u8 0, .int .u8 0, .int .u8 0, .int .u8 0, .int .u8 0, .int .u8 0, .int .u8 0] : Array Value) = frA frZ := rfl
theorem frZ_ok : FrOk frZ := ⟨rfl, fun t ht => by rw [List.eq_of_mem_replicate ht]; omega, by decide, by decide⟩

/-! ### trimmed -/
def trimL (n : Nat) (l : List Nat) : List Nat := l.take n ++ List.replicate (24 - n) 0
def trimD (f : Fr) : Fr := { f with sl := trimL (nF f) f.sl }
theorem trimL_length {n : Nat} {l : List Nat} (h : l.length = 24) (hn : n ≤ 24) : (trimL n l).length = 24 := by simp [trimL, h]; omega
theorem shape_n {f : Fr} (h : shapeD f = true) : nF f ≤ 24 := by have := shapeD_iff.1 h; unfold nF; omega
theorem trim_ok {f : Fr} (hf : FrOk f) (hs : shapeD f = true) : FrOk (trimD f) := by
  refine ⟨trimL_length hf.len (shape_n hs), fun t ht => ?_, hf.lo, hf.he⟩
  unfold trimD trimL at ht
  rcases List.mem_append.1 ht with h | h
  · exact hf.byte t (List.mem_of_mem_take h)
  · rw [List.eq_of_mem_replicate h]; omega
end Go.Proofs.Ytplfpcbheijdlaa
