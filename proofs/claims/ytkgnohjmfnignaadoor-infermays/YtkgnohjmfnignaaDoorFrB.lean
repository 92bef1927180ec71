/-
  A frame that lies in a block of its own: what is read of it, what a store makes of it. Then the contract of frames.trimmed: nothing stands behind the entries. Conditions: a frame's shape can be.
-/
import Derived.Test.YtkgnohjmfnignaaDoorFrA
namespace Go.Proofs.YtkgnohjmfnignaaDoor
open Go.RowKit
set_option maxRecDepth 20000

/-- The frame lies in a block of its own. -/
def FAt (W : World) (g : Nat) (f : Fr) : Prop := W.heap[g]? = some (.cells (frA f) 39 (0, 0))
theorem FAt.lt {W : World} {g : Nat} {f : Fr} (h : FAt W g f) : g < W.heap.size := (Array.getElem?_eq_some_iff.1 h).1
theorem FAt.lo {W : World} {g : Nat} {f : Fr} (h : FAt W g f) : W.cell? ⟨g, 0, none⟩ = some (.int .i64 f.lo) := by rw [cell_of_row _ _ _ _ _ _ h, frA_lo]
theorem FAt.he {W : World} {g : Nat} {f : Fr} (h : FAt W g f) : W.cell? ⟨g, 1, none⟩ = some (.int .i64 f.he) := by rw [cell_of_row _ _ _ _ _ _ h, frA_he]
theorem FAt.slot {W : World} {g : Nat} {f : Fr} (h : FAt W g f) {i t : Nat} (ht : f.sl[i]? = some t) : W.cell? ⟨g, 2 + i, none⟩ = some (.int .u8 (t : Int)) := by rw [cell_of_row _ _ _ _ _ _ h, frA_at ht]
theorem FAt.frozen {W : World} {g : Nat} {f : Fr} (h : FAt W g f) (j : Nat) : W.frozen? ⟨g, j, none⟩ = false := frozen_of_row _ _ _ _ _ h
theorem FAt.below {W W' : World} {g : Nat} {f : Fr} {B : Nat} (h : FAt W g f) (hb : Below B W W') (hg : g < B) : FAt W' g f := (hb.block g hg).trans h
theorem FAt.new (w : World) (f : Fr) : FAt (w.alloc (.cells (frA f) 39)) w.heap.size f := heap_alloc_new w _
theorem FAt.row {W : World} {g : Nat} {f : Fr} (h : FAt W g f) (f' : Fr) : FAt (W.setRow g (frA f')) g f' := setRow_heap _ _ _ _ _ _ h
theorem FAt.rowOther {W : World} {g k : Nat} {f : Fr} (h : FAt W k f) (f' : Fr) (hne : k ≠ g) : FAt (W.setRow g (frA f')) k f := (setRow_other W g k _ hne).trans h
theorem FAt.cellOther {W : World} {k : Nat} {f : Fr} (h : FAt W k f) (a : Addr) (v : Value) (hne : k ≠ a.block) : FAt (W.setCell a v) k f := (heap_setCell_other W a k v hne).trans h

theorem slV_set (l : List Nat) (i t : Nat) : (slV l).set i (.int .u8 (t : Int)) = slV (l.set i t) := by simp [slV, List.map_set, tyV]
theorem frA_set (f : Fr) (i t : Nat) : (frA f).setIfInBounds (2 + i) (.int .u8 (t : Int)) = frA { f with sl := f.sl.set i t } := by
  rw [Nat.add_comm 2 i]
  simp [frA, frL, ← slV_set]
theorem frA_setHe (f : Fr) (n : Int) : (frA f).setIfInBounds 1 (.int .i64 n) = frA { f with he := n } := by simp [frA, frL]
theorem FAt.set {W : World} {g : Nat} {f : Fr} (h : FAt W g f) (i t : Nat) : FAt (W.setCell ⟨g, 2 + i, none⟩ (.int .u8 (t : Int))) g { f with sl := f.sl.set i t } := by
  unfold FAt
  rw [heap_setCell_same W g (2 + i) _ _ _ h, frA_set]
theorem FAt.setHe {W : World} {g : Nat} {f : Fr} (h : FAt W g f) (n : Int) : FAt (W.setCell ⟨g, 1, none⟩ (.int .i64 n)) g { f with he := n } := by
  unfold FAt
  rw [heap_setCell_same W g 1 _ _ _ h, frA_setHe]

theorem below_setRow' {B : Nat} {w W : World} (h : Below B w W) {g : Nat} (hg : B ≤ g) (cs : Array Value) : Below B w (W.setRow g cs) := by
  refine h.trans ⟨rfl, rfl, rfl, by simp, fun k hk => setRow_other W g k cs (by omega)⟩

/-- A load of a row under a guard that lets it through. -/
theorem wpList_load_rowG {P : Program} {ops : Array Oper} {rest : List Oper} {o : Oper} {a : Act} {w : World} {Q : Exit → Act → World → Prop} (hw : Region.wanted o (yielded ops a.tmps) = true) (ty : TypeId) (x : Operand) (ho : o.op = .load ty x)
    (g : Nat) (hx : a.eval x = .pointer (some ⟨g, 0, none⟩)) (t : TypeId) (cs : Array Value) (fr : Nat × Nat) (d : TypeDesc) (hg : w.heap[g]? = some (.cells cs t fr))
    (hu : P.underlying ty = some d) (hd : (match d with | .struct _ | .array _ _ => true | _ => false) = true) (hi : (P.info? ty).map (·.size) = some cs.size)
    (h : wpList P ops Q rest (a.put o.dst (.agg cs)) w) : wpList P ops Q (o :: rest) a w :=
  wpList_step fun _ hK => by rw [if_pos hw]; exact wp_load_row ty x ho g hx t cs fr d hg hu hd hi (hK _ _ h)

/-- The zero frame. -/
def frZ : Fr := ⟨0, 0, List.replicate 24 0⟩
def zeroV : Array Value := #[.int .i64 0, .int .i64 0, .int .u8 0, .int .u8 0, .int .u8 0, .int .u8 0, .int .u8 0, .int .u8 0, .int .u8 0, .int .u8 0, .int .u8 0, .int .u8 0, .int .u8 0, .int .u8 0, .int .u8 0, .int .u8 0, .int .u8 0, .int .u8 0, .int .u8 0, .int .u8 0, .int .u8 0, .int .u8 0, .int .u8 0, .int .u8 0, .int .u8 0, .int .u8 0]
theorem frZ_eq : (#[.int .i64 0, .int .i64 0, .int .u8 0, .int .u8 0, .int .u8 0, .int .u8 0, .int .u8 0, .int .u8 0, .int .u8 0, .int .u8 0, .int .u8 0, .int .u8 0, .int .u8 0, .int .u8 0, .int .u8 0, .int .u8 0, .int .u8 0, .int .u8 0, .int .u8 0, .int .u8 0, .int .u8 0, .int .u8 0, .int .u8 0, .int .u8 0, .int .u8 0, .int .u8 0] : Array Value) = frA frZ := rfl
theorem frZ_ok : FrOk frZ := ⟨rfl, fun t ht => by rw [List.eq_of_mem_replicate ht]; omega, by decide, by decide⟩

/-! ### trimmed -/
def trimL (n : Nat) (l : List Nat) : List Nat := l.take n ++ List.replicate (24 - n) 0
def trimD (f : Fr) : Fr := { f with sl := trimL (nF f) f.sl }
theorem trimL_length {n : Nat} {l : List Nat} (h : l.length = 24) (hn : n ≤ 24) : (trimL n l).length = 24 := by simp [trimL, h]; omega
theorem shape_n {f : Fr} (h : shapeD f = true) : nF f ≤ 24 := by have := shapeD_iff.1 h; unfold nF; omega
theorem trim_ok {f : Fr} (hf : FrOk f) (hs : shapeD f = true) : FrOk (trimD f) := by
  refine ⟨trimL_length hf.len (shape_n hs), fun t ht => ?_, hf.lo, hf.he⟩
  unfold trimD trimL at ht
  rcases List.mem_append.1 ht with h | h
  · exact hf.byte t (List.mem_of_mem_take h)
  · rw [List.eq_of_mem_replicate h]; omega
end Go.Proofs.YtkgnohjmfnignaaDoor
