/-
  An instruction's row: stored whole, read back as a result. Conditions: none.
-/
import Derived.Test.YtdpfinnclnapbaaDoorIn4
import Derived.Laws.Tables
import Derived.Laws.ResultCell
import Derived.Deep.WholeRow
namespace Go.Proofs.YtdpfinnclnapbaaDoor
open Go.RowKit
set_option maxRecDepth 20000

theorem sizeIn : (Tryd.prog.info? 31).map (·.size) = some 4 := by kernel_rfl
theorem run_addrI (g : Nat) (w : World) : (asAddr (.pointer (some ⟨g, 0, none⟩))).run Tryd.prog w = .ok ⟨g, 0, none⟩ w := by simp [asAddr]
theorem results_in2 {fn : Func} {q u : Tmp} (h : fn.results = #[.cell q 31, .tmp u]) (tmps : Array Value) (W : World) (g : Nat) (p : Int) (op : Nat) (a b : Int) (e : Int)
    (hp : tmps.getD q undef = .pointer (some ⟨g, 0, none⟩)) (hu : tmps.getD u undef = .int .i64 e) (hg : IAt W g p op a b) : (results fn tmps).run Tryd.prog W = .ok (.tuple #[.agg #[.int .i64 p, .int .u8 (op : Int), .int .i64 a, .int .i64 b], .int .i64 e]) W := by
  rw [results_cell_tmp h, hp, hu, run_addrI, Result.andThen_ok, run_loadVar_row W g 31 31 #[.int .i64 p, .int .u8 (op : Int), .int .i64 a, .int .i64 b] (0, 0) _ hg Tryd.underlying31 rfl sizeIn, Result.andThen_ok]
theorem IAt.row {W : World} {g : Nat} {p : Int} {op : Nat} {a b : Int} (h : IAt W g p op a b) (p' : Int) (op' : Nat) (a' b' : Int) : IAt (W.setRow g #[.int .i64 p', .int .u8 (op' : Int), .int .i64 a', .int .i64 b']) g p' op' a' b' := setRow_heap _ _ _ _ _ _ h
theorem IAt.rowOther {W : World} {g k : Nat} {p : Int} {op : Nat} {a b : Int} (h : IAt W k p op a b) (cs : Array Value) (hne : k ≠ g) : IAt (W.setRow g cs) k p op a b := (setRow_other W g k _ hne).trans h
theorem IAt.f {W : World} {g : Nat} {p : Int} {op : Nat} {a b : Int} (h : IAt W g p op a b) (i : Nat) : W.frozen? ⟨g, i, none⟩ = false := frozen_of_row _ _ _ _ _ h
theorem IAt.chain {W : World} {g : Nat} {p : Int} {op : Nat} {a b : Int} (h : IAt W g p op a b) (p' : Int) (op' : Nat) (a' b' : Int) : IAt ((((W.setCell ⟨g, 0, none⟩ (.int .i64 p')).setCell ⟨g, 1, none⟩ (.int .u8 (op' : Int))).setCell ⟨g, 2, none⟩ (.int .i64 a')).setCell ⟨g, 3, none⟩ (.int .i64 b')) g p' op' a' b' :=
  heap_setCell_same _ _ _ _ _ _ (heap_setCell_same _ _ _ _ _ _ (heap_setCell_same _ _ _ _ _ _ (heap_setCell_same _ _ _ _ _ _ h)))
theorem IAt.zero {W : World} {g : Nat} {p : Int} {op : Nat} {a b : Int} (h : IAt W g p op a b) : IAt ((((W.setCell ⟨g, 0, none⟩ (.int .i64 0)).setCell ⟨g, 1, none⟩ (.int .u8 0)).setCell ⟨g, 2, none⟩ (.int .i64 0)).setCell ⟨g, 3, none⟩ (.int .i64 0)) g 0 0 0 0 := h.chain 0 0 0 0
theorem below_chain {B : Nat} {w W : World} (h : Below B w W) {g : Nat} (hg : B ≤ g) (v0 v1 v2 v3 : Value) : Below B w ((((W.setCell ⟨g, 0, none⟩ v0).setCell ⟨g, 1, none⟩ v1).setCell ⟨g, 2, none⟩ v2).setCell ⟨g, 3, none⟩ v3) :=
  (((h.setCell hg _).setCell hg _).setCell hg _).setCell hg _
theorem below_setRowI {B : Nat} {w W : World} (h : Below B w W) {g : Nat} (hg : B ≤ g) (cs : Array Value) : Below B w (W.setRow g cs) := by
  refine h.trans ⟨rfl, rfl, rfl, by simp, fun k hk => setRow_other W g k cs (by omega)⟩
end Go.Proofs.YtdpfinnclnapbaaDoor
