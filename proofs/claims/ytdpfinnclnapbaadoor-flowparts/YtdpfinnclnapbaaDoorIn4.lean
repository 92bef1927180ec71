/-
  An instruction in a block of its own; the contract of code.Encode. Conditions: the widths lie there, lengths fit.
-/
import Derived.Test.YtdpfinnclnapbaaDoorIn3
namespace Go.Proofs.YtdpfinnclnapbaaDoor
open Go.RowKit
set_option maxRecDepth 20000

/-- The cells of an instruction. -/
def inA (p : Int) (op : Nat) (a b : Int) : Array Value := #[.int .i64 p, .int .u8 (op : Int), .int .i64 a, .int .i64 b]
/-- It lies in a block. -/
def IAt (W : World) (g : Nat) (p : Int) (op : Nat) (a b : Int) : Prop := W.heap[g]? = some (.cells #[.int .i64 p, .int .u8 (op : Int), .int .i64 a, .int .i64 b] 31 (0, 0))
theorem IAt.lt {W : World} {g : Nat} {p : Int} {op : Nat} {a b : Int} (h : IAt W g p op a b) : g < W.heap.size := (Array.getElem?_eq_some_iff.1 h).1
theorem IAt.below {W W' : World} {g : Nat} {p : Int} {op : Nat} {a b : Int} (h : IAt W g p op a b) (hb : Below W.heap.size W W') : IAt W' g p op a b := (hb.block g h.lt).trans h
theorem IAt.keep {W W' : World} {g k : Nat} {p : Int} {op : Nat} {a b : Int} (h : IAt W g p op a b) (hb : W.grownBy W' (some k)) (hne : g ≠ k) : IAt W' g p op a b := (hb.block g h.lt (by intro e; injection e with e; exact hne e)).trans h
theorem IAt.c {W : World} {g : Nat} {p : Int} {op : Nat} {a b : Int} (h : IAt W g p op a b) : W.cell? ⟨g, 1, none⟩ = some (.int .u8 (op : Int)) ∧ W.cell? ⟨g, 2, none⟩ = some (.int .i64 a) ∧ W.cell? ⟨g, 3, none⟩ = some (.int .i64 b) := by
  refine ⟨?_, ?_, ?_⟩
  · exact cell_of_row _ _ 1 _ _ _ h
  · exact cell_of_row _ _ 2 _ _ _ h
  · exact cell_of_row _ _ 3 _ _ _ h
theorem IAt.c0 {W : World} {g : Nat} {p : Int} {op : Nat} {a b : Int} (h : IAt W g p op a b) : W.cell? ⟨g, 0, none⟩ = some (.int .i64 p) := cell_of_row _ _ 0 _ _ _ h
theorem WidAt.keep {W W' : World} {k : Nat} (h : WidAt W) (hb : W.grownBy W' (some k)) (hne : 0 ≠ k) : WidAt W' := fun op ho => by
  have h1 := h op ho
  have hl := World.block_lt_of_cell? W _ h1.1
  have e := hb.block 0 hl (by intro e; injection e with e; exact hne e)
  exact ⟨by rw [← h1.1]; unfold World.cell?; rw [e], by rw [← h1.2]; unfold World.cell?; rw [e]⟩

/-- Encode's error and its bytes. -/
def eE (op : Nat) (a b : Int) : Int := if op < 34 then (if inD op a b then 0 else 5) else 40
def encL (op : Nat) (a b : Int) : List UInt8 := UInt8.ofNat op :: (beI a (wA op) ++ beI b (wB op))
def eL (op : Nat) (a b : Int) : List UInt8 := if eE op a b = 0 then encL op a b else []
theorem encL_length (op : Nat) (a b : Int) : (encL op a b).length = 1 + wA op + wB op := by simp [encL, beI_length]; omega

theorem laid2 (N A B : Nat) (x : UInt8) (a b : Int) (h : N = 1 + A + B) : laidI (laidI ((List.replicate N 0).set 0 x) 1 A a 0) (1 + A) B b 0 = x :: (beI a A ++ beI b B) := by
  subst h
  have e : (List.replicate (1 + A + B) (0 : UInt8)).set 0 x = x :: List.replicate (A + B) 0 := by
    rw [show 1 + A + B = (A + B) + 1 by omega, List.replicate_succ, List.set_cons_zero]
  unfold laidI
  rw [e]
  simp only [Nat.add_zero, List.drop_zero]
  have e1 : (x :: List.replicate (A + B) (0 : UInt8)).take 1 = [x] := rfl
  have e2 : (x :: List.replicate (A + B) (0 : UInt8)).drop (1 + A) = List.replicate B 0 := by
    rw [show 1 + A = A + 1 by omega, List.drop_succ_cons, List.drop_replicate, show A + B - A = B by omega]
  rw [e1, e2]
  have e3 : ([x] ++ (beI a A ++ List.replicate B 0)) = (x :: beI a A) ++ List.replicate B 0 := by simp
  rw [e3, List.take_append_of_le_length (by simp [beI_length]; omega), List.take_of_length_le (by simp [beI_length]; omega), List.drop_eq_nil_of_le (by simp [beI_length]; omega)]
  simp
theorem laidI_zero (L : List UInt8) (off : Nat) (n : Int) : laidI L off 0 n 0 = L := by
  unfold laidI
  simp [beI]
end Go.Proofs.YtdpfinnclnapbaaDoor
