/-
  The walk of the law StepMonotone: it returns true, and writes nothing that was there.
-/
import Derived.Test.YtkodmpcnndbngaaGreatDoorKWalkStepMonotone0
import Derived.Test.YtkodmpcnndbngaaGreatDoorKSt26
namespace Go.Proofs.YtkodmpcnndbngaaGreatDoor
open Go.RowKit
set_option maxRecDepth 20000

theorem walkStepMonotone {w : World} (hA : WordsAt w ∧ WidAt w) (ao : Option Addr) (cap : Nat) (T : List Cl) (so : Option Addr) (sc : Nat) (L : List Sg) (fn : Int) (hT : TabAt w ao T) (hz : T.length * 48 ≤ 140737488351232) (hL : SgsAt w so L) (hzl : L.length * 32 ≤ 140737488351232) (f : Fr) (hf : FrOk f) (g : Fr) (hg : FrOk g) (p : Int) (op : Nat) (a b : Int) (ho : op < 256) (ha : -9223372036854775808 ≤ a ∧ a ≤ 9223372036854775807) (hb : -9223372036854775808 ≤ b ∧ b ≤ 9223372036854775807) :
    Calls Tryz.prog 4 #[.agg #[.slice ao T.length cap, .slice so L.length sc, .int .i64 fn], .agg (frA f), .agg (frA g), .agg #[.int .i64 p, .int .u8 (op : Int), .int .i64 a, .int .i64 b]] w fun e w' => e = .returned (.bool true) ∧ Below w.heap.size w w' :=
  stepMonotone_in ⟨ao, cap, T, so, sc, L, fn, f, p, op, a, b⟩ g hA hT hz hL hzl hf ho ha hb hg (fun _ => refApply_in _)
end Go.Proofs.YtkodmpcnndbngaaGreatDoor
