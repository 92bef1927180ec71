/-
  The contract of provisoref04.Decode: out of the bytes, and at their end. Conditions: lengths fit.
-/
import Derived.Test.YtdpfinnclnapbaaDoorIn10
namespace Go.Proofs.YtdpfinnclnapbaaDoor
open Go.RowKit
set_option maxRecDepth 20000

set_option maxHeartbeats 1000000 in
theorem refDecode_out (ao : Option Addr) (c : Nat) (L : List UInt8) (at_ : Int) (w : World) (h : at_ < 0 ∨ (L.length : Int) < at_) :
    Calls Tryd.prog 22 #[.slice ao L.length c, .int .i64 at_] w fun e w' => e = .returned (.tuple #[.agg #[.int .i64 0, .int .u8 0, .int .i64 0, .int .i64 0], .int .i64 1]) ∧ Below w.heap.size w w' := by
  by_cases h0 : at_ < 0
  · have d0 : decide (at_ < 0) = true := decide_eq_true h0
    go_enter Tryd.func22, Tryd.ntmps22
    go_wp2
    go_returns
    exact ⟨rfl, by go_grown⟩
  · have d0 : decide (at_ < 0) = false := decide_eq_false h0
    have d1 : decide ((L.length : Int) < at_) = true := decide_eq_true (by omega)
    clear h h0
    go_enter Tryd.func22, Tryd.ntmps22
    go_wp2
    go_returns
    exact ⟨rfl, by go_grown⟩

theorem refDecode_end (ao : Option Addr) (c : Nat) (L : List UInt8) (w : World) :
    Calls Tryd.prog 22 #[.slice ao L.length c, .int .i64 (L.length : Int)] w fun e w' => e = .returned (.tuple #[.agg #[.int .i64 0, .int .u8 0, .int .i64 0, .int .i64 0], .int .i64 2]) ∧ Below w.heap.size w w' := by
  generalize L.length = k
  have d0 : decide ((k : Int) < 0) = false := decide_eq_false (by omega)
  have d1 : decide ((k : Int) < (k : Int)) = false := decide_eq_false (by omega)
  go_enter Tryd.func22, Tryd.ntmps22
  go_wp2
  go_returns
  exact ⟨rfl, by go_grown⟩
end Go.Proofs.YtdpfinnclnapbaaDoor
