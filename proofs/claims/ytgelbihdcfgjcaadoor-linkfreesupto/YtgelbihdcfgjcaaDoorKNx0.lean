/-
  Where an instruction goes on, plain. No Go in it.
-/
import Derived.Test.YtgelbihdcfgjcaaDoorSo0
import Derived.Test.YtgelbihdcfgjcaaDoorJIN
namespace Go.Proofs.YtgelbihdcfgjcaaDoor
set_option maxRecDepth 20000

def jmpD (op : Nat) : Bool := decide (op = 19) || decide (op = 20)
def endD (op : Nat) : Bool := decide (op = 19) || decide (op = 22) || decide (op = 32)
/-- An address of code. -/
def inC (p : Int) : Bool := decide (0 ≤ p) && decide (p < 4096)
/-- Where an instruction goes on. -/
def nextD (p : Int) (op : Nat) (a : Int) : List Int :=
  if sizeD op = 0 ∨ inC p = false then [] else
    (fun l => if jmpD op then putJ l a else l) (if endD op then [] else putJ [] (p + sizeD op))
theorem sizeD_le (op : Nat) : sizeD op ≤ 6 := by
  unfold sizeD
  split
  · have := wA_le op ‹_›
    have := wB_le op ‹_›
    omega
  · omega
theorem nextD_asc (p : Int) (op : Nat) (a : Int) : AscJ (nextD p op a) := by
  unfold nextD
  split
  · exact List.Pairwise.nil
  · have h0 : AscJ (if endD op then [] else putJ [] (p + sizeD op)) := by
      split
      · exact List.Pairwise.nil
      · exact asc_putJ List.Pairwise.nil
    simp only
    split
    · exact asc_putJ h0
    · exact h0
theorem nextD_len (p : Int) (op : Nat) (a : Int) : (nextD p op a).length ≤ 2 := by
  unfold nextD
  split
  · simp
  · have h0 : (if endD op then [] else putJ [] (p + sizeD op)).length ≤ 1 := by split <;> simp [putJ]
    simp only
    split
    · have := putJ_len a (if endD op then [] else putJ [] (p + sizeD op)); omega
    · omega
end Go.Proofs.YtgelbihdcfgjcaaDoor
