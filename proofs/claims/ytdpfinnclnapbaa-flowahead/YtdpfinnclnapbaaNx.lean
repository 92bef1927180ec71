/-
  Where an instruction goes on: the contracts of flow.Next and provisoref05.Next, in new memory. Conditions: the widths lie there.
-/
import Derived.Test.YtdpfinnclnapbaaSo
import Derived.Test.YtdpfinnclnapbaaIn3
namespace Go.Proofs.Ytdpfinnclnapbaa
open Go.RowKit

def jmpD (op : Nat) : Bool := decide (op = 19) || decide (op = 20)
def endD (op : Nat) : Bool := decide (op = 19) || decide (op = 22) || decide (op = 32)
/-- An address of code. -/
def inC (p : Int) : Bool := decide (0 ≤ p) && decide (p < 4096)
/-- Where an instruction goes on. -/
def nextD (p : Int) (op : Nat) (a : Int) : List Int :=
  if sizeD op = 0 ∨ inC p = false then [] else
    (fun l => if jmpD op then putJ l a else l) (if endD op then [] else putJ [] (p + sizeD op))
theorem sizeD_le (op : Nat) : sizeD op ≤ 6 := by
  unfold sizeD
  split
  · have := wA_le op ‹_›
    have := wB_le op ‹_›
    omega
  · omega
theorem nextD_asc (p : Int) (op : Nat) (a : Int) : AscJ (nextD p op a) := by
  unfold nextD
  split
  · exact List.Pairwise.nil
  · have h0 : AscJ (if endD op then [] else putJ [] (p + sizeD op)) := by
      split
      · exact List.Pairwise.nil
      · exact asc_putJ List.Pairwise.nil
    simp only
    split
    · exact asc_putJ h0
    · exact h0
theorem nextD_len (p : Int) (op : Nat) (a : Int) : (nextD p op a).length ≤ 2 := by
  unfold nextD
  split
  · simp
  · have h0 : (if endD op then [] else putJ [] (p + sizeD op)).length ≤ 1 := by split <;> simp [putJ]
    simp only
    split
    · have := putJ_len a (if endD op then [] else putJ [] (p + sizeD op)); omega
    · omega
/-- The ways as the program lists them. -/
def rawN (p : Int) (op : Nat) (a : Int) : List Int := (if endD op then [] else [p + sizeD op]) ++ (if jmpD op then [a] else [])
theorem next_raw {p : Int} {op : Nat} {a : Int} (h1 : sizeD op ≠ 0) (h2 : inC p = true) : onceJ (rawN p op a) = nextD p op a := by
  refine asc_ext (onceJ_asc _) (nextD_asc _ _ _) (fun x => ?_)
  have e : nextD p op a = (fun l => if jmpD op then putJ l a else l) (if endD op then [] else putJ [] (p + sizeD op)) := by
    unfold nextD
    exact if_neg (by rintro (h | h); exact h1 h; rw [h2] at h; cases h)
  rw [mem_onceJ, e]
  unfold rawN
  cases endD op <;> cases jmpD op <;> simp [mem_putJ]
  all_goals omega

theorem inC_iff {p : Int} : inC p = true ↔ 0 ≤ p ∧ p < 4096 := by unfold inC; simp
theorem IAt.new' (w : World) (p : Int) (op : Nat) (a b : Int) : IAt (w.alloc (.cells #[.int .i64 p, .int .u8 (op : Int), .int .i64 a, .int .i64 b] 47)) w.heap.size p op a b := by
  unfold IAt World.alloc
  simp
theorem IAt.drewN {W : World} {g : Nat} {p : Int} {op : Nat} {a b : Int} (h : IAt W g p op a b) (k : Nat) : IAt (W.drewN k) g p op a b := h
theorem belowD' {w w' : World} {B : Nat} (h : Below B w w') (q : Nat) : Below B w (w'.drewN q) := h.trans ⟨rfl, rfl, rfl, Nat.le_refl _, fun _ _ => rfl⟩
/-- In W0 a box was laid behind w. -/
theorem OwnJ.weak {w : World} {b c : Nat} {v : Value} {l : List Int} (h : OwnJ w c v l) (hb : b ≤ c) : OwnJ w b v l := by
  refine ⟨h.1, ?_⟩
  rcases h.2 with h1 | ⟨g, cap, cur, hv, hbg, r⟩
  · exact Or.inl h1
  · exact Or.inr ⟨g, cap, cur, hv, Nat.le_trans hb hbg, r⟩

end Go.Proofs.Ytdpfinnclnapbaa
