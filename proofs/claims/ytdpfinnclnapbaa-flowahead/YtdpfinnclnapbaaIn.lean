/-
  The instructions' widths and words, plainly, and how the package's variables hold them; contracts of code.isOp, Size and Name and of provisoref04's wide, Size, Jumps and Ends. Conditions: the variables lie there.
-/
import Derived.Test.YtdpfinnclnapbaaMem
import Derived.Deep.MidRow
namespace Go.Proofs.Ytdpfinnclnapbaa
open Go.RowKit

def wA (op : Nat) : Nat := ([0, 4, 1, 0, 1, 1, 0, 0, 0, 0, 0, 0, 0, 0, 0, 0, 0, 0, 0, 2, 2, 1, 0, 1, 1, 1, 0, 0, 0, 0, 1, 1, 1, 0] : List Nat).getD op 0
def wB (op : Nat) : Nat := ([0, 0, 0, 0, 0, 0, 0, 0, 0, 0, 0, 0, 0, 0, 0, 0, 0, 0, 0, 0, 0, 0, 0, 0, 1, 1, 0, 0, 0, 0, 0, 0, 0, 0] : List Nat).getD op 0
theorem below34 {p : Nat → Prop} (h : ∀ i : Fin 34, p i.val) : ∀ i, i < 34 → p i := fun i hi => h ⟨i, hi⟩
theorem wA_le : ∀ op, op < 34 → wA op ≤ 4 := below34 (by decide)
theorem wB_le : ∀ op, op < 34 → wB op ≤ 1 := below34 (by decide)
def sizeD (op : Nat) : Nat := if op < 34 then 1 + wA op + wB op else 0

end Go.Proofs.Ytdpfinnclnapbaa
