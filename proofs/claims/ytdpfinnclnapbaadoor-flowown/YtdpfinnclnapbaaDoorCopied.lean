/-
  The contract of wire.copied: a row of its own with the same bytes, never nil. Conditions: the length fits.
-/
import Derived.Test.YtdpfinnclnapbaaDoorMem
import Derived.Laws.CopyOwn
namespace Go.Proofs.YtdpfinnclnapbaaDoor
open Go.RowKit
set_option maxRecDepth 20000

theorem size8 : (Tryd.prog.info? 5).map (·.size) = some 1 := by kernel_rfl

theorem splice_all {α : Type} (L cs : List α) (h : L.length = cs.length) : splice L 0 cs = cs := by
  unfold splice
  rw [List.take_zero, List.nil_append, List.drop_eq_nil_of_le (by omega), List.append_nil]

end Go.Proofs.YtdpfinnclnapbaaDoor
