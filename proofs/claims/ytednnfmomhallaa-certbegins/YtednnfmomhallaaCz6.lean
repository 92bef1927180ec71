/-
  The contract of the law's own 'may'. Conditions: the entries lie there.
-/
import Derived.Test.YtednnfmomhallaaCz4
namespace Go.Proofs.Ytednnfmomhallaa
open Go.RowKit

set_option maxRecDepth 20000 in
theorem may_any (lo : Int) (ao : Option Addr) (cap : Nat) (es : List En) (w : World) (hE : EsAt w ao es) (ho : EsOk es) (hl : es.length ≤ 4398046511104) :
    Calls Try.prog 15 #[.agg #[.int .i64 lo, .slice ao es.length cap]] w fun e w' => e = .returned (.bool ((ckC lo es).2 == 0)) ∧ Below w.heap.size w w' := by
  have al := (Below.refl w.heap.size w).alloc (Nat.le_refl _) (.cells #[.int .i64 lo, .slice ao es.length cap] 24)
  have HA := hide al
  have HC : Hid (CAt (w.alloc (.cells #[.int .i64 lo, .slice ao es.length cap] 24)) w.heap.size lo (.slice ao es.length cap)) := hide (heap_alloc_new w _)
  have HK := hide (refCheckC_any lo ao cap es _ (hE.below rfl al) ho hl)
  clear hE al
  go_enter Try.func15, Try.ntmps15
  go_upto_region 1 with fail
  generalize (w.alloc (.cells #[.int .i64 lo, .slice ao es.length cap] 24)) = W1 at HA HC HK ⊢
  go_wp2_with (first | (refine wpList_load_rowG (by kernel_rfl) 24 (.tmp 1) rfl w.heap.size rfl 24 #[.int .i64 lo, .slice ao es.length cap] (0, 0) _ (unhide HC) Try.underlying24 rfl (by kernel_rfl) ?_) | fail)
  refine (unhide HK).mono ?_
  rintro e W2 ⟨rfl, hB2⟩
  have HB2 := hide ((unhide HA).trans (hB2.mono (unhide HA).size))
  clear hB2
  go_wp2
  go_ret
  exact ⟨rfl, unhide HB2⟩
end Go.Proofs.Ytednnfmomhallaa
