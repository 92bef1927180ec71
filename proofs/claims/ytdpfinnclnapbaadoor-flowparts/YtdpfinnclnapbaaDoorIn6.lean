/-
  code's spans and provisoref04's fits say the same; the contract of provisoref04.Encode.
-/
import Derived.Test.YtdpfinnclnapbaaDoorIn5
namespace Go.Proofs.YtdpfinnclnapbaaDoor
open Go.RowKit
set_option maxRecDepth 20000

theorem inD_fits : ∀ op : Nat, op < 34 → ∀ a b : Int, inD op a b = (fitD a (wA op) && fitD b (wB op) && !(decide (op = 2) && decide (1 < a))) := by
  refine cases34 ?_ ?_ ?_ ?_ ?_ ?_ ?_ ?_ ?_ ?_ ?_ ?_ ?_ ?_ ?_ ?_ ?_ ?_ ?_ ?_ ?_ ?_ ?_ ?_ ?_ ?_ ?_ ?_ ?_ ?_ ?_ ?_ ?_ ?_
  all_goals
    intro a b
    rw [Bool.eq_iff_iff]
    simp [inD, fitD, loA, hiA, hiB, wA, wB]
    try omega
theorem fitD_le (n : Int) (k : Nat) (h : fitD n k = true) : -2147483648 ≤ n ∧ n ≤ 2147483647 := by
  unfold fitD at h
  split at h
  · simp at h; omega
  · split at h
    · simp at h; omega
    · split at h
      · simp at h; omega
      · simp at h; omega

theorem own_one (w : World) (x : UInt8) (z : Int) (hz : z = (x.toNat : Int)) (base : Nat) (hb : base ≤ w.heap.size) : OwnB (w.alloc (.cells #[.int .u8 z] 5)) base (.slice (some ⟨w.heap.size, 0, none⟩) 1 1) [x] := by
  subst hz
  exact ⟨by simp [bvals], .inr ⟨w.heap.size, 1, #[.int .u8 (x.toNat : Int)], rfl, hb, heap_alloc_new w _, Nat.le_refl _, by decide, rfl, by simp [bvals]⟩⟩

end Go.Proofs.YtdpfinnclnapbaaDoor
