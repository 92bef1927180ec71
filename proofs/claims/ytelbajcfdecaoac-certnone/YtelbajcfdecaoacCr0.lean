/-
  A certificate's reader that no call made: the contracts of its calls. No condition but that it is nil, or of zeros.
-/
import Derived.Test.YtelbajcfdecaoacEn
namespace Go.Proofs.Ytelbajcfdecaoac
open Go.RowKit

/-- A reader that no call made. -/
def NoneR (w : World) (r : Value) : Prop := r = .pointer none ∨ ∃ g, r = .pointer (some ⟨g, 0, none⟩) ∧ w.cell? ⟨g, 0, none⟩ = some (.slice none 0 0)
theorem NoneR.below {w w' : World} {r : Value} (h : NoneR w r) (hb : Below w.heap.size w w') : NoneR w' r := by
  rcases h with h | ⟨g, h1, h2⟩
  · exact Or.inl h
  · exact Or.inr ⟨g, h1, (hb.cell (p := ⟨g, 0, none⟩) (World.block_lt_of_cell? w _ h2)).trans h2⟩
theorem isMade_none (r : Value) (w : World) (h : NoneR w r) : Calls Try.prog 42 #[r] w fun e w' => e = .returned (.bool false) ∧ w' = w := by
  rcases h with rfl | ⟨g, rfl, h2⟩
  · go_enter Try.func42, Try.ntmps42
    go_wp2
    go_ret
    exact ⟨rfl, rfl⟩
  · go_enter Try.func42, Try.ntmps42
    go_wp2
    go_ret
    exact ⟨rfl, rfl⟩
theorem Locals_none (r : Value) (w : World) (h : NoneR w r) : Calls Try.prog 23 #[r] w fun e w' => e = .returned (.int .i64 0) ∧ w' = w := by
  go_enter Try.func23, Try.ntmps23
  go_wp2_with fail
  refine (isMade_none r w h).mono ?_
  rintro e w ⟨rfl, rfl⟩
  go_wp2
  go_ret
  exact ⟨rfl, rfl⟩
theorem Count_none (r : Value) (w : World) (h : NoneR w r) : Calls Try.prog 24 #[r] w fun e w' => e = .returned (.int .i64 0) ∧ w' = w := by
  go_enter Try.func24, Try.ntmps24
  go_wp2_with fail
  refine (isMade_none r w h).mono ?_
  rintro e w ⟨rfl, rfl⟩
  go_wp2
  go_ret
  exact ⟨rfl, rfl⟩
theorem At_none (r : Value) (w : World) (h : NoneR w r) : Calls Try.prog 25 #[r] w fun e w' => e = .returned (.int .i64 0) ∧ w' = w := by
  go_enter Try.func25, Try.ntmps25
  go_wp2_with fail
  refine (isMade_none r w h).mono ?_
  rintro e w ⟨rfl, rfl⟩
  go_wp2
  go_ret
  exact ⟨rfl, rfl⟩
set_option maxHeartbeats 1000000 in
theorem Next_none (r : Value) (w : World) (h : NoneR w r) : Calls Try.prog 26 #[r] w fun e w' => e = .returned (.tuple #[.agg (enA enZ), .bool false, .int .i64 8]) ∧ Below w.heap.size w w' := by
  have hal := ((Below.refl w.heap.size w).alloc (Nat.le_refl _) (.cells (enA enZ) 42))
  have HN := hide (h.below hal)
  have HE := hide (EAt.new w enZ)
  have HB := hide hal
  have hbz := run_buildEZ
  clear hal h
  go_enter Try.func26, Try.ntmps26
  go_wp2_with fail
  rw [enZ_eq]
  generalize hW : (w.alloc (.cells (enA enZ) 42)) = W at HN HE HB ⊢
  clear hW
  refine (isMade_none r W (unhide HN)).mono ?_
  rintro e W ⟨rfl, rfl⟩
  go_wp2_with (refine wpList_store_row rfl 42 _ _ rfl w.heap.size (enA enZ) rfl rfl 42 (enA enZ) (unhide HE) (sizeEn enZ_ok) rfl (enA_one _) ?_)
  refine bodyPost_ret (v := .tuple #[.agg (enA enZ), .bool false, .int .i64 8]) (results_en3 rfl _ _ w.heap.size enZ false 8 enZ_ok rfl rfl rfl ((unhide HE).row _)) rfl ⟨rfl, below_setRow' (unhide HB) (Nat.le_refl _) _⟩
end Go.Proofs.Ytelbajcfdecaoac
