/-
  The walk of the law CertNone: it returns true for all bytes, and writes nothing that was there. No condition.
-/
import Derived.Test.YtelbajcfdecaoacCr0
import Derived.Test.YtelbajcfdecaoacCr3
namespace Go.Proofs.Ytelbajcfdecaoac
open Go.RowKit

theorem hd_lit : hdE [112, 118, 1, 3, 0, 0] = (0, 0) := by decide
theorem lit_at (w : World) : BAt (w.alloc (.cells #[.int .u8 112, .int .u8 118, .int .u8 1, .int .u8 3, .int .u8 0, .int .u8 0] 5)) (some ⟨w.heap.size, 0, none⟩) [112, 118, 1, 3, 0, 0] := by
  intro i hi
  refine ⟨w.heap.size, 0, rfl, ?_⟩
  simp only [List.length_cons, List.length_nil] at hi
  rcases (show i = 0 ∨ i = 1 ∨ i = 2 ∨ i = 3 ∨ i = 4 ∨ i = 5 by omega) with rfl | rfl | rfl | rfl | rfl | rfl <;> simp [at8]
/-- The two readers that no call made, in their list. -/
structure CN (w W : World) : Prop where
  a : W.cell? ⟨w.heap.size + 1, 0, none⟩ = some (.pointer none)
  b : W.cell? ⟨w.heap.size + 1, 1, none⟩ = some (.pointer (some ⟨w.heap.size, 0, none⟩))
  z : W.cell? ⟨w.heap.size, 0, none⟩ = some (.slice none 0 0)
  bel : Below w.heap.size w W
theorem CN.below {w W W' : World} (h : CN w W) (hb : Below W.heap.size W W') : CN w W' :=
  ⟨(hb.cell (p := ⟨w.heap.size + 1, 0, none⟩) (World.block_lt_of_cell? W _ h.a)).trans h.a, (hb.cell (p := ⟨w.heap.size + 1, 1, none⟩) (World.block_lt_of_cell? W _ h.b)).trans h.b, (hb.cell (p := ⟨w.heap.size, 0, none⟩) (World.block_lt_of_cell? W _ h.z)).trans h.z, h.bel.trans (hb.mono h.bel.size)⟩
set_option maxRecDepth 20000 in
set_option maxHeartbeats 4000000 in
theorem walkCertNone {w : World} (ao : Option Addr) (c : Nat) (L : List UInt8) (_ : BAt w ao L) (_ : ao = none → L = []) (_ : L.length ≤ 140737488351232) :
    Calls Try.prog 7 #[.slice ao L.length c] w fun e w' => e = .returned (.bool true) ∧ Below w.heap.size w w' := by
  have hq := fun W => run_neqEZ W enZ_ok
  rw [enEq_refl] at hq
  go_enter Try.func7, Try.ntmps7
  go_wp2
  have HC : Hid (CN w ((w.alloc (.cells #[.slice none 0 0, .int .i64 0, .int .i64 0, .int .i64 0, .int .i64 0, .int .i64 0] 60)).alloc (.cells #[.pointer none, .pointer (some ⟨w.heap.size, 0, none⟩)] 48))) := hide ⟨by simp, by simp, by simp, ((Below.refl w.heap.size w).alloc (Nat.le_refl _) _).alloc (by simp) _⟩
  generalize ((w.alloc (.cells #[.slice none 0 0, .int .i64 0, .int .i64 0, .int .i64 0, .int .i64 0, .int .i64 0] 60)).alloc (.cells #[.pointer none, .pointer (some ⟨w.heap.size, 0, none⟩)] 48)) = W0 at HC ⊢
  go_loopw [15] (fun i wr => ∃ k : Nat, k ≤ 2 ∧ i = .int .i64 (k : Int) ∧ Hid (CN w wr)) (fun i _ => 2 - (intOf i).toNat)
  case atStart => exact ⟨0, by omega, rfl, HC⟩
  case round =>
    clear HC
    obtain ⟨k, hk, rfl, HC⟩ := hrel
    have ca := (unhide HC).a
    have cb := (unhide HC).b
    rcases (show k = 0 ∨ k = 1 ∨ k = 2 by omega) with rfl | rfl | rfl
    · go_wp2_with fail
      refine (Next_none (.pointer none) _ (Or.inl rfl)).mono ?_
      rintro e W1 ⟨rfl, hB1⟩
      have C1 := hide ((unhide HC).below hB1)
      have hal := ((Below.refl W1.heap.size W1).alloc (Nat.le_refl _) (.cells (enA enZ) 42))
      have E1 : Hid (EAt (W1.alloc (.cells (enA enZ) 42)) W1.heap.size enZ) := hide (EAt.new W1 enZ)
      have E2 : Hid (EAt ((W1.alloc (.cells (enA enZ) 42)).setRow W1.heap.size (enA enZ)) W1.heap.size enZ) := hide ((unhide E1).row enZ)
      have C2 := hide ((unhide C1).below (below_setRow' hal (Nat.le_refl _) (enA enZ)))
      clear hB1 hal C1 HC
      go_wp2_with (first | (refine wpList_store_row rfl 42 _ _ rfl W1.heap.size (enA enZ) rfl rfl 42 (enA enZ) (unhide E1) (sizeEn enZ_ok) rfl (enA_one _) ?_) | (refine wpList_load_row rfl 42 _ rfl W1.heap.size rfl 42 (enA enZ) (0, 0) _ (unhide E2) Try.underlying42 rfl (sizeEn enZ_ok) ?_))
      rw [enZ_eq]
      generalize ((W1.alloc (.cells (enA enZ) 42)).setRow W1.heap.size (enA enZ)) = W2 at E2 C2 ⊢
      clear E1
      generalize W1.heap.size = g1 at E2 ⊢
      clear W1
      refine (Locals_none (.pointer none) _ (Or.inl rfl)).mono ?_
      rintro e W2 ⟨rfl, rfl⟩
      go_wp2_with fail
      refine (Count_none (.pointer none) _ (Or.inl rfl)).mono ?_
      rintro e W2 ⟨rfl, rfl⟩
      go_wp2_with fail
      refine (At_none (.pointer none) _ (Or.inl rfl)).mono ?_
      rintro e W2 ⟨rfl, rfl⟩
      go_wp2
      go_roundw
      case rel => exact ⟨0 + 1, by omega, by go_num, C2⟩
      case measure => simp [intOf]
    · go_wp2_with fail
      refine (Next_none (.pointer (some ⟨w.heap.size, 0, none⟩)) _ (Or.inr ⟨w.heap.size, rfl, (unhide HC).z⟩)).mono ?_
      rintro e W1 ⟨rfl, hB1⟩
      have C1 := hide ((unhide HC).below hB1)
      have hal := ((Below.refl W1.heap.size W1).alloc (Nat.le_refl _) (.cells (enA enZ) 42))
      have E1 : Hid (EAt (W1.alloc (.cells (enA enZ) 42)) W1.heap.size enZ) := hide (EAt.new W1 enZ)
      have E2 : Hid (EAt ((W1.alloc (.cells (enA enZ) 42)).setRow W1.heap.size (enA enZ)) W1.heap.size enZ) := hide ((unhide E1).row enZ)
      have C2 := hide ((unhide C1).below (below_setRow' hal (Nat.le_refl _) (enA enZ)))
      clear hB1 hal C1 HC
      go_wp2_with (first | (refine wpList_store_row rfl 42 _ _ rfl W1.heap.size (enA enZ) rfl rfl 42 (enA enZ) (unhide E1) (sizeEn enZ_ok) rfl (enA_one _) ?_) | (refine wpList_load_row rfl 42 _ rfl W1.heap.size rfl 42 (enA enZ) (0, 0) _ (unhide E2) Try.underlying42 rfl (sizeEn enZ_ok) ?_))
      rw [enZ_eq]
      generalize ((W1.alloc (.cells (enA enZ) 42)).setRow W1.heap.size (enA enZ)) = W2 at E2 C2 ⊢
      clear E1
      generalize W1.heap.size = g1 at E2 ⊢
      clear W1
      refine (Locals_none (.pointer (some ⟨w.heap.size, 0, none⟩)) _ (Or.inr ⟨w.heap.size, rfl, (unhide C2).z⟩)).mono ?_
      rintro e W2 ⟨rfl, rfl⟩
      go_wp2_with fail
      refine (Count_none (.pointer (some ⟨w.heap.size, 0, none⟩)) _ (Or.inr ⟨w.heap.size, rfl, (unhide C2).z⟩)).mono ?_
      rintro e W2 ⟨rfl, rfl⟩
      go_wp2_with fail
      refine (At_none (.pointer (some ⟨w.heap.size, 0, none⟩)) _ (Or.inr ⟨w.heap.size, rfl, (unhide C2).z⟩)).mono ?_
      rintro e W2 ⟨rfl, rfl⟩
      go_wp2
      go_roundw
      case rel => exact ⟨1 + 1, by omega, by go_num, C2⟩
      case measure => simp [intOf]
    · clear ca cb
      go_wp2_with fail
      have hal := ((Below.refl wr.heap.size wr).alloc (Nat.le_refl _) (.cells #[.int .u8 112, .int .u8 118, .int .u8 1, .int .u8 3, .int .u8 0, .int .u8 0] 5))
      have C1 := hide ((unhide HC).below hal)
      refine (Open_any (some ⟨wr.heap.size, 0, none⟩) 6 [112, 118, 1, 3, 0, 0] _ (lit_at wr) (by decide)).mono ?_
      rintro e W3 ⟨hB3, ⟨h0, g, hg, rfl, hR⟩ | ⟨h0, rfl⟩⟩
      rotate_left
      · exact absurd (congrArg Prod.snd hd_lit) h0
      have C3 := hide ((unhide C1).below hB3)
      have HR := hide hR
      clear hal C1 HC hB3 h0 hR hg
      go_wp2_with fail
      refine (Locals_any W3 (unhide HR) (by decide)).mono ?_
      rintro e W3 ⟨rfl, rfl⟩
      rw [show at8 [112, 118, 1, 3, 0, 0] 3 = 3 by decide]
      go_wp2
      go_ret
      exact ⟨rfl, (unhide C3).bel⟩
end Go.Proofs.Ytelbajcfdecaoac
