/-
  The walk of the law WireNobody: it returns true for every number, text and row of bytes, and writes nothing that was there.
-/
import Derived.Test.YtggaecmjadkopabNobody
namespace Go.Proofs.Ytggaecmjadkopab
open Go.RowKit

set_option maxHeartbeats 1000000 in
theorem walkWireNobody {w : World} (n : Int) (_hn : (Lit.int .i64 n).wf = true) (s : ByteArray) (_hs : s.size ≤ maxLen) (_hs2 : s.size ≤ 140737488351232) (ao : Option Addr) (cap : Nat) (l : List UInt8) (h : BAt w ao l) (hn : ao = none → l = []) (hb : l.length ≤ 140737488351232) :
    Calls Try.prog 4 #[.int .i64 n, .string s, .slice ao l.length cap] w fun e w' => e = .returned (.bool true) ∧ Below w.heap.size w w' := by
  go_enter Try.func4, Try.ntmps4
  go_wp2_with fail
  refine (Clone_any ao cap l _ h hn (by omega)).mono ?_
  rintro e w1 ⟨v, rfl, _, hb1, _⟩
  go_wp2_with fail
  refine (nobody_yes (.inl rfl) (.inl rfl) n s v).mono ?_
  rintro e w2 ⟨rfl, rfl⟩
  have h2 := h.below' hb1
  have hA : ∀ X Y : Obj, Below w2.heap.size w2 ((w2.alloc X).alloc Y) := fun X Y => ((Below.refl _ w2).alloc (Nat.le_refl _) _).alloc (by simp) _
  go_wp2_with fail
  refine (Clone_any ao cap l _ (h2.below' (hA _ _)) hn (by omega)).mono ?_
  rintro e w3 ⟨v3, rfl, _, hb3, _⟩
  have r1 : ((w2.alloc (.cells #[.slice none 0 0, .int .i64 0, .bool false] 47)).alloc (.cells #[.slice none 0 0, .bool false] 49)).cell? ⟨w2.heap.size, 2, none⟩ = some (.bool false) := by
    rw [World.cell?_of_block (w := w2.alloc (.cells #[.slice none 0 0, .int .i64 0, .bool false] 47)) (Below.heap_alloc _ _ _ (by simp))]
    rw [cell_of_row _ _ _ _ _ _ (heap_alloc_new w2 _)]
    rfl
  have r2 : ((w2.alloc (.cells #[.slice none 0 0, .int .i64 0, .bool false] 47)).alloc (.cells #[.slice none 0 0, .bool false] 49)).cell? ⟨w2.heap.size + 1, 1, none⟩ = some (.bool false) := by
    have := heap_alloc_new (w2.alloc (.cells #[.slice none 0 0, .int .i64 0, .bool false] 47)) (.cells #[.slice none 0 0, .bool false] 49)
    rw [World.size_alloc] at this
    rw [cell_of_row _ _ _ _ _ _ this]
    rfl
  have r3 := (hb3.cell (p := ⟨w2.heap.size, 2, none⟩) (by simp; omega)).trans r1
  have r4 := (hb3.cell (p := ⟨w2.heap.size + 1, 1, none⟩) (by simp)).trans r2
  have hB : Below w.heap.size w w3 := (hb1.trans ((hA _ _).mono hb1.size)).trans (hb3.mono (by have := hb1.size; simp; omega))
  clear r1 r2 hb3 hA
  go_wp2_with fail
  refine (nobody_yes (.inr ⟨_, rfl, r3⟩) (.inr ⟨_, rfl, r4⟩) n s v3).mono ?_
  rintro e w4 ⟨rfl, rfl⟩
  go_wp2
  go_ret
  exact ⟨rfl, hB⟩
end Go.Proofs.Ytggaecmjadkopab
