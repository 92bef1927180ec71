/-
  The contract of cert.Open; of a reader that Open made: its Locals, Count, At. Conditions: lengths fit.
-/
import Derived.Test.YthejnhdabokhjabCr2
namespace Go.Proofs.Ythejnhdabokhjab
open Go.RowKit

set_option maxHeartbeats 1000000 in
theorem Open_any (ao : Option Addr) (c : Nat) (L : List UInt8) (w : World) (hb : BAt w ao L) (hl : L.length ≤ 140737488355328) :
    Calls Try.prog 11 #[.slice ao L.length c] w fun e w' => Below w.heap.size w w' ∧ (((hdE L).2 = 0 ∧ ∃ g, w.heap.size ≤ g ∧ e = .returned (.tuple #[.pointer (some ⟨g, 0, none⟩), .int .i64 0]) ∧ RAt w' g (.slice ao L.length c) (at8 L 3) (wdD L 4) 6 0 (-1)) ∨ ((hdE L).2 ≠ 0 ∧ e = .returned (.tuple #[.pointer none, .int .i64 (hdE L).2]))) := by
  have HO := hide (open_any ao c L w hb hl)
  clear hb
  go_enter Try.func11, Try.ntmps11
  go_wp2_with fail
  refine (unhide HO).mono ?_
  rintro e W1 ⟨hB, ⟨h0, g, hg, rfl, hR⟩ | ⟨h0, rfl⟩⟩
  · have hal := ((Below.refl W1.heap.size W1).alloc (Nat.le_refl _) (.cells #[.int .i64 0, .int .i64 0] 57))
    have HB := hide (hB.trans (hal.mono hB.size))
    have HR := hide (hR.below hal)
    have H0 := hide h0
    clear hB hR hal h0 HO
    unfold ftV
    go_wp2
    go_quiet (fail)
    go_wp2
    go_ret2
    exact ⟨belowD (unhide HB) _, Or.inl ⟨unhide H0, g, hg, rfl, unhide HR⟩⟩
  · have hal := ((Below.refl W1.heap.size W1).alloc (Nat.le_refl _) (.cells #[.int .i64 ((hdE L).1 : Int), .int .i64 (hdE L).2] 57))
    have HB := hide (hB.trans (hal.mono hB.size))
    have H0 := hide h0
    clear hB hal h0 HO
    unfold ftV
    obtain ⟨x, HX⟩ : ∃ x, Hid ((hdE L).2 = x) := ⟨_, hide rfl⟩
    obtain ⟨y, HY⟩ : ∃ y : Int, Hid (((hdE L).1 : Int) = y) := ⟨_, hide rfl⟩
    rw [unhide HX, unhide HY] at HB
    rw [unhide HX, unhide HY]
    go_wp2
    go_quiet (fail)
    go_wp2
    go_ret2
    exact ⟨belowD (unhide HB) _, Or.inr ⟨unhide H0, by rw [unhide HX]; rfl⟩⟩
theorem isMade_any {g : Nat} {ao : Option Addr} {n : Nat} {c : Nat} {lo k p t q : Int} (w : World) (h : RAt w g (.slice ao n c) lo k p t q) (hn : 0 < n) : Calls Try.prog 23 #[.pointer (some ⟨g, 0, none⟩)] w fun e w' => e = .returned (.bool true) ∧ w' = w := by
  have c0 := h.c0
  have i1 : ((n : Nat) : Int) > 0 := by omega
  go_enter Try.func23, Try.ntmps23
  go_wp2
  go_ret
  exact ⟨rfl, rfl⟩
end Go.Proofs.Ythejnhdabokhjab
