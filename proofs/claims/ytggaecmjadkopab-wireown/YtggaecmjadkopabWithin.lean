/-
  Contracts of a reader's Within: a reader of its own over the next n bytes, and this one behind them; or the error. Conditions: lengths fit.
-/
import Derived.Test.YtggaecmjadkopabNext
namespace Go.Proofs.Ytggaecmjadkopab
open Go.RowKit

theorem Within_arg {w : World} {p g cap : Nat} {l : List UInt8} {k : Nat} (h : IsReader w p g cap l k) (n : Int) (hn : n < 0) :
    Calls Try.prog 36 #[.pointer (some ⟨p, 0, none⟩), .int .i64 n] w fun e w' => e = .returned (.tuple #[.pointer none, .int .i64 1]) ∧ w' = w := by
  go_enter Try.func36, Try.ntmps36
  go_wp2_with (go_at_call 26; refine (next_arg h n hn).mono ?_; rintro e w' ⟨rfl, rfl⟩)
  go_ret2
  exact ⟨rfl, rfl⟩
theorem Within_short {w : World} {p g cap : Nat} {l : List UInt8} {k : Nat} (h : IsReader w p g cap l k) (n : Int) (hn : ((l.length - k : Nat) : Int) < n) :
    Calls Try.prog 36 #[.pointer (some ⟨p, 0, none⟩), .int .i64 n] w fun e w' => e = .returned (.tuple #[.pointer none, .int .i64 2]) ∧ ∃ j, w' = w.drewN j := by
  go_enter Try.func36, Try.ntmps36
  go_wp2_with (go_at_call 26; refine (next_short h n hn).mono ?_; rintro e w' ⟨rfl, j, rfl⟩)
  go_ret2
  exact ⟨rfl, _, rfl⟩
theorem grown_below_trans {a b c : World} {row : Option Nat} (h1 : a.grownBy b row) (h2 : Below b.heap.size b c) : a.grownBy c row := grown_trans h1 (grown_of_below h2 row)
theorem Within_ok {w : World} {p g cap : Nat} {l : List UInt8} {k : Nat} (h : IsReader w p g cap l k) (n : Nat) (hn : n ≤ l.length - k) :
    Calls Try.prog 36 #[.pointer (some ⟨p, 0, none⟩), .int .i64 (n : Int)] w fun e w' => ∃ q g', e = .returned (.tuple #[.pointer (some ⟨q, 0, none⟩), .int .i64 0]) ∧ w.heap.size ≤ q ∧ w.heap.size ≤ g' ∧
      IsReader w' q g' n ((l.drop k).take n) 0 ∧ IsReader w' p g cap l (k + n) ∧ w.grownBy w' (some p) := by
  have hlen : ((l.drop k).take n).length = n := by simp; omega
  have hfit := h.fit
  go_enter Try.func36, Try.ntmps36
  go_wp2_with fail
  refine (next_ok h n hn).mono ?_
  rintro e w1 ⟨ao, c, rfl, hb, hR, hG⟩
  generalize hL : (l.drop k).take n = L at hlen hb ⊢
  subst hlen
  have HL := hide hL
  clear hL
  go_wp2_with fail
  refine (Over_any ao c L _ hb (by omega)).mono ?_
  rintro e w2 ⟨q, g', rfl, hq, hg, hR2, hB⟩
  go_wp2
  go_ret2
  exact ⟨q, g', rfl, Nat.le_trans hG.size hq, Nat.le_trans hG.size hg, by rw [unhide HL]; exact hR2, hR.below hB, grown_below_trans hG hB⟩
end Go.Proofs.Ytggaecmjadkopab
