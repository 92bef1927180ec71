/-
  slices.Contains of numbers.
-/
import Derived.Test.YtlanmcmhgohooaaDoorIs1
namespace Go.Proofs.YtlanmcmhgohooaaDoor
open Go.RowKit
set_option maxRecDepth 20000

set_option maxRecDepth 20000 in
set_option maxHeartbeats 4000000 in
theorem IndexJ_any (ao : Option Addr) (c : Nat) (l : List Int) (a : Int) (w : World) (hx : JsAt w ao l) (hz : l.length ≤ 4400000000000) :
    Calls Tryd.prog 50 #[.slice ao l.length c, .int .i64 a] w fun e w' => ∃ n : Int, e = .returned (.int .i64 n) ∧ Hid (decide (n ≥ 0) = decide (a ∈ l)) ∧ w' = w := by
  have HX := hide hx
  clear hx
  go_enter Tryd.func50, Tryd.ntmps50
  go_wp2
  go_loopw [8] (fun i wr => ∃ k : Nat, k ≤ l.length ∧ i = .int .i64 (k : Int) ∧ Hid (a ∉ l.take k) ∧ wr = w) (fun i _ => l.length - (intOf i).toNat)
  case atStart => exact ⟨0, by omega, rfl, hide (by simp), rfl⟩
  case round =>
    obtain ⟨k, hk, rfl, HN, rfl⟩ := hrel
    by_cases hkl : k < l.length
    · have j1 : ((k : Nat) : Int) < ((l.length : Nat) : Int) := by omega
      have hy := List.getElem?_eq_getElem hkl
      generalize l[k] = y at hy
      obtain ⟨b, off, rfl, hyc⟩ := (unhide HX) k y hy
      have HTk := hide (take_snocJ hy)
      have HM := hide (List.mem_of_getElem? hy)
      clear hy
      by_cases hp : a = y
      · have hq : (a == y) = true := by simpa using hp
        have HF : Hid (a ∈ l) := hide (by rw [hp]; exact unhide HM)
        clear hp
        go_wp2
        go_ret
        exact ⟨_, rfl, hide (by rw [decide_eq_true (unhide HF)]; simp), rfl⟩
      · have hq : (a == y) = false := by simpa using hp
        have HT2 : Hid (a ∉ l.take (k + 1)) := hide (by rw [unhide HTk, List.mem_append, List.mem_singleton]; rintro (h | h); exact unhide HN h; exact hp h)
        clear hp
        go_wp2
        go_roundw
        case rel => exact ⟨k + 1, by omega, by go_num, HT2, trivial⟩
        case measure => simp [intOf]; omega
    · obtain rfl : k = l.length := by omega
      rw [List.take_length] at HN
      go_wp2
      go_ret
      exact ⟨_, rfl, hide (by rw [decide_eq_false (unhide HN)]; simp), rfl⟩
set_option maxRecDepth 20000 in
theorem ContainsJ_any (ao : Option Addr) (c : Nat) (l : List Int) (a : Int) (w : World) (hx : JsAt w ao l) (hz : l.length ≤ 4400000000000) :
    Calls Tryd.prog 27 #[.slice ao l.length c, .int .i64 a] w fun e w' => e = .returned (.bool (decide (a ∈ l))) ∧ w' = w := by
  have HI := hide (IndexJ_any ao c l a w hx hz)
  clear hx
  go_enter Tryd.func27, Tryd.ntmps27
  go_wp2_with (go_at_call 50; refine (unhide HI).mono ?_; rintro e w1 ⟨n, rfl, hn, rfl⟩)
  go_ret
  exact ⟨by rw [← unhide hn]; rfl, rfl⟩
end Go.Proofs.YtlanmcmhgohooaaDoor
