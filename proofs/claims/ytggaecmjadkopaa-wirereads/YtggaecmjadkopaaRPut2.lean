/-
  Contracts of provisoref01.Put and Patch: the error and the bytes behind as the same plain functions. Conditions: lengths fit.
-/
import Derived.Test.YtggaecmjadkopaaRPut
namespace Go.Proofs.Ytggaecmjadkopaa
open Go.RowKit

theorem be_take (n : Int) (s j : Nat) (h : j < s) : (be n s).take (j + 1) = (be n s).take j ++ [byteOf n (s - 1 - j)] := by
  have h2 : j < (be n s).length := by rw [be_length]; exact h
  have := be_get n s j h
  rw [List.getElem?_eq_getElem h2] at this
  injection this with this
  rw [List.take_succ_eq_append_getElem h2, this]

set_option maxHeartbeats 1000000 in
theorem refPut_err {w : World} {b : Value} {l : List UInt8} (hb : OwnB w 0 b l) (n : Int) (s : Nat) (hs : s = 1 ∨ s = 2 ∨ s = 4) (hl : l.length ≤ 1048576) (he : wE l n s ≠ 0) :
    Calls Try.prog 44 #[b, .int .i64 n, .int .i64 (s : Int)] w (RPost w b (wE l n s) l) := by
  obtain ⟨ao, cap, hbv, _⟩ := hb.at
  have HB := hide hb
  subst hbv
  clear hb
  by_cases hr : n < loN s ∨ hiN s < n
  · have e1 : wE l n s = 5 := by unfold wE; rw [if_pos hr]
    rw [e1]
    clear e1 he
    rcases hs with rfl | rfl | rfl
    · have hr' : n < 0 ∨ 255 < n := hr
      clear hr
      by_cases h0 : n < 0
      · clear hr'
        go_enter Try.func44, Try.ntmps44
        go_wp2
        go_ret2
        exact RPost.same 5 (unhide HB)
      · have h1 : 255 < n := by omega
        clear hr'
        go_enter Try.func44, Try.ntmps44
        go_wp2
        go_ret2
        exact RPost.same 5 (unhide HB)
    · have hr' : n < 0 ∨ 65535 < n := hr
      clear hr
      by_cases h0 : n < 0
      · clear hr'
        go_enter Try.func44, Try.ntmps44
        go_wp2
        go_ret2
        exact RPost.same 5 (unhide HB)
      · have h1 : 65535 < n := by omega
        clear hr'
        go_enter Try.func44, Try.ntmps44
        go_wp2
        go_ret2
        exact RPost.same 5 (unhide HB)
    · have hr' : n < -2147483648 ∨ 2147483647 < n := hr
      clear hr
      by_cases h0 : n < -2147483648
      · clear hr'
        go_enter Try.func44, Try.ntmps44
        go_wp2
        go_ret2
        exact RPost.same 5 (unhide HB)
      · have h1 : 2147483647 < n := by omega
        clear hr'
        go_enter Try.func44, Try.ntmps44
        go_wp2
        go_ret2
        exact RPost.same 5 (unhide HB)
  · have hf : 1048576 < l.length + s := by
      by_cases hf : 1048576 < l.length + s
      · exact hf
      · exact absurd (by unfold wE; rw [if_neg hr, if_neg hf]) he
    have e1 : wE l n s = 7 := by unfold wE; rw [if_neg hr, if_pos hf]
    rw [e1]
    clear e1 he
    rcases hs with rfl | rfl | rfl
    · have h0 : ¬ n < 0 := fun h => hr (.inl h)
      have h1 : ¬ 255 < n := fun h => hr (.inr h)
      have hf' : (1048576 : Int) < (l.length : Int) + 1 := by omega
      clear hr
      go_enter Try.func44, Try.ntmps44
      go_wp2
      go_ret2
      exact RPost.same 7 (unhide HB)
    · have h0 : ¬ n < 0 := fun h => hr (.inl h)
      have h1 : ¬ 65535 < n := fun h => hr (.inr h)
      have hf' : (1048576 : Int) < (l.length : Int) + 2 := by omega
      clear hr
      go_enter Try.func44, Try.ntmps44
      go_wp2
      go_ret2
      exact RPost.same 7 (unhide HB)
    · have h0 : ¬ n < -2147483648 := fun h => hr (.inl h)
      have h1 : ¬ 2147483647 < n := fun h => hr (.inr h)
      have hf' : (1048576 : Int) < (l.length : Int) + 4 := by omega
      clear hr
      go_enter Try.func44, Try.ntmps44
      go_wp2
      go_ret2
      exact RPost.same 7 (unhide HB)
end Go.Proofs.Ytggaecmjadkopaa
