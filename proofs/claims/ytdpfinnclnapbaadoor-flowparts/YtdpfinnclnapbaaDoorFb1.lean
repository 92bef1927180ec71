/-
  slices.Backward over a row of instructions, and the function that it makes: each place and instruction, from the last one on. Conditions: the row lies there; of a round, that it leaves the row and the box that holds it.
-/
import Derived.Test.YtdpfinnclnapbaaDoorAl1
import Derived.Test.YtdpfinnclnapbaaDoorFl1
import Derived.RangeFuncNested
import Derived.RangeFuncBound
import Derived.RangeFuncCalls
import Derived.RangeFuncLeaves
import Derived.Shelf.Abstract
import Derived.Shelf.RegionOpen
import Derived.WalkKit
import Derived.OwnWalkIn
import Derived.TacticsInMore
import Derived.LoopNIn
import Derived.LoopIn
import Derived.RangeFuncFrom
import Derived.Sort.QuietIn
namespace Go.Proofs.YtdpfinnclnapbaaDoor
open Go.RowKit Go.Shelf
set_option maxRecDepth 20000
attribute [local go_sem] Oper.semAt_some

/-- Each instruction with its place, from the last one on. -/
def bks (xs : List Ix) : List (Ix × Nat) := xs.zipIdx.reverse
theorem bks_len (xs : List Ix) : (bks xs).length = xs.length := by simp [bks]
theorem bks_at {xs : List Ix} {k : Nat} {x : Ix} (h : xs[k]? = some x) : (bks xs)[xs.length - (k + 1)]? = some (x, k) := by
  have hk := (List.getElem?_eq_some_iff.1 h).1
  unfold bks
  rw [List.getElem?_reverse (by simp; omega)]
  rw [show xs.zipIdx.length - 1 - (xs.length - (k + 1)) = k by simp; omega]
  rw [List.getElem?_zipIdx, h]
  simp
def encB (y : Ix × Nat) : Array Value := #[.int .i64 (y.2 : Int), .agg #[.int .i64 y.1.p, .int .u8 (y.1.op : Int), .int .i64 y.1.a, .int .i64 y.1.b]]
/-- What a round that goes on keeps. -/
def KeepsB (n₀ Bl : Nat) (W W' : World) : Prop := Below n₀ W W' ∧ W'.heap[Bl]? = W.heap[Bl]?
theorem keepsB_t {n₀ Bl : Nat} {A B C : World} (h : KeepsB n₀ Bl A B) (k : KeepsB n₀ Bl B C) : KeepsB n₀ Bl A C := ⟨h.1.trans k.1, k.2.trans h.2⟩

set_option maxHeartbeats 1000000 in
theorem backMake_any (ao : Option Addr) (m cap : Nat) (w : World) :
    Calls Tryd.prog 48 #[.slice ao m cap] w fun e w' => e = .returned (.func (.func 58) #[] #[.pointer (some ⟨w.heap.size, 0, none⟩)]) ∧ w' = w.alloc (.cells #[.slice ao m cap] 23) := by
  go_enter Tryd.func48, Tryd.ntmps48
  go_wp2
  go_ret
  exact ⟨rfl, rfl⟩

set_option maxHeartbeats 2000000 in
theorem back1_in (n : Nat) (hn : 1 ≤ n) (l Bl : Nat) (ao : Option Addr) (cap : Nat) (xs : List Ix) (w0 : World) (hX : XsAt w0 ao xs) (hz : xs.length ≤ 4400000000000) (J Jx : List (Ix × Nat) → World → Prop)
    (hY : ∀ pre (x : Ix × Nat) W, J pre W → pre ++ [x] <+: bks xs → YieldAt Fence.wide (n - 1) Tryd.prog l (encB x) W fun e W' =>
      (e = .returned (.bool true) ∧ J (pre ++ [x]) W' ∧ KeepsB w0.heap.size Bl W W') ∨ (e = .returned (.bool false) ∧ Jx (pre ++ [x]) W'))
    (W : World) (hB0 : Below w0.heap.size w0 W) (hBl : W.cell? ⟨Bl, 0, none⟩ = some (.slice ao xs.length cap)) (h0 : J [] W) :
    CallsIn Fence.wide n Tryd.prog 58 #[.func (.yield l) #[] #[], .pointer (some ⟨Bl, 0, none⟩)] W fun e W' => (∃ v, e = .returned v) ∧
      ((∃ ys, ys = bks xs ∧ J ys W') ∨ (∃ pre, pre <+: bks xs ∧ Jx pre W')) := by
  have HX := hide hX
  have HB0 := hide hB0
  clear hX hB0
  refine callsIn_of_wp Tryd.func58 rfl trivial ?_ rfl
  simp only [Tryd.ntmps58, List.size_toArray, List.length_cons, List.length_nil, Nat.reduceAdd, Nat.reduceSub, Array.replicate_succ, Array.replicate_zero, List.push_toArray, List.append_toArray, List.nil_append, List.cons_append]
  gi_wp2
  gi_loopw [3] (fun iv wr => ∃ k : Nat, k ≤ xs.length ∧ iv = .int .i64 ((k : Int) - 1) ∧ Hid (J ((bks xs).take (xs.length - k)) wr) ∧ Hid (Below w0.heap.size w0 wr) ∧ wr.cell? ⟨Bl, 0, none⟩ = some (.slice ao xs.length cap)) (fun iv _ => (intOf iv + 1).toNat)
  case atStart => exact ⟨xs.length, Nat.le_refl _, by first | rfl | go_num, hide (by simpa using h0), HB0, hBl⟩
  case round =>
    obtain ⟨k, hk, rfl, HJ, HB, hbl⟩ := hrel
    by_cases h1 : 0 < k
    · obtain ⟨m, rfl⟩ : ∃ m, k = m + 1 := ⟨k - 1, by omega⟩
      have hm : m < xs.length := by omega
      have j0 : ((m + 1 : Nat) : Int) - 1 = (m : Int) := by omega
      rw [j0]
      have j1 : ((m : Nat) : Int) < ((xs.length : Nat) : Int) := by omega
      have j2 : ((m : Nat) : Int) ≥ 0 := by omega
      have hx := List.getElem?_eq_getElem hm
      generalize xs[m] = x at hx
      have HA := hide (bks_at hx)
      obtain ⟨b, off, rfl, hc⟩ := ((unhide HX).below (unhide HB)) m x hx
      obtain ⟨c0, c1, c2, c3, ho⟩ := hc
      have HN : Hid ((bks xs).take (xs.length - m) = (bks xs).take (xs.length - (m + 1)) ++ [(x, m)]) := hide (by
        rw [show xs.length - m = xs.length - (m + 1) + 1 by omega]
        exact take_snoc (unhide HA))
      obtain ⟨fn, tmps, assign, body, hy, hR⟩ := hY _ (x, m) wr (unhide HJ) (by rw [← unhide HN]; exact List.take_prefix _ _)
      unfold encB at hy
      simp only at hy
      clear hx HJ
      gi_wp2
      refine hR.mono ?_
      rintro e W3 (⟨rfl, hJ3, hk3⟩ | ⟨rfl, hJx3⟩)
      · have hbl3 : W3.cell? ⟨Bl, 0, none⟩ = some (.slice (some ⟨b, off, none⟩) xs.length cap) := (World.cell?_of_block hk3.2).trans hbl
        have HB3 := hide ((unhide HB).trans hk3.1)
        have HJ3 := hide hJ3
        clear hk3 hJ3 HB hR hy c0 c1 c2 c3
        gi_wp2
        go_roundw
        case rel => exact ⟨m, by omega, by first | rfl | go_num, hide (by rw [unhide HN]; exact unhide HJ3), HB3, hbl3⟩
        case measure => simp [intOf]
      · clear hR hy
        gi_wp2
        refine bodyPost_ret (results_none rfl _ _ _) rfl ⟨⟨_, rfl⟩, .inr ⟨_, by rw [← unhide HN]; exact List.take_prefix _ _, hJx3⟩⟩
    · obtain rfl : k = 0 := by omega
      gi_wp2
      go_end0
      exact ⟨⟨_, rfl⟩, .inl ⟨_, rfl, by have h := unhide HJ; rw [Nat.sub_zero, ← bks_len, List.take_length] at h; exact h⟩⟩
end Go.Proofs.YtdpfinnclnapbaaDoor
