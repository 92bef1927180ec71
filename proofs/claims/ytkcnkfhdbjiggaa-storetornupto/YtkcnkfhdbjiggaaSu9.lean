/-
  provisoplain.SameWrites: of two alike, and of none.
-/
import Derived.Test.YtkcnkfhdbjiggaaSu8
namespace Go.Proofs.Ytkcnkfhdbjiggaa
open Go.RowKit
set_option maxRecDepth 20000

theorem OwnB.atX {w : World} {B : Nat} {ao : Option Addr} {c : Nat} {l : List UInt8} (h : OwnB w B (.slice ao l.length c) l) : BAt w ao l := by
  obtain ⟨a', c', e, hb⟩ := h.at
  injection e with e _ _
  rw [e]
  exact hb
set_option maxRecDepth 20000 in
set_option maxHeartbeats 1000000 in
theorem SameWrites_nil (w : World) : Calls Try.prog 24 #[.slice none 0 0, .slice none 0 0] w fun e w' => e = .returned (.bool true) ∧ Below w.heap.size w w' := by
  go_enter Try.func24, Try.ntmps24
  go_wp2
  go_loopw [13] (fun i wr => i = .int .i64 0 ∧ Hid (Below w.heap.size w wr)) (fun i _ => 0)
  case atStart => exact ⟨rfl, hide (Below.refl _ _)⟩
  case round =>
    obtain ⟨rfl, HB⟩ := hrel
    go_wp2
    go_ret
    exact ⟨rfl, unhide HB⟩
set_option maxRecDepth 20000 in
set_option maxHeartbeats 2000000 in
theorem SameWrites_two {w : World} {b1 b2 : Nat} {v v' : Value} {at_ : Nat} {A C : List UInt8} (h : WrAt w b1 v at_ A C) (h' : WrAt w b2 v' at_ A C) (hA : A.length ≤ 10000) (hC : C.length ≤ 10000) :
    Calls Try.prog 24 #[v, v'] w fun e w' => e = .returned (.bool true) ∧ Below w.heap.size w w' := by
  obtain ⟨wb, ha, hc, fa, fc, rfl, -, h3, h4, h5⟩ := h
  obtain ⟨wc, ka, kc, ja, jc, rfl, -, k3, k4, k5⟩ := h'
  have HX := hide h3
  have HY := hide k3
  have H4 := hide h4.atX
  have H5 := hide h5.atX
  have K4 := hide k4.atX
  have K5 := hide k5.atX
  clear h3 h4 h5 k3 k4 k5
  have e0 : (((at_ : Nat) : Int) != ((at_ : Nat) : Int)) = false := by simp
  go_enter Try.func24, Try.ntmps24
  go_wp2
  go_loopw [13] (fun i wr => ∃ k : Nat, k ≤ 2 ∧ i = .int .i64 (k : Int) ∧ Hid (Below w.heap.size w wr)) (fun i _ => 2 - (intOf i).toNat)
  case atStart => exact ⟨0, by omega, rfl, hide (Below.refl _ _)⟩
  case round =>
    obtain ⟨k, hk, rfl, HB⟩ := hrel
    have c0 := ((unhide HX).below (unhide HB)).c 0 rfl
    have c1 := ((unhide HX).below (unhide HB)).c 1 rfl
    have c2 := ((unhide HX).below (unhide HB)).c 2 rfl
    have c3 := ((unhide HX).below (unhide HB)).c 3 rfl
    have d0 := ((unhide HY).below (unhide HB)).c 0 rfl
    have d1 := ((unhide HY).below (unhide HB)).c 1 rfl
    have d2 := ((unhide HY).below (unhide HB)).c 2 rfl
    have d3 := ((unhide HY).below (unhide HB)).c 3 rfl
    match k, hk with
    | 0, _ =>
      have HE : Hid (∀ n, Calls Try.prog 12 #[.slice ha A.length hc, .slice ka A.length kc] (wr.drewN n) fun e w' => e = .returned (.bool true) ∧ ∃ j, w' = (wr.drewN n).drewN j) := hide (fun n => by
        have := Equal_any ha ka hc kc A A (wr.drewN n) ((unhide H4).below' (belowD (unhide HB) n)) ((unhide K4).below' (belowD (unhide HB) n)) (by unfold maxLen; omega) (by unfold maxLen; omega)
        rwa [beq_self_eq_true] at this)
      go_wp2
      go_quiet ((go_at_call 12; with_reducible exact Calls.quiet_of (unhide HE _)))
      go_wp2
      go_roundw
      case rel => exact ⟨1, by omega, by go_num, hide (belowD (unhide HB) _)⟩
      case measure => simp [intOf]
    | 1, _ =>
      have HE : Hid (∀ n, Calls Try.prog 12 #[.slice fa C.length fc, .slice ja C.length jc] (wr.drewN n) fun e w' => e = .returned (.bool true) ∧ ∃ j, w' = (wr.drewN n).drewN j) := hide (fun n => by
        have := Equal_any fa ja fc jc C C (wr.drewN n) ((unhide H5).below' (belowD (unhide HB) n)) ((unhide K5).below' (belowD (unhide HB) n)) (by unfold maxLen; omega) (by unfold maxLen; omega)
        rwa [beq_self_eq_true] at this)
      go_wp2
      go_quiet ((go_at_call 12; with_reducible exact Calls.quiet_of (unhide HE _)))
      go_wp2
      go_roundw
      case rel => exact ⟨2, by omega, by go_num, hide (belowD (unhide HB) _)⟩
      case measure => simp [intOf]
    | 2, _ =>
      go_wp2
      go_ret
      exact ⟨rfl, unhide HB⟩
end Go.Proofs.Ytkcnkfhdbjiggaa
