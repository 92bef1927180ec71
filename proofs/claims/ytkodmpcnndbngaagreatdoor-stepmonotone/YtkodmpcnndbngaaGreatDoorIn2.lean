/-
  Contracts, by plain functions over any byte: provisoref04's wide, Size, Jumps, Ends and fits; code's Jumps, Ends, span.has, spans and inSpans. Conditions: of wide and spans that the byte is an instruction.
-/
import Derived.Test.YtkodmpcnndbngaaGreatDoorIn
import Derived.Handy
namespace Go.Proofs.YtkodmpcnndbngaaGreatDoor
open Go.RowKit
set_option maxRecDepth 20000

macro "belows" : tactic => `(tactic| (repeat first | exact Below.refl _ _ | (refine belowD ?_ _) | (refine Below.alloc ?_ (by simp <;> omega) _)))

theorem cases34 {p : Nat → Prop} (h0 : p 0) (h1 : p 1) (h2 : p 2) (h3 : p 3) (h4 : p 4) (h5 : p 5) (h6 : p 6) (h7 : p 7) (h8 : p 8) (h9 : p 9) (h10 : p 10) (h11 : p 11) (h12 : p 12) (h13 : p 13) (h14 : p 14) (h15 : p 15) (h16 : p 16) (h17 : p 17) (h18 : p 18) (h19 : p 19) (h20 : p 20) (h21 : p 21) (h22 : p 22) (h23 : p 23) (h24 : p 24) (h25 : p 25) (h26 : p 26) (h27 : p 27) (h28 : p 28) (h29 : p 29) (h30 : p 30) (h31 : p 31) (h32 : p 32) (h33 : p 33) : ∀ i, i < 34 → p i := fun i hi => match i, hi with | 0, _ => h0 | 1, _ => h1 | 2, _ => h2 | 3, _ => h3 | 4, _ => h4 | 5, _ => h5 | 6, _ => h6 | 7, _ => h7 | 8, _ => h8 | 9, _ => h9 | 10, _ => h10 | 11, _ => h11 | 12, _ => h12 | 13, _ => h13 | 14, _ => h14 | 15, _ => h15 | 16, _ => h16 | 17, _ => h17 | 18, _ => h18 | 19, _ => h19 | 20, _ => h20 | 21, _ => h21 | 22, _ => h22 | 23, _ => h23 | 24, _ => h24 | 25, _ => h25 | 26, _ => h26 | 27, _ => h27 | 28, _ => h28 | 29, _ => h29 | 30, _ => h30 | 31, _ => h31 | 32, _ => h32 | 33, _ => h33 | n + 34, h => absurd h (by omega)

set_option maxHeartbeats 2000000 in
theorem refWide_all : ∀ op : Nat, op < 34 → ∀ w : World, Calls Tryz.prog 40 #[.int .u8 (op : Int)] w fun e w' => e = .returned (.tuple #[.int .i64 (wA op : Int), .int .i64 (wB op : Int)]) ∧ w' = w := by
  refine cases34 ?_ ?_ ?_ ?_ ?_ ?_ ?_ ?_ ?_ ?_ ?_ ?_ ?_ ?_ ?_ ?_ ?_ ?_ ?_ ?_ ?_ ?_ ?_ ?_ ?_ ?_ ?_ ?_ ?_ ?_ ?_ ?_ ?_ ?_
  intro w; show Calls Tryz.prog 40 #[.int .u8 (0 : Int)] w _; rotate_left
  intro w; show Calls Tryz.prog 40 #[.int .u8 (1 : Int)] w _; rotate_left
  intro w; show Calls Tryz.prog 40 #[.int .u8 (2 : Int)] w _; rotate_left
  intro w; show Calls Tryz.prog 40 #[.int .u8 (3 : Int)] w _; rotate_left
  intro w; show Calls Tryz.prog 40 #[.int .u8 (4 : Int)] w _; rotate_left
  intro w; show Calls Tryz.prog 40 #[.int .u8 (5 : Int)] w _; rotate_left
  intro w; show Calls Tryz.prog 40 #[.int .u8 (6 : Int)] w _; rotate_left
  intro w; show Calls Tryz.prog 40 #[.int .u8 (7 : Int)] w _; rotate_left
  intro w; show Calls Tryz.prog 40 #[.int .u8 (8 : Int)] w _; rotate_left
  intro w; show Calls Tryz.prog 40 #[.int .u8 (9 : Int)] w _; rotate_left
  intro w; show Calls Tryz.prog 40 #[.int .u8 (10 : Int)] w _; rotate_left
  intro w; show Calls Tryz.prog 40 #[.int .u8 (11 : Int)] w _; rotate_left
  intro w; show Calls Tryz.prog 40 #[.int .u8 (12 : Int)] w _; rotate_left
  intro w; show Calls Tryz.prog 40 #[.int .u8 (13 : Int)] w _; rotate_left
  intro w; show Calls Tryz.prog 40 #[.int .u8 (14 : Int)] w _; rotate_left
  intro w; show Calls Tryz.prog 40 #[.int .u8 (15 : Int)] w _; rotate_left
  intro w; show Calls Tryz.prog 40 #[.int .u8 (16 : Int)] w _; rotate_left
  intro w; show Calls Tryz.prog 40 #[.int .u8 (17 : Int)] w _; rotate_left
  intro w; show Calls Tryz.prog 40 #[.int .u8 (18 : Int)] w _; rotate_left
  intro w; show Calls Tryz.prog 40 #[.int .u8 (19 : Int)] w _; rotate_left
  intro w; show Calls Tryz.prog 40 #[.int .u8 (20 : Int)] w _; rotate_left
  intro w; show Calls Tryz.prog 40 #[.int .u8 (21 : Int)] w _; rotate_left
  intro w; show Calls Tryz.prog 40 #[.int .u8 (22 : Int)] w _; rotate_left
  intro w; show Calls Tryz.prog 40 #[.int .u8 (23 : Int)] w _; rotate_left
  intro w; show Calls Tryz.prog 40 #[.int .u8 (24 : Int)] w _; rotate_left
  intro w; show Calls Tryz.prog 40 #[.int .u8 (25 : Int)] w _; rotate_left
  intro w; show Calls Tryz.prog 40 #[.int .u8 (26 : Int)] w _; rotate_left
  intro w; show Calls Tryz.prog 40 #[.int .u8 (27 : Int)] w _; rotate_left
  intro w; show Calls Tryz.prog 40 #[.int .u8 (28 : Int)] w _; rotate_left
  intro w; show Calls Tryz.prog 40 #[.int .u8 (29 : Int)] w _; rotate_left
  intro w; show Calls Tryz.prog 40 #[.int .u8 (30 : Int)] w _; rotate_left
  intro w; show Calls Tryz.prog 40 #[.int .u8 (31 : Int)] w _; rotate_left
  intro w; show Calls Tryz.prog 40 #[.int .u8 (32 : Int)] w _; rotate_left
  intro w; show Calls Tryz.prog 40 #[.int .u8 (33 : Int)] w _; rotate_left
  all_goals
    go_enter Tryz.func40, Tryz.ntmps40
    go_wp2
    go_ret2
    exact ⟨rfl, rfl⟩
theorem refWide_any (op : Nat) (w : World) (ho : op < 34) : Calls Tryz.prog 40 #[.int .u8 (op : Int)] w fun e w' => e = .returned (.tuple #[.int .i64 (wA op : Int), .int .i64 (wB op : Int)]) ∧ w' = w := refWide_all op ho w

set_option maxHeartbeats 1000000 in
theorem refSize_any (op : Nat) (w : World) : Calls Tryz.prog 19 #[.int .u8 (op : Int)] w fun e w' => e = .returned (.int .i64 (sizeD op : Int)) ∧ w' = w := by
  by_cases h : op < 34
  · have HR : Hid (sizeD op = 1 + wA op + wB op) := hide (by unfold sizeD; rw [if_pos h])
    have l1 := wA_le op h
    have l2 := wB_le op h
    have C := hide (refWide_any op w h)
    generalize wA op = a at l1 HR C
    generalize wB op = b at l2 HR C
    have d1 : decide ((34 : Int) ≤ ((op : Nat) : Int)) = false := decide_eq_false (by omega)
    clear h
    go_enter Tryz.func19, Tryz.ntmps19
    go_wp2_with fail
    with_reducible refine (unhide C).mono ?_
    rintro e w1 ⟨rfl, rfl⟩
    clear C
    go_wp2
    go_ret
    exact ⟨ret_int (by rw [unhide HR]; omega), rfl⟩
  · have HR : Hid (sizeD op = 0) := hide (by unfold sizeD; rw [if_neg h])
    have d1 : decide ((34 : Int) ≤ ((op : Nat) : Int)) = true := decide_eq_true (by omega)
    clear h
    go_enter Tryz.func19, Tryz.ntmps19
    go_wp2
    go_ret
    exact ⟨ret_int (by rw [unhide HR]; rfl), rfl⟩

def fitD (n : Int) (k : Nat) : Bool := if k = 0 then decide (n = 0) else if k = 1 then decide (0 ≤ n) && decide (n ≤ 255) else if k = 2 then decide (0 ≤ n) && decide (n ≤ 65535) else decide (-2147483648 ≤ n) && decide (n ≤ 2147483647)
def loA (op : Nat) : Int := if op = 1 then -2147483648 else 0
def hiA (op : Nat) : Int := if op = 2 then 1 else if wA op = 0 then 0 else if wA op = 1 then 255 else if wA op = 2 then 65535 else 2147483647
def hiB (op : Nat) : Int := if wB op = 0 then 0 else 255
def inD (op : Nat) (a b : Int) : Bool := decide (loA op ≤ a) && decide (a ≤ hiA op) && (decide (0 ≤ b) && decide (b ≤ hiB op))

end Go.Proofs.YtkodmpcnndbngaaGreatDoor
