/-
  Contracts, by plain functions over any byte: provisoref04's wide, Size, Jumps, Ends and fits; code's Jumps, Ends, span.has, spans and inSpans. Conditions: of wide and spans that the byte is an instruction.
-/
import Derived.Test.YthdgbdjagjagpaaGreatDoorIn
import Derived.Handy
namespace Go.Proofs.YthdgbdjagjagpaaGreatDoor
open Go.RowKit
set_option maxRecDepth 20000

macro "belows" : tactic => `(tactic| (repeat first | exact Below.refl _ _ | (refine belowD ?_ _) | (refine Below.alloc ?_ (by simp <;> omega) _)))

theorem cases34 {p : Nat → Prop} (h0 : p 0) (h1 : p 1) (h2 : p 2) (h3 : p 3) (h4 : p 4) (h5 : p 5) (h6 : p 6) (h7 : p 7) (h8 : p 8) (h9 : p 9) (h10 : p 10) (h11 : p 11) (h12 : p 12) (h13 : p 13) (h14 : p 14) (h15 : p 15) (h16 : p 16) (h17 : p 17) (h18 : p 18) (h19 : p 19) (h20 : p 20) (h21 : p 21) (h22 : p 22) (h23 : p 23) (h24 : p 24) (h25 : p 25) (h26 : p 26) (h27 : p 27) (h28 : p 28) (h29 : p 29) (h30 : p 30) (h31 : p 31) (h32 : p 32) (h33 : p 33) : ∀ i, i < 34 → p i := fun i hi => match i, hi with | 0, _ => h0 | 1, _ => h1 | 2, _ => h2 | 3, _ => h3 | 4, _ => h4 | 5, _ => h5 | 6, _ => h6 | 7, _ => h7 | 8, _ => h8 | 9, _ => h9 | 10, _ => h10 | 11, _ => h11 | 12, _ => h12 | 13, _ => h13 | 14, _ => h14 | 15, _ => h15 | 16, _ => h16 | 17, _ => h17 | 18, _ => h18 | 19, _ => h19 | 20, _ => h20 | 21, _ => h21 | 22, _ => h22 | 23, _ => h23 | 24, _ => h24 | 25, _ => h25 | 26, _ => h26 | 27, _ => h27 | 28, _ => h28 | 29, _ => h29 | 30, _ => h30 | 31, _ => h31 | 32, _ => h32 | 33, _ => h33 | n + 34, h => absurd h (by omega)

set_option maxHeartbeats 2000000 in
theorem refWide_all : ∀ op : Nat, op < 34 → ∀ w : World, Calls Tryz.prog 87 #[.int .u8 (op : Int)] w fun e w' => e = .returned (.tuple #[.int .i64 (wA op : Int), .int .i64 (wB op : Int)]) ∧ w' = w := by
  refine cases34 ?_ ?_ ?_ ?_ ?_ ?_ ?_ ?_ ?_ ?_ ?_ ?_ ?_ ?_ ?_ ?_ ?_ ?_ ?_ ?_ ?_ ?_ ?_ ?_ ?_ ?_ ?_ ?_ ?_ ?_ ?_ ?_ ?_ ?_
  intro w; show Calls Tryz.prog 87 #[.int .u8 (0 : Int)] w _; rotate_left
  intro w; show Calls Tryz.prog 87 #[.int .u8 (1 : Int)] w _; rotate_left
  intro w; show Calls Tryz.prog 87 #[.int .u8 (2 : Int)] w _; rotate_left
  intro w; show Calls Tryz.prog 87 #[.int .u8 (3 : Int)] w _; rotate_left
  intro w; show Calls Tryz.prog 87 #[.int .u8 (4 : Int)] w _; rotate_left
  intro w; show Calls Tryz.prog 87 #[.int .u8 (5 : Int)] w _; rotate_left
  intro w; show Calls Tryz.prog 87 #[.int .u8 (6 : Int)] w _; rotate_left
  intro w; show Calls Tryz.prog 87 #[.int .u8 (7 : Int)] w _; rotate_left
  intro w; show Calls Tryz.prog 87 #[.int .u8 (8 : Int)] w _; rotate_left
  intro w; show Calls Tryz.prog 87 #[.int .u8 (9 : Int)] w _; rotate_left
  intro w; show Calls Tryz.prog 87 #[.int .u8 (10 : Int)] w _; rotate_left
  intro w; show Calls Tryz.prog 87 #[.int .u8 (11 : Int)] w _; rotate_left
  intro w; show Calls Tryz.prog 87 #[.int .u8 (12 : Int)] w _; rotate_left
  intro w; show Calls Tryz.prog 87 #[.int .u8 (13 : Int)] w _; rotate_left
  intro w; show Calls Tryz.prog 87 #[.int .u8 (14 : Int)] w _; rotate_left
  intro w; show Calls Tryz.prog 87 #[.int .u8 (15 : Int)] w _; rotate_left
  intro w; show Calls Tryz.prog 87 #[.int .u8 (16 : Int)] w _; rotate_left
  intro w; show Calls Tryz.prog 87 #[.int .u8 (17 : Int)] w _; rotate_left
  intro w; show Calls Tryz.prog 87 #[.int .u8 (18 : Int)] w _; rotate_left
  intro w; show Calls Tryz.prog 87 #[.int .u8 (19 : Int)] w _; rotate_left
  intro w; show Calls Tryz.prog 87 #[.int .u8 (20 : Int)] w _; rotate_left
  intro w; show Calls Tryz.prog 87 #[.int .u8 (21 : Int)] w _; rotate_left
  intro w; show Calls Tryz.prog 87 #[.int .u8 (22 : Int)] w _; rotate_left
  intro w; show Calls Tryz.prog 87 #[.int .u8 (23 : Int)] w _; rotate_left
  intro w; show Calls Tryz.prog 87 #[.int .u8 (24 : Int)] w _; rotate_left
  intro w; show Calls Tryz.prog 87 #[.int .u8 (25 : Int)] w _; rotate_left
  intro w; show Calls Tryz.prog 87 #[.int .u8 (26 : Int)] w _; rotate_left
  intro w; show Calls Tryz.prog 87 #[.int .u8 (27 : Int)] w _; rotate_left
  intro w; show Calls Tryz.prog 87 #[.int .u8 (28 : Int)] w _; rotate_left
  intro w; show Calls Tryz.prog 87 #[.int .u8 (29 : Int)] w _; rotate_left
  intro w; show Calls Tryz.prog 87 #[.int .u8 (30 : Int)] w _; rotate_left
  intro w; show Calls Tryz.prog 87 #[.int .u8 (31 : Int)] w _; rotate_left
  intro w; show Calls Tryz.prog 87 #[.int .u8 (32 : Int)] w _; rotate_left
  intro w; show Calls Tryz.prog 87 #[.int .u8 (33 : Int)] w _; rotate_left
  all_goals
    go_enter Tryz.func87, Tryz.ntmps87
    go_wp2
    go_ret2
    exact ⟨rfl, rfl⟩
theorem refWide_any (op : Nat) (w : World) (ho : op < 34) : Calls Tryz.prog 87 #[.int .u8 (op : Int)] w fun e w' => e = .returned (.tuple #[.int .i64 (wA op : Int), .int .i64 (wB op : Int)]) ∧ w' = w := refWide_all op ho w

set_option maxHeartbeats 1000000 in
theorem refSize_any (op : Nat) (w : World) : Calls Tryz.prog 71 #[.int .u8 (op : Int)] w fun e w' => e = .returned (.int .i64 (sizeD op : Int)) ∧ w' = w := by
  by_cases h : op < 34
  · have HR : Hid (sizeD op = 1 + wA op + wB op) := hide (by unfold sizeD; rw [if_pos h])
    have l1 := wA_le op h
    have l2 := wB_le op h
    have C := hide (refWide_any op w h)
    generalize wA op = a at l1 HR C
    generalize wB op = b at l2 HR C
    have d1 : decide ((34 : Int) ≤ ((op : Nat) : Int)) = false := decide_eq_false (by omega)
    clear h
    go_enter Tryz.func71, Tryz.ntmps71
    go_wp2_with fail
    with_reducible refine (unhide C).mono ?_
    rintro e w1 ⟨rfl, rfl⟩
    clear C
    go_wp2
    go_ret
    exact ⟨ret_int (by rw [unhide HR]; omega), rfl⟩
  · have HR : Hid (sizeD op = 0) := hide (by unfold sizeD; rw [if_neg h])
    have d1 : decide ((34 : Int) ≤ ((op : Nat) : Int)) = true := decide_eq_true (by omega)
    clear h
    go_enter Tryz.func71, Tryz.ntmps71
    go_wp2
    go_ret
    exact ⟨ret_int (by rw [unhide HR]; rfl), rfl⟩

theorem Jumps_any (op : Nat) (w : World) : Calls Tryz.prog 48 #[.int .u8 (op : Int)] w fun e w' => e = .returned (.bool (decide (op = 19) || decide (op = 20))) ∧ w' = w := by
  by_cases h19 : op = 19
  · subst h19
    go_enter Tryz.func48, Tryz.ntmps48
    go_wp2
    go_ret
    exact ⟨rfl, rfl⟩
  by_cases h20 : op = 20
  · subst h20
    go_enter Tryz.func48, Tryz.ntmps48
    go_wp2
    go_ret
    exact ⟨rfl, rfl⟩
  have e19 : (((op : Nat) : Int) == 19) = false := beq_f (by omega)
  have e20 : (((op : Nat) : Int) == 20) = false := beq_f (by omega)
  have HR : Hid ((decide (op = 19) || decide (op = 20)) = false) := hide (by simp [h19, h20])
  clear h19 h20
  go_enter Tryz.func48, Tryz.ntmps48
  go_wp2
  go_ret
  exact ⟨ret_bool (unhide HR).symm, rfl⟩

theorem refJumps_any (op : Nat) (w : World) : Calls Tryz.prog 35 #[.int .u8 (op : Int)] w fun e w' => e = .returned (.bool (decide (op = 19) || decide (op = 20))) ∧ w' = w := by
  by_cases h19 : op = 19
  · subst h19
    go_enter Tryz.func35, Tryz.ntmps35
    go_wp2
    go_ret
    exact ⟨rfl, rfl⟩
  by_cases h20 : op = 20
  · subst h20
    go_enter Tryz.func35, Tryz.ntmps35
    go_wp2
    go_ret
    exact ⟨rfl, rfl⟩
  have e19 : (((op : Nat) : Int) == 19) = false := beq_f (by omega)
  have e20 : (((op : Nat) : Int) == 20) = false := beq_f (by omega)
  have HR : Hid ((decide (op = 19) || decide (op = 20)) = false) := hide (by simp [h19, h20])
  clear h19 h20
  go_enter Tryz.func35, Tryz.ntmps35
  go_wp2
  go_ret
  exact ⟨ret_bool (unhide HR).symm, rfl⟩

theorem Ends_any (op : Nat) (w : World) : Calls Tryz.prog 61 #[.int .u8 (op : Int)] w fun e w' => e = .returned (.bool (decide (op = 19) || decide (op = 22) || decide (op = 32))) ∧ w' = w := by
  by_cases h19 : op = 19
  · subst h19
    go_enter Tryz.func61, Tryz.ntmps61
    go_wp2
    go_ret
    exact ⟨rfl, rfl⟩
  by_cases h22 : op = 22
  · subst h22
    go_enter Tryz.func61, Tryz.ntmps61
    go_wp2
    go_ret
    exact ⟨rfl, rfl⟩
  by_cases h32 : op = 32
  · subst h32
    go_enter Tryz.func61, Tryz.ntmps61
    go_wp2
    go_ret
    exact ⟨rfl, rfl⟩
  have e19 : (((op : Nat) : Int) == 19) = false := beq_f (by omega)
  have e22 : (((op : Nat) : Int) == 22) = false := beq_f (by omega)
  have e32 : (((op : Nat) : Int) == 32) = false := beq_f (by omega)
  have HR : Hid ((decide (op = 19) || decide (op = 22) || decide (op = 32)) = false) := hide (by simp [h19, h22, h32])
  clear h19 h22 h32
  go_enter Tryz.func61, Tryz.ntmps61
  go_wp2
  go_ret
  exact ⟨ret_bool (unhide HR).symm, rfl⟩

def fitD (n : Int) (k : Nat) : Bool := if k = 0 then decide (n = 0) else if k = 1 then decide (0 ≤ n) && decide (n ≤ 255) else if k = 2 then decide (0 ≤ n) && decide (n ≤ 65535) else decide (-2147483648 ≤ n) && decide (n ≤ 2147483647)
def loA (op : Nat) : Int := if op = 1 then -2147483648 else 0
def hiA (op : Nat) : Int := if op = 2 then 1 else if wA op = 0 then 0 else if wA op = 1 then 255 else if wA op = 2 then 65535 else 2147483647
def hiB (op : Nat) : Int := if wB op = 0 then 0 else 255
def inD (op : Nat) (a b : Int) : Bool := decide (loA op ≤ a) && decide (a ≤ hiA op) && (decide (0 ≤ b) && decide (b ≤ hiB op))

theorem spanHas_any (lo hi n : Int) (w : World) : Calls Tryz.prog 108 #[.agg #[.int .i64 lo, .int .i64 hi], .int .i64 n] w fun e w' => e = .returned (.bool (decide (lo ≤ n) && decide (n ≤ hi))) ∧ w' = w.alloc (.cells #[.int .i64 lo, .int .i64 hi] 157) := by
  by_cases h : lo ≤ n
  · have d1 : decide (lo ≤ n) = true := decide_eq_true h
    go_enter Tryz.func108, Tryz.ntmps108
    go_wp2
    go_ret
    exact ⟨by rw [d1]; rfl, rfl⟩
  · have d1 : decide (lo ≤ n) = false := decide_eq_false h
    clear h
    go_enter Tryz.func108, Tryz.ntmps108
    go_wp2
    go_ret
    exact ⟨by rw [d1]; rfl, rfl⟩

set_option maxHeartbeats 2000000 in
theorem spans_all : ∀ op : Nat, op < 34 → ∀ w : World, Calls Tryz.prog 107 #[.int .u8 (op : Int)] w fun e w' => e = .returned (.tuple #[.agg #[.int .i64 (loA op), .int .i64 (hiA op)], .agg #[.int .i64 0, .int .i64 (hiB op)]]) ∧ w' = ((w.alloc (.cells #[.int .i64 (loA op), .int .i64 (hiA op)] 157)).alloc (.cells #[.int .i64 0, .int .i64 (hiB op)] 157)).drew := by
  refine cases34 ?_ ?_ ?_ ?_ ?_ ?_ ?_ ?_ ?_ ?_ ?_ ?_ ?_ ?_ ?_ ?_ ?_ ?_ ?_ ?_ ?_ ?_ ?_ ?_ ?_ ?_ ?_ ?_ ?_ ?_ ?_ ?_ ?_ ?_
  intro w; show Calls Tryz.prog 107 #[.int .u8 (0 : Int)] w _; rotate_left
  intro w; show Calls Tryz.prog 107 #[.int .u8 (1 : Int)] w _; rotate_left
  intro w; show Calls Tryz.prog 107 #[.int .u8 (2 : Int)] w _; rotate_left
  intro w; show Calls Tryz.prog 107 #[.int .u8 (3 : Int)] w _; rotate_left
  intro w; show Calls Tryz.prog 107 #[.int .u8 (4 : Int)] w _; rotate_left
  intro w; show Calls Tryz.prog 107 #[.int .u8 (5 : Int)] w _; rotate_left
  intro w; show Calls Tryz.prog 107 #[.int .u8 (6 : Int)] w _; rotate_left
  intro w; show Calls Tryz.prog 107 #[.int .u8 (7 : Int)] w _; rotate_left
  intro w; show Calls Tryz.prog 107 #[.int .u8 (8 : Int)] w _; rotate_left
  intro w; show Calls Tryz.prog 107 #[.int .u8 (9 : Int)] w _; rotate_left
  intro w; show Calls Tryz.prog 107 #[.int .u8 (10 : Int)] w _; rotate_left
  intro w; show Calls Tryz.prog 107 #[.int .u8 (11 : Int)] w _; rotate_left
  intro w; show Calls Tryz.prog 107 #[.int .u8 (12 : Int)] w _; rotate_left
  intro w; show Calls Tryz.prog 107 #[.int .u8 (13 : Int)] w _; rotate_left
  intro w; show Calls Tryz.prog 107 #[.int .u8 (14 : Int)] w _; rotate_left
  intro w; show Calls Tryz.prog 107 #[.int .u8 (15 : Int)] w _; rotate_left
  intro w; show Calls Tryz.prog 107 #[.int .u8 (16 : Int)] w _; rotate_left
  intro w; show Calls Tryz.prog 107 #[.int .u8 (17 : Int)] w _; rotate_left
  intro w; show Calls Tryz.prog 107 #[.int .u8 (18 : Int)] w _; rotate_left
  intro w; show Calls Tryz.prog 107 #[.int .u8 (19 : Int)] w _; rotate_left
  intro w; show Calls Tryz.prog 107 #[.int .u8 (20 : Int)] w _; rotate_left
  intro w; show Calls Tryz.prog 107 #[.int .u8 (21 : Int)] w _; rotate_left
  intro w; show Calls Tryz.prog 107 #[.int .u8 (22 : Int)] w _; rotate_left
  intro w; show Calls Tryz.prog 107 #[.int .u8 (23 : Int)] w _; rotate_left
  intro w; show Calls Tryz.prog 107 #[.int .u8 (24 : Int)] w _; rotate_left
  intro w; show Calls Tryz.prog 107 #[.int .u8 (25 : Int)] w _; rotate_left
  intro w; show Calls Tryz.prog 107 #[.int .u8 (26 : Int)] w _; rotate_left
  intro w; show Calls Tryz.prog 107 #[.int .u8 (27 : Int)] w _; rotate_left
  intro w; show Calls Tryz.prog 107 #[.int .u8 (28 : Int)] w _; rotate_left
  intro w; show Calls Tryz.prog 107 #[.int .u8 (29 : Int)] w _; rotate_left
  intro w; show Calls Tryz.prog 107 #[.int .u8 (30 : Int)] w _; rotate_left
  intro w; show Calls Tryz.prog 107 #[.int .u8 (31 : Int)] w _; rotate_left
  intro w; show Calls Tryz.prog 107 #[.int .u8 (32 : Int)] w _; rotate_left
  intro w; show Calls Tryz.prog 107 #[.int .u8 (33 : Int)] w _; rotate_left
  all_goals
    go_enter Tryz.func107, Tryz.ntmps107
    go_wp2
    go_region
    go_wp2
    go_returns
    exact ⟨rfl, rfl⟩

set_option maxHeartbeats 1000000 in
theorem inSpans_any (p : Int) (op : Nat) (a b : Int) (w : World) (ho : op < 34) : Calls Tryz.prog 84 #[.agg #[.int .i64 p, .int .u8 (op : Int), .int .i64 a, .int .i64 b]] w fun e w' => e = .returned (.bool (inD op a b)) ∧ Below w.heap.size w w' := by
  have C : Hid _ := hide (spans_all op ho)
  unfold inD
  generalize loA op = lo at C
  generalize hiA op = hi at C
  generalize hiB op = hb at C
  clear ho
  go_enter Tryz.func84, Tryz.ntmps84
  go_wp2_with fail
  with_reducible refine (unhide C _).mono ?_
  rintro e w1 ⟨rfl, rfl⟩
  clear C
  go_wp2_with fail
  with_reducible refine (spanHas_any lo hi a _).mono ?_
  rintro e w2 ⟨rfl, rfl⟩
  by_cases h : (decide (lo ≤ a) && decide (a ≤ hi)) = true
  · rw [h]
    go_wp2_with fail
    with_reducible refine (spanHas_any 0 hb b _).mono ?_
    rintro e w3 ⟨rfl, rfl⟩
    go_wp2
    go_ret
    exact ⟨ret_bool (by rw [h]; rfl), by go_grown⟩
  · have h' : (decide (lo ≤ a) && decide (a ≤ hi)) = false := by simpa only [Bool.not_eq_true] using h
    rw [h']
    clear h
    go_wp2
    go_ret
    exact ⟨ret_bool (by rw [h']; rfl), by go_grown⟩
end Go.Proofs.YthdgbdjagjagpaaGreatDoor
