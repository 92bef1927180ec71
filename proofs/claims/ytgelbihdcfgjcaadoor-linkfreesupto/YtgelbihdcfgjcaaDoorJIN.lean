/-
  Texts of contracts and plain lemmas, one behind another; each says at its head what it holds.
-/
import Derived.Test.YtgelbihdcfgjcaaDoorMem
import Derived.Deep.MidRow
import Derived.Handy
import Derived.Laws.CopyOwn
import Derived.Test.YtgelbihdcfgjcaaDoorApp
import Derived.Laws.Tables
import Derived.Laws.ResultCell
import Derived.Deep.WholeRow
import Derived.Deep.RegionHeld
/-
  The instructions' widths and words, plainly, and how the package's variables hold them; contracts of code.isOp, Size and Name and of provisoref04's wide, Size, Jumps and Ends. Conditions: the variables lie there.
-/
namespace Go.Proofs.YtgelbihdcfgjcaaDoor
open Go.RowKit
set_option maxRecDepth 20000

def wA (op : Nat) : Nat := ([0, 4, 1, 0, 1, 1, 0, 0, 0, 0, 0, 0, 0, 0, 0, 0, 0, 0, 0, 2, 2, 1, 0, 1, 1, 1, 0, 0, 0, 0, 1, 1, 1, 0] : List Nat).getD op 0
def wB (op : Nat) : Nat := ([0, 0, 0, 0, 0, 0, 0, 0, 0, 0, 0, 0, 0, 0, 0, 0, 0, 0, 0, 0, 0, 0, 0, 0, 1, 1, 0, 0, 0, 0, 0, 0, 0, 0] : List Nat).getD op 0
theorem below34 {p : Nat → Prop} (h : ∀ i : Fin 34, p i.val) : ∀ i, i < 34 → p i := fun i hi => h ⟨i, hi⟩
theorem wA_le : ∀ op, op < 34 → wA op ≤ 4 := below34 (by decide)
theorem wB_le : ∀ op, op < 34 → wB op ≤ 1 := below34 (by decide)
def sizeD (op : Nat) : Nat := if op < 34 then 1 + wA op + wB op else 0

/-- The variable holds the widths. -/
def WidAt (W : World) : Prop := ∀ op, op < 34 → W.cell? ⟨0, op * 2, none⟩ = some (.int .i64 (wA op : Int)) ∧ W.cell? ⟨0, op * 2 + 1, none⟩ = some (.int .i64 (wB op : Int))
theorem WidAt.below {W W' : World} (h : WidAt W) (hb : Below W.heap.size W W') : WidAt W' := fun op ho => by
  have h1 := h op ho
  have hl := World.block_lt_of_cell? W _ h1.1
  exact ⟨(hb.cell (p := ⟨0, op * 2, none⟩) hl).trans h1.1, (hb.cell (p := ⟨0, op * 2 + 1, none⟩) hl).trans h1.2⟩
theorem WidAt.drewN {W : World} (h : WidAt W) (k : Nat) : WidAt (W.drewN k) := h

theorem isOp_any (op : Nat) (w : World) : Calls Tryd.prog 36 #[.int .u8 (op : Int)] w fun e w' => e = .returned (.bool (decide (op < 34))) ∧ w' = w := by
  have e : decide ((op : Int) < 34) = decide (op < 34) := by rw [decide_eq_decide]; omega
  have E := hide e
  clear e
  go_enter Tryd.func36, Tryd.ntmps36
  go_wp2
  go_ret
  exact ⟨ret_bool (unhide E), rfl⟩

set_option maxHeartbeats 1000000 in
theorem Size_any (op : Nat) (w : World) (hW : WidAt w) (ho : op < 256) : Calls Tryd.prog 37 #[.int .u8 (op : Int)] w fun e w' => e = .returned (.int .i64 (sizeD op : Int)) ∧ ∃ k, w' = w.drewN k := by
  have HW := hide hW
  clear hW
  by_cases h : op < 34
  · have HR : Hid (sizeD op = 1 + wA op + wB op) := hide (by unfold sizeD; rw [if_pos h])
    obtain ⟨c1, c2⟩ := unhide HW op h
    have l1 := wA_le op h
    have l2 := wB_le op h
    generalize wA op = a at c1 l1 HR
    generalize wB op = b at c2 l2 HR
    have i1 : ((op : Nat) : Int) < 34 := by omega
    have i0 : (0 : Int) ≤ ((op : Nat) : Int) := by omega
    have hd : decide (op < 34) = true := decide_eq_true h
    go_enter Tryd.func37, Tryd.ntmps37
    go_wp2_with fail
    refine (isOp_any op _).mono ?_
    rintro e w1 ⟨rfl, rfl⟩
    rw [hd]
    clear hd h
    go_wp2
    go_quiet (fail)
    go_wp2
    go_ret
    exact ⟨ret_int (by rw [unhide HR]; omega), _, rfl⟩
  · have HR : Hid (sizeD op = 0) := hide (by unfold sizeD; rw [if_neg h])
    have hd : decide (op < 34) = false := decide_eq_false h
    go_enter Tryd.func37, Tryd.ntmps37
    go_wp2_with fail
    refine (isOp_any op _).mono ?_
    rintro e w1 ⟨rfl, rfl⟩
    rw [hd]
    go_wp2
    go_ret
    exact ⟨ret_int (by rw [unhide HR]; rfl), 0, rfl⟩
end Go.Proofs.YtgelbihdcfgjcaaDoor

/-
  Contracts, by plain functions over any byte: provisoref04's wide, Size, Jumps, Ends and fits; code's Jumps, Ends, span.has, spans and inSpans. Conditions: of wide and spans that the byte is an instruction.
-/
namespace Go.Proofs.YtgelbihdcfgjcaaDoor
open Go.RowKit
set_option maxRecDepth 20000

macro "belows" : tactic => `(tactic| (repeat first | exact Below.refl _ _ | (refine belowD ?_ _) | (refine Below.alloc ?_ (by simp <;> omega) _)))

theorem cases34 {p : Nat → Prop} (h0 : p 0) (h1 : p 1) (h2 : p 2) (h3 : p 3) (h4 : p 4) (h5 : p 5) (h6 : p 6) (h7 : p 7) (h8 : p 8) (h9 : p 9) (h10 : p 10) (h11 : p 11) (h12 : p 12) (h13 : p 13) (h14 : p 14) (h15 : p 15) (h16 : p 16) (h17 : p 17) (h18 : p 18) (h19 : p 19) (h20 : p 20) (h21 : p 21) (h22 : p 22) (h23 : p 23) (h24 : p 24) (h25 : p 25) (h26 : p 26) (h27 : p 27) (h28 : p 28) (h29 : p 29) (h30 : p 30) (h31 : p 31) (h32 : p 32) (h33 : p 33) : ∀ i, i < 34 → p i := fun i hi => match i, hi with | 0, _ => h0 | 1, _ => h1 | 2, _ => h2 | 3, _ => h3 | 4, _ => h4 | 5, _ => h5 | 6, _ => h6 | 7, _ => h7 | 8, _ => h8 | 9, _ => h9 | 10, _ => h10 | 11, _ => h11 | 12, _ => h12 | 13, _ => h13 | 14, _ => h14 | 15, _ => h15 | 16, _ => h16 | 17, _ => h17 | 18, _ => h18 | 19, _ => h19 | 20, _ => h20 | 21, _ => h21 | 22, _ => h22 | 23, _ => h23 | 24, _ => h24 | 25, _ => h25 | 26, _ => h26 | 27, _ => h27 | 28, _ => h28 | 29, _ => h29 | 30, _ => h30 | 31, _ => h31 | 32, _ => h32 | 33, _ => h33 | n + 34, h => absurd h (by omega)

set_option maxHeartbeats 2000000 in
theorem refWide_all : ∀ op : Nat, op < 34 → ∀ w : World, Calls Tryd.prog 51 #[.int .u8 (op : Int)] w fun e w' => e = .returned (.tuple #[.int .i64 (wA op : Int), .int .i64 (wB op : Int)]) ∧ w' = w := by
  refine cases34 ?_ ?_ ?_ ?_ ?_ ?_ ?_ ?_ ?_ ?_ ?_ ?_ ?_ ?_ ?_ ?_ ?_ ?_ ?_ ?_ ?_ ?_ ?_ ?_ ?_ ?_ ?_ ?_ ?_ ?_ ?_ ?_ ?_ ?_
  intro w; show Calls Tryd.prog 51 #[.int .u8 (0 : Int)] w _; rotate_left
  intro w; show Calls Tryd.prog 51 #[.int .u8 (1 : Int)] w _; rotate_left
  intro w; show Calls Tryd.prog 51 #[.int .u8 (2 : Int)] w _; rotate_left
  intro w; show Calls Tryd.prog 51 #[.int .u8 (3 : Int)] w _; rotate_left
  intro w; show Calls Tryd.prog 51 #[.int .u8 (4 : Int)] w _; rotate_left
  intro w; show Calls Tryd.prog 51 #[.int .u8 (5 : Int)] w _; rotate_left
  intro w; show Calls Tryd.prog 51 #[.int .u8 (6 : Int)] w _; rotate_left
  intro w; show Calls Tryd.prog 51 #[.int .u8 (7 : Int)] w _; rotate_left
  intro w; show Calls Tryd.prog 51 #[.int .u8 (8 : Int)] w _; rotate_left
  intro w; show Calls Tryd.prog 51 #[.int .u8 (9 : Int)] w _; rotate_left
  intro w; show Calls Tryd.prog 51 #[.int .u8 (10 : Int)] w _; rotate_left
  intro w; show Calls Tryd.prog 51 #[.int .u8 (11 : Int)] w _; rotate_left
  intro w; show Calls Tryd.prog 51 #[.int .u8 (12 : Int)] w _; rotate_left
  intro w; show Calls Tryd.prog 51 #[.int .u8 (13 : Int)] w _; rotate_left
  intro w; show Calls Tryd.prog 51 #[.int .u8 (14 : Int)] w _; rotate_left
  intro w; show Calls Tryd.prog 51 #[.int .u8 (15 : Int)] w _; rotate_left
  intro w; show Calls Tryd.prog 51 #[.int .u8 (16 : Int)] w _; rotate_left
  intro w; show Calls Tryd.prog 51 #[.int .u8 (17 : Int)] w _; rotate_left
  intro w; show Calls Tryd.prog 51 #[.int .u8 (18 : Int)] w _; rotate_left
  intro w; show Calls Tryd.prog 51 #[.int .u8 (19 : Int)] w _; rotate_left
  intro w; show Calls Tryd.prog 51 #[.int .u8 (20 : Int)] w _; rotate_left
  intro w; show Calls Tryd.prog 51 #[.int .u8 (21 : Int)] w _; rotate_left
  intro w; show Calls Tryd.prog 51 #[.int .u8 (22 : Int)] w _; rotate_left
  intro w; show Calls Tryd.prog 51 #[.int .u8 (23 : Int)] w _; rotate_left
  intro w; show Calls Tryd.prog 51 #[.int .u8 (24 : Int)] w _; rotate_left
  intro w; show Calls Tryd.prog 51 #[.int .u8 (25 : Int)] w _; rotate_left
  intro w; show Calls Tryd.prog 51 #[.int .u8 (26 : Int)] w _; rotate_left
  intro w; show Calls Tryd.prog 51 #[.int .u8 (27 : Int)] w _; rotate_left
  intro w; show Calls Tryd.prog 51 #[.int .u8 (28 : Int)] w _; rotate_left
  intro w; show Calls Tryd.prog 51 #[.int .u8 (29 : Int)] w _; rotate_left
  intro w; show Calls Tryd.prog 51 #[.int .u8 (30 : Int)] w _; rotate_left
  intro w; show Calls Tryd.prog 51 #[.int .u8 (31 : Int)] w _; rotate_left
  intro w; show Calls Tryd.prog 51 #[.int .u8 (32 : Int)] w _; rotate_left
  intro w; show Calls Tryd.prog 51 #[.int .u8 (33 : Int)] w _; rotate_left
  all_goals
    go_enter Tryd.func51, Tryd.ntmps51
    go_wp2
    go_ret2
    exact ⟨rfl, rfl⟩
theorem refWide_any (op : Nat) (w : World) (ho : op < 34) : Calls Tryd.prog 51 #[.int .u8 (op : Int)] w fun e w' => e = .returned (.tuple #[.int .i64 (wA op : Int), .int .i64 (wB op : Int)]) ∧ w' = w := refWide_all op ho w

set_option maxHeartbeats 1000000 in
theorem refSize_any (op : Nat) (w : World) : Calls Tryd.prog 34 #[.int .u8 (op : Int)] w fun e w' => e = .returned (.int .i64 (sizeD op : Int)) ∧ w' = w := by
  by_cases h : op < 34
  · have HR : Hid (sizeD op = 1 + wA op + wB op) := hide (by unfold sizeD; rw [if_pos h])
    have l1 := wA_le op h
    have l2 := wB_le op h
    have C := hide (refWide_any op w h)
    generalize wA op = a at l1 HR C
    generalize wB op = b at l2 HR C
    have d1 : decide ((34 : Int) ≤ ((op : Nat) : Int)) = false := decide_eq_false (by omega)
    clear h
    go_enter Tryd.func34, Tryd.ntmps34
    go_wp2_with fail
    with_reducible refine (unhide C).mono ?_
    rintro e w1 ⟨rfl, rfl⟩
    clear C
    go_wp2
    go_ret
    exact ⟨ret_int (by rw [unhide HR]; omega), rfl⟩
  · have HR : Hid (sizeD op = 0) := hide (by unfold sizeD; rw [if_neg h])
    have d1 : decide ((34 : Int) ≤ ((op : Nat) : Int)) = true := decide_eq_true (by omega)
    clear h
    go_enter Tryd.func34, Tryd.ntmps34
    go_wp2
    go_ret
    exact ⟨ret_int (by rw [unhide HR]; rfl), rfl⟩

def fitD (n : Int) (k : Nat) : Bool := if k = 0 then decide (n = 0) else if k = 1 then decide (0 ≤ n) && decide (n ≤ 255) else if k = 2 then decide (0 ≤ n) && decide (n ≤ 65535) else decide (-2147483648 ≤ n) && decide (n ≤ 2147483647)
def loA (op : Nat) : Int := if op = 1 then -2147483648 else 0
def hiA (op : Nat) : Int := if op = 2 then 1 else if wA op = 0 then 0 else if wA op = 1 then 255 else if wA op = 2 then 65535 else 2147483647
def hiB (op : Nat) : Int := if wB op = 0 then 0 else 255
def inD (op : Nat) (a b : Int) : Bool := decide (loA op ≤ a) && decide (a ≤ hiA op) && (decide (0 ≤ b) && decide (b ≤ hiB op))

theorem spanHas_any (lo hi n : Int) (w : World) : Calls Tryd.prog 54 #[.agg #[.int .i64 lo, .int .i64 hi], .int .i64 n] w fun e w' => e = .returned (.bool (decide (lo ≤ n) && decide (n ≤ hi))) ∧ w' = w.alloc (.cells #[.int .i64 lo, .int .i64 hi] 107) := by
  by_cases h : lo ≤ n
  · have d1 : decide (lo ≤ n) = true := decide_eq_true h
    go_enter Tryd.func54, Tryd.ntmps54
    go_wp2
    go_ret
    exact ⟨by rw [d1]; rfl, rfl⟩
  · have d1 : decide (lo ≤ n) = false := decide_eq_false h
    clear h
    go_enter Tryd.func54, Tryd.ntmps54
    go_wp2
    go_ret
    exact ⟨by rw [d1]; rfl, rfl⟩

set_option maxHeartbeats 2000000 in
theorem spans_all : ∀ op : Nat, op < 34 → ∀ w : World, Calls Tryd.prog 53 #[.int .u8 (op : Int)] w fun e w' => e = .returned (.tuple #[.agg #[.int .i64 (loA op), .int .i64 (hiA op)], .agg #[.int .i64 0, .int .i64 (hiB op)]]) ∧ w' = ((w.alloc (.cells #[.int .i64 (loA op), .int .i64 (hiA op)] 107)).alloc (.cells #[.int .i64 0, .int .i64 (hiB op)] 107)).drew := by
  refine cases34 ?_ ?_ ?_ ?_ ?_ ?_ ?_ ?_ ?_ ?_ ?_ ?_ ?_ ?_ ?_ ?_ ?_ ?_ ?_ ?_ ?_ ?_ ?_ ?_ ?_ ?_ ?_ ?_ ?_ ?_ ?_ ?_ ?_ ?_
  intro w; show Calls Tryd.prog 53 #[.int .u8 (0 : Int)] w _; rotate_left
  intro w; show Calls Tryd.prog 53 #[.int .u8 (1 : Int)] w _; rotate_left
  intro w; show Calls Tryd.prog 53 #[.int .u8 (2 : Int)] w _; rotate_left
  intro w; show Calls Tryd.prog 53 #[.int .u8 (3 : Int)] w _; rotate_left
  intro w; show Calls Tryd.prog 53 #[.int .u8 (4 : Int)] w _; rotate_left
  intro w; show Calls Tryd.prog 53 #[.int .u8 (5 : Int)] w _; rotate_left
  intro w; show Calls Tryd.prog 53 #[.int .u8 (6 : Int)] w _; rotate_left
  intro w; show Calls Tryd.prog 53 #[.int .u8 (7 : Int)] w _; rotate_left
  intro w; show Calls Tryd.prog 53 #[.int .u8 (8 : Int)] w _; rotate_left
  intro w; show Calls Tryd.prog 53 #[.int .u8 (9 : Int)] w _; rotate_left
  intro w; show Calls Tryd.prog 53 #[.int .u8 (10 : Int)] w _; rotate_left
  intro w; show Calls Tryd.prog 53 #[.int .u8 (11 : Int)] w _; rotate_left
  intro w; show Calls Tryd.prog 53 #[.int .u8 (12 : Int)] w _; rotate_left
  intro w; show Calls Tryd.prog 53 #[.int .u8 (13 : Int)] w _; rotate_left
  intro w; show Calls Tryd.prog 53 #[.int .u8 (14 : Int)] w _; rotate_left
  intro w; show Calls Tryd.prog 53 #[.int .u8 (15 : Int)] w _; rotate_left
  intro w; show Calls Tryd.prog 53 #[.int .u8 (16 : Int)] w _; rotate_left
  intro w; show Calls Tryd.prog 53 #[.int .u8 (17 : Int)] w _; rotate_left
  intro w; show Calls Tryd.prog 53 #[.int .u8 (18 : Int)] w _; rotate_left
  intro w; show Calls Tryd.prog 53 #[.int .u8 (19 : Int)] w _; rotate_left
  intro w; show Calls Tryd.prog 53 #[.int .u8 (20 : Int)] w _; rotate_left
  intro w; show Calls Tryd.prog 53 #[.int .u8 (21 : Int)] w _; rotate_left
  intro w; show Calls Tryd.prog 53 #[.int .u8 (22 : Int)] w _; rotate_left
  intro w; show Calls Tryd.prog 53 #[.int .u8 (23 : Int)] w _; rotate_left
  intro w; show Calls Tryd.prog 53 #[.int .u8 (24 : Int)] w _; rotate_left
  intro w; show Calls Tryd.prog 53 #[.int .u8 (25 : Int)] w _; rotate_left
  intro w; show Calls Tryd.prog 53 #[.int .u8 (26 : Int)] w _; rotate_left
  intro w; show Calls Tryd.prog 53 #[.int .u8 (27 : Int)] w _; rotate_left
  intro w; show Calls Tryd.prog 53 #[.int .u8 (28 : Int)] w _; rotate_left
  intro w; show Calls Tryd.prog 53 #[.int .u8 (29 : Int)] w _; rotate_left
  intro w; show Calls Tryd.prog 53 #[.int .u8 (30 : Int)] w _; rotate_left
  intro w; show Calls Tryd.prog 53 #[.int .u8 (31 : Int)] w _; rotate_left
  intro w; show Calls Tryd.prog 53 #[.int .u8 (32 : Int)] w _; rotate_left
  intro w; show Calls Tryd.prog 53 #[.int .u8 (33 : Int)] w _; rotate_left
  all_goals
    go_enter Tryd.func53, Tryd.ntmps53
    go_wp2
    go_region
    go_wp2
    go_returns
    exact ⟨rfl, rfl⟩

set_option maxHeartbeats 1000000 in
theorem inSpans_any (p : Int) (op : Nat) (a b : Int) (w : World) (ho : op < 34) : Calls Tryd.prog 39 #[.agg #[.int .i64 p, .int .u8 (op : Int), .int .i64 a, .int .i64 b]] w fun e w' => e = .returned (.bool (inD op a b)) ∧ Below w.heap.size w w' := by
  have C : Hid _ := hide (spans_all op ho)
  unfold inD
  generalize loA op = lo at C
  generalize hiA op = hi at C
  generalize hiB op = hb at C
  clear ho
  go_enter Tryd.func39, Tryd.ntmps39
  go_wp2_with fail
  with_reducible refine (unhide C _).mono ?_
  rintro e w1 ⟨rfl, rfl⟩
  clear C
  go_wp2_with fail
  with_reducible refine (spanHas_any lo hi a _).mono ?_
  rintro e w2 ⟨rfl, rfl⟩
  by_cases h : (decide (lo ≤ a) && decide (a ≤ hi)) = true
  · rw [h]
    go_wp2_with fail
    with_reducible refine (spanHas_any 0 hb b _).mono ?_
    rintro e w3 ⟨rfl, rfl⟩
    go_wp2
    go_ret
    exact ⟨ret_bool (by rw [h]; rfl), by go_grown⟩
  · have h' : (decide (lo ≤ a) && decide (a ≤ hi)) = false := by simpa only [Bool.not_eq_true] using h
    rw [h']
    clear h
    go_wp2
    go_ret
    exact ⟨ret_bool (by rw [h']; rfl), by go_grown⟩
end Go.Proofs.YtgelbihdcfgjcaaDoor

/-
  A number in so many bytes, plainly; the contracts of code.spread and code.gather, of provisoref04.fits; an instruction in a block of its own; the contract of code.Encode. Conditions: the widths lie there, lengths fit.
  An instruction in a block of its own; the contract of code.Encode. Conditions: the widths lie there, lengths fit.
  Contracts of provisoref04's fits, put and Encode: the same plain functions as of code.Encode. Conditions: lengths fit.
  code's spans and provisoref04's fits say the same; the contract of provisoref04.Encode.
  The contract of provisoref04.take: the number of so many bytes, of four as two's complement. Conditions: the bytes are there.
  What provisoref04's take makes of the bytes of an instruction is what Decode makes of them; they are in their spans but for a bool above 1. No Go in it.
  An instruction's row: stored whole, read back as a result. Conditions: none.
-/
namespace Go.Proofs.YtgelbihdcfgjcaaDoor
open Go.RowKit
set_option maxRecDepth 20000

/-- The byte of a number at a place from its end. -/
def byI (n : Int) (j : Nat) : UInt8 := UInt8.ofNat (n / (256 : Int) ^ j % 256).toNat
theorem byI_eq (n : Int) (j : Nat) : ((byI n j).toNat : Int) = n / (256 : Int) ^ j % 256 := by
  unfold byI
  have h0 : 0 ≤ n / (256 : Int) ^ j % 256 := by omega
  have h1 : n / (256 : Int) ^ j % 256 < 256 := by omega
  rw [UInt8.toNat_ofNat_of_lt' (by show _ < 256; omega)]
  omega
/-- A number in so many bytes, the high one first. -/
def beI (n : Int) (s : Nat) : List UInt8 := (List.range s).map fun i => byI n (s - 1 - i)
theorem beI_length (n : Int) (s : Nat) : (beI n s).length = s := by simp [beI]

/-- The bytes from i on are the number's. -/
def laidI (L : List UInt8) (off s : Nat) (n : Int) (i : Nat) : List UInt8 := L.take (off + i) ++ ((beI n s).drop i ++ L.drop (off + s))

theorem beI_get (n : Int) (s m : Nat) (h : m < s) : (beI n s)[m]? = some (byI n (s - 1 - m)) := by
  unfold beI
  rw [List.getElem?_map, List.getElem?_range h]
  rfl
theorem laidI_step (L : List UInt8) (off s : Nat) (n : Int) (m : Nat) (hm : m < s) (hs : off + s ≤ L.length) :
    (laidI L off s n (m + 1)).set (off + m) (byI n (s - 1 - m)) = laidI L off s n m := by
  have h1 : off + m < L.length := by omega
  have h2 : m < (beI n s).length := by rw [beI_length]; exact hm
  have e1 : L.take (off + (m + 1)) = L.take (off + m) ++ [L[off + m]] := List.take_succ_eq_append_getElem h1
  have e2 : (beI n s).drop m = byI n (s - 1 - m) :: (beI n s).drop (m + 1) := by
    have := beI_get n s m hm
    rw [List.getElem?_eq_getElem h2] at this
    injection this with this
    rw [List.drop_eq_getElem_cons h2, this]
  have hl : (L.take (off + m)).length = off + m := by simp; omega
  unfold laidI
  rw [e1, e2, List.append_assoc, List.set_append_right _ _ (by omega), hl, Nat.sub_self]
  simp
theorem laidI_length (L : List UInt8) (off s : Nat) (n : Int) (i : Nat) (hi : i ≤ s) (hs : off + s ≤ L.length) : (laidI L off s n i).length = L.length := by
  unfold laidI
  simp [beI_length]
  omega
theorem bvals_setI (L : List UInt8) (j : Nat) (x : UInt8) : (bvals L).set j (.int .u8 (x.toNat : Int)) = bvals (L.set j x) := by
  unfold bvals
  rw [List.map_set]
theorem div_stepI (n : Int) (s m : Nat) (h : m < s) : n / 256 ^ (s - (m + 1)) / 256 = n / (256 : Int) ^ (s - m) := by
  rw [show s - m = (s - (m + 1)) + 1 from by omega, Int.pow_succ, Int.ediv_ediv_of_nonneg (Int.pow_nonneg (by omega))]

def beNI (l : List UInt8) : Nat := l.foldl (fun a x => a * 256 + x.toNat) 0
theorem beNI_snoc (l : List UInt8) (x : UInt8) : beNI (l ++ [x]) = beNI l * 256 + x.toNat := by simp [beNI]
theorem beNI_take (l : List UInt8) (k : Nat) (h : k < l.length) : beNI (l.take (k + 1)) = beNI (l.take k) * 256 + (l.getD k 0).toNat := by
  rw [List.take_succ_eq_append_getElem h, beNI_snoc, List.getD_eq_getElem?_getD, List.getElem?_eq_getElem h]; rfl
theorem beNI_lt (l : List UInt8) : beNI l < 256 ^ l.length := by
  suffices ∀ n, n ≤ l.length → beNI (l.take n) < 256 ^ n from by simpa using this l.length (Nat.le_refl _)
  intro n
  induction n with
  | zero => intro _; simp [beNI]
  | succ n ih =>
    intro h
    rw [beNI_take l n (by omega)]
    have h1 := ih (by omega)
    have h2 := (l.getD n 0).toNat_lt
    rw [Nat.pow_succ]
    omega

theorem bits_o32I (a b : Nat) (ha : a < 4294967296) (hb : b < 4294967296) : bits .or .u32 (a : Int) (b : Int) = ((a ||| b : Nat) : Int) := by
  have hx : a ||| b < 2 ^ 32 := Nat.or_lt_two_pow (by omega) (by omega)
  have h1 : (BitVec.ofInt 32 (a : Int)).toNat = a := by
    rw [BitVec.ofInt_natCast, BitVec.toNat_ofNat]; exact Nat.mod_eq_of_lt (by omega)
  have h2 : (BitVec.ofInt 32 (b : Int)).toNat = b := by
    rw [BitVec.ofInt_natCast, BitVec.toNat_ofNat]; exact Nat.mod_eq_of_lt (by omega)
  have hw : ∀ n : Int, IntKind.u32.wrap n = n % 4294967296 := fun n => by simp [IntKind.wrap, IntKind.bits, IntKind.signed]
  show IntKind.u32.wrap ((BitVec.ofInt 32 (a : Int) ||| BitVec.ofInt 32 (b : Int)).toNat : Int) = _
  rw [BitVec.toNat_or, h1, h2, hw]
  omega
theorem or_byteI (C m : Nat) (L : List UInt8) (hC : C < 256 ^ m) (hm : m < 4) : bits .or .u32 ((C : Int) * 256 % 4294967296) (at8 L m) = ((C * 256 + (L.getD m 0).toNat : Nat) : Int) := by
  have h1 : 256 ^ m ≤ 256 ^ 3 := Nat.pow_le_pow_right (by omega) (by omega)
  have h2 : C < 16777216 := by omega
  have h3 : (C : Int) * 256 % 4294967296 = ((C * 256 : Nat) : Int) := by omega
  have h4 := (L.getD m 0).toNat_lt
  have h5 := Nat.two_pow_add_eq_or_of_lt (i := 8) (b := (L.getD m 0).toNat) (by omega) C
  rw [h3]
  unfold at8
  rw [bits_o32I _ _ (by omega) (by omega)]
  rw [show C * 256 = 2 ^ 8 * C from by omega, ← h5]


set_option maxHeartbeats 400000 in
theorem gather_any (ao : Option Addr) (c : Nat) (L : List UInt8) (w : World) (hb : BAt w ao L) (h4 : L.length ≤ 4) :
    Calls Tryd.prog 38 #[.slice ao L.length c] w fun e w' => e = .returned (.int .i64 (beNI L : Int)) ∧ ∃ k, w' = w.drewN k := by
  have HL : Hid (beNI L < 4294967296) := hide (by
    have h1 := beNI_lt L
    have h2 : 256 ^ L.length ≤ 256 ^ 4 := Nat.pow_le_pow_right (by omega) h4
    omega)
  go_enter Tryd.func38, Tryd.ntmps38
  go_wp2
  go_loopw [3, 8] (fun v i wr => ∃ m C : Nat, m ≤ L.length ∧ i = .int .i64 m ∧ v = .int .u32 (C : Int) ∧ C < 256 ^ m ∧ Hid (C = beNI (L.take m)) ∧ ∃ q, wr = w.drewN q) (fun _ i _ => L.length - (intOf i).toNat)
  case atStart => exact ⟨0, 0, by omega, rfl, rfl, by decide, hide rfl, 0, rfl⟩
  case round =>
    obtain ⟨m, C, hm, rfl, rfl, hC, HC, q, rfl⟩ := hrel
    by_cases hlt : m < L.length
    · obtain ⟨b, off, rfl, hc⟩ := hb.head (by omega)
      have c1 := hc m hlt
      have lo := at8_lo L m
      have hi := at8_hi L m
      have i1 : ((m : Nat) : Int) < ((L.length : Nat) : Int) := by omega
      clear hc hb
      have HO := hide (or_byteI C m L hC (by omega))
      have HN := hide (beNI_take L m hlt)
      have hC' : C * 256 + (L.getD m 0).toNat < 256 ^ (m + 1) := by
        have h4 := (L.getD m 0).toNat_lt
        rw [Nat.pow_succ]
        omega
      have HC' := hide hC'
      clear hC'
      go_wp2
      go_roundw
      case rel => exact ⟨m + 1, C * 256 + (L.getD m 0).toNat, by omega, by go_num, val_int (unhide HO), unhide HC', hide (by rw [unhide HN, ← unhide HC]), _, rfl⟩
      case measure => simp [intOf]; omega
    · have HE : Hid (C = beNI L) := hide (by rw [unhide HC, List.take_of_length_le (by omega)])
      have hC2 : (C : Int) < 4294967296 := by have h1 := unhide HL; rw [← unhide HE] at h1; omega
      clear hC
      go_wp2
      go_ret
      exact ⟨ret_int (by rw [← unhide HE]), _, rfl⟩
/-- The cells of an instruction. -/
def inA (p : Int) (op : Nat) (a b : Int) : Array Value := #[.int .i64 p, .int .u8 (op : Int), .int .i64 a, .int .i64 b]
/-- It lies in a block. -/
def IAt (W : World) (g : Nat) (p : Int) (op : Nat) (a b : Int) : Prop := W.heap[g]? = some (.cells #[.int .i64 p, .int .u8 (op : Int), .int .i64 a, .int .i64 b] 68 (0, 0))
theorem IAt.lt {W : World} {g : Nat} {p : Int} {op : Nat} {a b : Int} (h : IAt W g p op a b) : g < W.heap.size := (Array.getElem?_eq_some_iff.1 h).1
theorem IAt.below {W W' : World} {g : Nat} {p : Int} {op : Nat} {a b : Int} (h : IAt W g p op a b) (hb : Below W.heap.size W W') : IAt W' g p op a b := (hb.block g h.lt).trans h
theorem IAt.keep {W W' : World} {g k : Nat} {p : Int} {op : Nat} {a b : Int} (h : IAt W g p op a b) (hb : W.grownBy W' (some k)) (hne : g ≠ k) : IAt W' g p op a b := (hb.block g h.lt (by intro e; injection e with e; exact hne e)).trans h
theorem IAt.c {W : World} {g : Nat} {p : Int} {op : Nat} {a b : Int} (h : IAt W g p op a b) : W.cell? ⟨g, 1, none⟩ = some (.int .u8 (op : Int)) ∧ W.cell? ⟨g, 2, none⟩ = some (.int .i64 a) ∧ W.cell? ⟨g, 3, none⟩ = some (.int .i64 b) := by
  refine ⟨?_, ?_, ?_⟩
  · exact cell_of_row _ _ 1 _ _ _ h
  · exact cell_of_row _ _ 2 _ _ _ h
  · exact cell_of_row _ _ 3 _ _ _ h
theorem IAt.c0 {W : World} {g : Nat} {p : Int} {op : Nat} {a b : Int} (h : IAt W g p op a b) : W.cell? ⟨g, 0, none⟩ = some (.int .i64 p) := cell_of_row _ _ 0 _ _ _ h
theorem WidAt.keep {W W' : World} {k : Nat} (h : WidAt W) (hb : W.grownBy W' (some k)) (hne : 0 ≠ k) : WidAt W' := fun op ho => by
  have h1 := h op ho
  have hl := World.block_lt_of_cell? W _ h1.1
  have e := hb.block 0 hl (by intro e; injection e with e; exact hne e)
  exact ⟨by rw [← h1.1]; unfold World.cell?; rw [e], by rw [← h1.2]; unfold World.cell?; rw [e]⟩

/-- Encode's error and its bytes. -/
def eE (op : Nat) (a b : Int) : Int := if op < 34 then (if inD op a b then 0 else 5) else 40
def encL (op : Nat) (a b : Int) : List UInt8 := UInt8.ofNat op :: (beI a (wA op) ++ beI b (wB op))
def eL (op : Nat) (a b : Int) : List UInt8 := if eE op a b = 0 then encL op a b else []
theorem encL_length (op : Nat) (a b : Int) : (encL op a b).length = 1 + wA op + wB op := by simp [encL, beI_length]; omega

theorem laid2 (N A B : Nat) (x : UInt8) (a b : Int) (h : N = 1 + A + B) : laidI (laidI ((List.replicate N 0).set 0 x) 1 A a 0) (1 + A) B b 0 = x :: (beI a A ++ beI b B) := by
  subst h
  have e : (List.replicate (1 + A + B) (0 : UInt8)).set 0 x = x :: List.replicate (A + B) 0 := by
    rw [show 1 + A + B = (A + B) + 1 by omega, List.replicate_succ, List.set_cons_zero]
  unfold laidI
  rw [e]
  simp only [Nat.add_zero, List.drop_zero]
  have e1 : (x :: List.replicate (A + B) (0 : UInt8)).take 1 = [x] := rfl
  have e2 : (x :: List.replicate (A + B) (0 : UInt8)).drop (1 + A) = List.replicate B 0 := by
    rw [show 1 + A = A + 1 by omega, List.drop_succ_cons, List.drop_replicate, show A + B - A = B by omega]
  rw [e1, e2]
  have e3 : ([x] ++ (beI a A ++ List.replicate B 0)) = (x :: beI a A) ++ List.replicate B 0 := by simp
  rw [e3, List.take_append_of_le_length (by simp [beI_length]; omega), List.take_of_length_le (by simp [beI_length]; omega), List.drop_eq_nil_of_le (by simp [beI_length]; omega)]
  simp
theorem laidI_zero (L : List UInt8) (off : Nat) (n : Int) : laidI L off 0 n 0 = L := by
  unfold laidI
  simp [beI]
theorem beI_take (n : Int) (s j : Nat) (h : j < s) : (beI n s).take (j + 1) = (beI n s).take j ++ [byI n (s - 1 - j)] := by
  have h2 : j < (beI n s).length := by rw [beI_length]; exact h
  have := beI_get n s j h
  rw [List.getElem?_eq_getElem h2] at this
  injection this with this
  rw [List.take_succ_eq_append_getElem h2, this]
theorem byM (n : Int) (M q : Nat) (h : (M : Int) = n ∨ (M : Int) = n + 4294967296) (hq : q < 4) : ((M / 256 ^ q % 256 : Nat) : Int) = ((byI n q).toNat : Int) := by
  rw [byI_eq]
  rcases (show q = 0 ∨ q = 1 ∨ q = 2 ∨ q = 3 by omega) with rfl | rfl | rfl | rfl
  all_goals
    simp only [Nat.reducePow, Int.reducePow]
    omega

theorem inD_fits : ∀ op : Nat, op < 34 → ∀ a b : Int, inD op a b = (fitD a (wA op) && fitD b (wB op) && !(decide (op = 2) && decide (1 < a))) := by
  refine cases34 ?_ ?_ ?_ ?_ ?_ ?_ ?_ ?_ ?_ ?_ ?_ ?_ ?_ ?_ ?_ ?_ ?_ ?_ ?_ ?_ ?_ ?_ ?_ ?_ ?_ ?_ ?_ ?_ ?_ ?_ ?_ ?_ ?_ ?_
  all_goals
    intro a b
    rw [Bool.eq_iff_iff]
    simp [inD, fitD, loA, hiA, hiB, wA, wB]
    try omega
theorem fitD_le (n : Int) (k : Nat) (h : fitD n k = true) : -2147483648 ≤ n ∧ n ≤ 2147483647 := by
  unfold fitD at h
  split at h
  · simp at h; omega
  · split at h
    · simp at h; omega
    · split at h
      · simp at h; omega
      · simp at h; omega

theorem own_one (w : World) (x : UInt8) (z : Int) (hz : z = (x.toNat : Int)) (base : Nat) (hb : base ≤ w.heap.size) : OwnB (w.alloc (.cells #[.int .u8 z] 5)) base (.slice (some ⟨w.heap.size, 0, none⟩) 1 1) [x] := by
  subst hz
  exact ⟨by simp [bvals], .inr ⟨w.heap.size, 1, #[.int .u8 (x.toNat : Int)], rfl, hb, heap_alloc_new w _, Nat.le_refl _, by decide, rfl, by simp [bvals]⟩⟩

/-- What provisoref04.take makes of so many bytes. -/
def tkI (n : Nat) (l : List UInt8) : Int := if n = 4 then (if beNI l < 2147483648 then (beNI l : Int) else (beNI l : Int) - 4294967296) else (beNI l : Int)

set_option maxHeartbeats 1000000 in
theorem refTake_any (ao : Option Addr) (m c n : Nat) (l : List UInt8) (w : World) (hb : BAt w ao l) (hn : n = l.length) (hm : n ≤ m) (h4 : n ≤ 4) :
    Calls Tryd.prog 52 #[.slice ao m c, .int .i64 (n : Int)] w fun e w' => e = .returned (.int .i64 (tkI n l)) ∧ ∃ q, w' = w.drewN q := by
  go_enter Tryd.func52, Tryd.ntmps52
  have HL : Hid (beNI l < 4294967296) := hide (by
    have h1 := beNI_lt l
    have h2 : 256 ^ l.length ≤ 256 ^ 4 := Nat.pow_le_pow_right (by omega) (by omega)
    omega)
  have HNL := hide hn
  go_wp2
  clear hn
  go_loopw [5, 6] (fun v i wr => ∃ q C : Nat, q ≤ n ∧ i = .int .i64 q ∧ v = .int .i64 (C : Int) ∧ C < 256 ^ q ∧ Hid (C = beNI (l.take q)) ∧ ∃ r, wr = w.drewN r) (fun _ i _ => n - (intOf i).toNat)
  case atStart => exact ⟨0, 0, by omega, rfl, rfl, by decide, hide rfl, 0, rfl⟩
  case round =>
    obtain ⟨q, C, hq, rfl, rfl, hC, HC, r, rfl⟩ := hrel
    by_cases hlt : q < n
    · have hlt' : q < l.length := by have := unhide HNL; omega
      obtain ⟨b, off, rfl, hc⟩ := hb.head (by omega)
      have c1 := hc q hlt'
      have lo := at8_lo l q
      have hi := at8_hi l q
      have i1 : ((q : Nat) : Int) < ((n : Nat) : Int) := by omega
      have i2 : ((q : Nat) : Int) < ((m : Nat) : Int) := by omega
      clear hc hb
      have HN := hide (beNI_take l q hlt')
      have hC' : C * 256 + (l.getD q 0).toNat < 256 ^ (q + 1) := by
        have h4 := (l.getD q 0).toNat_lt
        rw [Nat.pow_succ]
        omega
      have HC' := hide hC'
      have hC3 : C < 16777216 := by
        have h1 : 256 ^ q ≤ 256 ^ 3 := Nat.pow_le_pow_right (by omega) (by omega)
        omega
      clear hC' hC
      go_wp2
      go_roundw
      case rel => exact ⟨q + 1, C * 256 + (l.getD q 0).toNat, by omega, by go_num, val_int (by unfold at8; omega), unhide HC', hide (by rw [unhide HN, ← unhide HC]), _, rfl⟩
      case measure => simp [intOf]; omega
    · have HE : Hid (C = beNI l) := hide (by rw [unhide HC, List.take_of_length_le (by have := unhide HNL; omega)])
      have hC2 : C < 4294967296 := by have h1 := unhide HL; rw [← unhide HE] at h1; exact h1
      clear hC
      have HT : Hid (tkI n l = if n = 4 then (if C < 2147483648 then (C : Int) else (C : Int) - 4294967296) else (C : Int)) := hide (by unfold tkI; rw [← unhide HE])
      by_cases hn4 : n = 4
      · have b4 : (((n : Nat) : Int) == 4) = true := beq_t (by omega)
        by_cases hbig : C < 2147483648
        · have HR : Hid (tkI n l = (C : Int)) := hide (by rw [unhide HT, if_pos hn4, if_pos hbig])
          have d1 : decide ((2147483647 : Int) < (C : Int)) = false := decide_eq_false (by omega)
          have j1 : ¬ ((q : Nat) : Int) < ((n : Nat) : Int) := by omega
          clear hn4 hbig
          go_wp2
          go_ret
          exact ⟨ret_int (unhide HR).symm, _, rfl⟩
        · have HR : Hid (tkI n l = (C : Int) - 4294967296) := hide (by rw [unhide HT, if_pos hn4, if_neg hbig])
          have d1 : decide ((2147483647 : Int) < (C : Int)) = true := decide_eq_true (by omega)
          have j1 : ¬ ((q : Nat) : Int) < ((n : Nat) : Int) := by omega
          clear hn4 hbig
          go_wp2
          go_ret
          exact ⟨ret_int (by rw [unhide HR]), _, rfl⟩
      · have b4 : (((n : Nat) : Int) == 4) = false := beq_f (by omega)
        have HR : Hid (tkI n l = (C : Int)) := hide (by rw [unhide HT, if_neg hn4])
        clear hn4
        go_wp2
        go_ret
        exact ⟨ret_int (unhide HR).symm, _, rfl⟩
theorem wA_which : ∀ op, op < 34 → (wA op = 0 ∨ wA op = 1 ∨ wA op = 2 ∨ wA op = 4) ∧ (wA op = 4 ↔ op = 1) := below34 (by decide)
theorem wB_which : ∀ op, op < 34 → wB op = 0 ∨ wB op = 1 := below34 (by decide)
theorem fit_be (l : List UInt8) (k : Nat) (hk : k = 0 ∨ k = 1 ∨ k = 2) (hl : l.length = k) : fitD (beNI l : Int) k = true := by
  have h := beNI_lt l
  rw [hl] at h
  rcases hk with rfl | rfl | rfl
  · simp [fitD]; omega
  · simp [fitD]; omega
  · simp [fitD]; omega
theorem fit_four (l : List UInt8) (hl : l.length = 4) : fitD (tkI 4 l) 4 = true := by
  have h := beNI_lt l
  rw [hl] at h
  unfold tkI fitD
  simp
  split <;> omega
theorem tk_plain (l : List UInt8) (k : Nat) (hk : k ≠ 4) : tkI k l = (beNI l : Int) := by unfold tkI; rw [if_neg hk]
theorem sizeIn : (Tryd.prog.info? 68).map (·.size) = some 4 := by kernel_rfl
theorem run_addrI (g : Nat) (w : World) : (asAddr (.pointer (some ⟨g, 0, none⟩))).run Tryd.prog w = .ok ⟨g, 0, none⟩ w := by simp [asAddr]
theorem results_in2 {fn : Func} {q u : Tmp} (h : fn.results = #[.cell q 68, .tmp u]) (tmps : Array Value) (W : World) (g : Nat) (p : Int) (op : Nat) (a b : Int) (e : Int)
    (hp : tmps.getD q undef = .pointer (some ⟨g, 0, none⟩)) (hu : tmps.getD u undef = .int .i64 e) (hg : IAt W g p op a b) : (results fn tmps).run Tryd.prog W = .ok (.tuple #[.agg #[.int .i64 p, .int .u8 (op : Int), .int .i64 a, .int .i64 b], .int .i64 e]) W := by
  rw [results_cell_tmp h, hp, hu, run_addrI, Result.andThen_ok, run_loadVar_row W g 68 68 #[.int .i64 p, .int .u8 (op : Int), .int .i64 a, .int .i64 b] (0, 0) _ hg Tryd.underlying68 rfl sizeIn, Result.andThen_ok]
theorem IAt.row {W : World} {g : Nat} {p : Int} {op : Nat} {a b : Int} (h : IAt W g p op a b) (p' : Int) (op' : Nat) (a' b' : Int) : IAt (W.setRow g #[.int .i64 p', .int .u8 (op' : Int), .int .i64 a', .int .i64 b']) g p' op' a' b' := setRow_heap _ _ _ _ _ _ h
theorem IAt.rowOther {W : World} {g k : Nat} {p : Int} {op : Nat} {a b : Int} (h : IAt W k p op a b) (cs : Array Value) (hne : k ≠ g) : IAt (W.setRow g cs) k p op a b := (setRow_other W g k _ hne).trans h
theorem IAt.f {W : World} {g : Nat} {p : Int} {op : Nat} {a b : Int} (h : IAt W g p op a b) (i : Nat) : W.frozen? ⟨g, i, none⟩ = false := frozen_of_row _ _ _ _ _ h
theorem IAt.chain {W : World} {g : Nat} {p : Int} {op : Nat} {a b : Int} (h : IAt W g p op a b) (p' : Int) (op' : Nat) (a' b' : Int) : IAt ((((W.setCell ⟨g, 0, none⟩ (.int .i64 p')).setCell ⟨g, 1, none⟩ (.int .u8 (op' : Int))).setCell ⟨g, 2, none⟩ (.int .i64 a')).setCell ⟨g, 3, none⟩ (.int .i64 b')) g p' op' a' b' :=
  heap_setCell_same _ _ _ _ _ _ (heap_setCell_same _ _ _ _ _ _ (heap_setCell_same _ _ _ _ _ _ (heap_setCell_same _ _ _ _ _ _ h)))
theorem IAt.zero {W : World} {g : Nat} {p : Int} {op : Nat} {a b : Int} (h : IAt W g p op a b) : IAt ((((W.setCell ⟨g, 0, none⟩ (.int .i64 0)).setCell ⟨g, 1, none⟩ (.int .u8 0)).setCell ⟨g, 2, none⟩ (.int .i64 0)).setCell ⟨g, 3, none⟩ (.int .i64 0)) g 0 0 0 0 := h.chain 0 0 0 0
theorem below_chain {B : Nat} {w W : World} (h : Below B w W) {g : Nat} (hg : B ≤ g) (v0 v1 v2 v3 : Value) : Below B w ((((W.setCell ⟨g, 0, none⟩ v0).setCell ⟨g, 1, none⟩ v1).setCell ⟨g, 2, none⟩ v2).setCell ⟨g, 3, none⟩ v3) :=
  (((h.setCell hg _).setCell hg _).setCell hg _).setCell hg _
theorem below_setRowI {B : Nat} {w W : World} (h : Below B w W) {g : Nat} (hg : B ≤ g) (cs : Array Value) : Below B w (W.setRow g cs) := by
  refine h.trans ⟨rfl, rfl, rfl, by simp, fun k hk => setRow_other W g k cs (by omega)⟩
end Go.Proofs.YtgelbihdcfgjcaaDoor

/-
  What Decode answers, plainly; the contract of code.Decode. Conditions: the widths lie there, lengths fit.
-/
namespace Go.Proofs.YtgelbihdcfgjcaaDoor
open Go.RowKit
set_option maxRecDepth 20000

/-- The number of so many bytes; of four as two's complement. -/
def s32I (n : Nat) : Int := if n < 2147483648 then (n : Int) else (n : Int) - 4294967296
/-- The operands of what stands there, of whose byte it is. -/
def dA (op : Nat) (t : List UInt8) : Int := if op = 1 then s32I (beNI (t.take (wA op))) else (beNI (t.take (wA op)) : Int)
def dB (op : Nat) (t : List UInt8) : Int := (beNI ((t.drop (wA op)).take (wB op)) : Int)
/-- Decode's error: l the bytes from the address on. -/
def dE (l : List UInt8) : Int := match l with
  | [] => 2
  | x :: t => if x.toNat < 34 then (if l.length < sizeD x.toNat then 2 else if inD x.toNat (dA x.toNat t) (dB x.toNat t) then 0 else 5) else 40
def dV (at_ : Int) (l : List UInt8) : Array Value := match l with
  | [] => #[.int .i64 0, .int .u8 0, .int .i64 0, .int .i64 0]
  | x :: t => if dE l = 0 then #[.int .i64 at_, .int .u8 (x.toNat : Int), .int .i64 (dA x.toNat t), .int .i64 (dB x.toNat t)] else #[.int .i64 0, .int .u8 0, .int .i64 0, .int .i64 0]

set_option maxHeartbeats 1000000 in
theorem Decode_out (ao : Option Addr) (c : Nat) (L : List UInt8) (at_ : Int) (w : World) (h : at_ < 0 ∨ (L.length : Int) < at_) :
    Calls Tryd.prog 29 #[.slice ao L.length c, .int .i64 at_] w fun e w' => e = .returned (.tuple #[.agg #[.int .i64 0, .int .u8 0, .int .i64 0, .int .i64 0], .int .i64 1]) ∧ Below w.heap.size w w' := by
  by_cases h0 : at_ < 0
  · have d0 : decide (at_ < 0) = true := decide_eq_true h0
    go_enter Tryd.func29, Tryd.ntmps29
    go_wp2
    go_returns
    exact ⟨rfl, by go_grown⟩
  · have d0 : decide (at_ < 0) = false := decide_eq_false h0
    have d1 : decide ((L.length : Int) < at_) = true := decide_eq_true (by omega)
    clear h h0
    go_enter Tryd.func29, Tryd.ntmps29
    go_wp2
    go_returns
    exact ⟨rfl, by go_grown⟩

theorem Decode_end (ao : Option Addr) (c : Nat) (L : List UInt8) (w : World) (hl : L.length ≤ 140737488355328) :
    Calls Tryd.prog 29 #[.slice ao L.length c, .int .i64 (L.length : Int)] w fun e w' => e = .returned (.tuple #[.agg #[.int .i64 0, .int .u8 0, .int .i64 0, .int .i64 0], .int .i64 2]) ∧ Below w.heap.size w w' := by
  generalize L.length = k at hl ⊢
  have d0 : decide ((k : Int) < 0) = false := decide_eq_false (by omega)
  have d1 : decide ((k : Int) < (k : Int)) = false := decide_eq_false (by omega)
  have d2 : k - k = 0 := by omega
  by_cases hck : c = k
  all_goals
    go_enter Tryd.func29, Tryd.ntmps29
    go_wp2
    go_returns
    exact ⟨rfl, by go_grown⟩

theorem BAt.part {w : World} {b off : Nat} {x : UInt8} {t : List UInt8} (h : BAt w (some ⟨b, off, none⟩) (x :: t)) (k n : Nat) {l : List UInt8} (hl : (x :: t).drop k = l) : BAt w (some ⟨b, off + k, none⟩) (l.take n) := by
  intro i hi
  have hi' : i < l.length := by simp at hi; omega
  have hk : k + i < (x :: t).length := by rw [← hl, List.length_drop] at hi'; omega
  obtain ⟨b', off', e, hc⟩ := h (k + i) hk
  injection e with e
  injection e with e1 e2
  subst e1 e2
  refine ⟨b, off + k, rfl, ?_⟩
  rw [show off + k + i = off + (k + i) by omega, hc]
  unfold at8
  rw [← hl, List.getD_eq_getElem?_getD, List.getD_eq_getElem?_getD, List.getElem?_take_of_lt (by simp at hi; omega), List.getElem?_drop]

theorem wrap_s32 (va : Nat) (h : va < 4294967296) : wrap64 (wrap32 (va : Int)) = s32I va := by
  unfold s32I
  split
  all_goals
    simp only [wrap64, wrap32]
    omega

set_option maxHeartbeats 8000000 in
theorem Decode_in (b off : Nat) (c : Nat) (L : List UInt8) (k : Nat) (w : World) (x : UInt8) (t : List UInt8) (hx : L.drop k = x :: t) (hb : BAt w (some ⟨b, off + k, none⟩) (x :: t)) (hW : WidAt w) (_ : L.length ≤ 140737488355328) (hc : L.length ≤ c) :
    Calls Tryd.prog 29 #[.slice (some ⟨b, off, none⟩) L.length c, .int .i64 (k : Int)] w fun e w' => e = .returned (.tuple #[.agg (dV k (x :: t)), .int .i64 (dE (x :: t))]) ∧ Below w.heap.size w w' := by
  have hlen : L.length - k = t.length + 1 := by have := congrArg List.length hx; simpa using this
  have HX := hide hx
  have HLn := hide hlen
  have d0 : decide ((k : Int) < 0) = false := decide_eq_false (by omega)
  have d1 : decide ((L.length : Int) < (k : Int)) = false := decide_eq_false (by omega)
  have i1 : (k : Int) ≤ (L.length : Int) := by omega
  have hne : ¬ c = k := by omega
  have d2 : (((L.length - k : Nat) : Int) == 0) = false := beq_f (by omega)
  have i2 : (0 : Int) < ((L.length - k : Nat) : Int) := by omega
  obtain ⟨b', off', e', hcell⟩ := hb.head (by simp)
  injection e' with e'
  injection e' with e1 e2
  subst e1 e2
  have c0 := hcell 0 (by simp)
  have hx0 : at8 (x :: t) 0 = (x.toNat : Int) := rfl
  rw [hx0] at c0
  have hop := x.toNat_lt
  generalize hopx : x.toNat = op at c0 hop
  have HOP := hide hopx
  have HCell := hide hcell
  have HW := hide hW
  have HBA0 := hide hb
  clear hx hlen hx0 hopx hcell hb hW
  have HB0 : Hid (Below w.heap.size w (w.alloc (.cells #[.int .i64 0, .int .u8 0, .int .i64 0, .int .i64 0] 68))) := hide ((Below.refl _ _).alloc (Nat.le_refl _) _)
  have HR0 : Hid (IAt (w.alloc (.cells #[.int .i64 0, .int .u8 0, .int .i64 0, .int .i64 0] 68)) w.heap.size 0 0 0 0) := hide (heap_alloc_new w _)
  have hblt : b < w.heap.size := World.block_lt_of_cell? w _ c0
  have c0' : (w.alloc (.cells #[.int .i64 0, .int .u8 0, .int .i64 0, .int .i64 0] 68)).cell? ⟨b, off + k, none⟩ = some (.int .u8 (op : Int)) := ((unhide HB0).cell (p := ⟨b, off + k, none⟩) hblt).trans c0
  have HW0 := hide ((unhide HW).below (unhide HB0))
  have HBA : Hid (BAt (w.alloc (.cells #[.int .i64 0, .int .u8 0, .int .i64 0, .int .i64 0] 68)) (some ⟨b, off + k, none⟩) (x :: t)) := hide ((unhide HBA0).below' (unhide HB0))
  clear HW HBA0
  go_enter Tryd.func29, Tryd.ntmps29
  go_wp2_with fail
  generalize (w.alloc (.cells #[.int .i64 0, .int .u8 0, .int .i64 0, .int .i64 0] 68)) = w0 at HB0 HR0 c0' HW0 HBA ⊢
  with_reducible refine (isOp_any op _).mono ?_
  rintro e w1 ⟨rfl, rfl⟩
  by_cases h34 : op < 34
  rotate_left
  · have hd : decide (op < 34) = false := decide_eq_false h34
    have HE : Hid (dE (x :: t) = 40) := hide (by unfold dE; simp only [unhide HOP]; rw [if_neg h34])
    have HV : Hid (dV k (x :: t) = #[.int .i64 0, .int .u8 0, .int .i64 0, .int .i64 0]) := hide (by unfold dV; rw [unhide HE]; rfl)
    rw [hd]
    clear hd h34
    obtain ⟨r1, r2, r3⟩ := (unhide HR0).c
    have r0 := (unhide HR0).c0
    have f0 := (unhide HR0).f 0
    have f1 := (unhide HR0).f 1
    have f2 := (unhide HR0).f 2
    have f3 := (unhide HR0).f 3
    go_wp2
    refine bodyPost_ret (v := .tuple #[.agg #[.int .i64 0, .int .u8 ((0 : Nat) : Int), .int .i64 0, .int .i64 0], .int .i64 40]) (results_in2 rfl _ _ w.heap.size 0 0 0 0 40 rfl rfl (unhide HR0).zero) rfl ?_
    exact ⟨by rw [unhide HE, unhide HV]; rfl, below_chain (unhide HB0) (Nat.le_refl _) _ _ _ _⟩
  have hd : decide (op < 34) = true := decide_eq_true h34
  rw [hd]
  clear hd
  go_wp2_with fail
  with_reducible refine (Size_any op _ (unhide HW0) (by omega)).mono ?_
  rintro e w2 ⟨rfl, k2, rfl⟩
  have HB2 : Hid (Below w.heap.size w (w1.drewN k2)) := hide (belowD (unhide HB0) _)
  have HR2 : Hid (IAt (w1.drewN k2) w.heap.size 0 0 0 0) := hide (unhide HR0)
  have HW2 : Hid (WidAt (w1.drewN k2)) := hide (unhide HW0)
  have HBA2 : Hid (BAt (w1.drewN k2) (some ⟨b, off + k, none⟩) (x :: t)) := hide (unhide HBA)
  generalize w1.drewN k2 = w2 at HB2 HR2 HW2 HBA2 ⊢
  clear HB0 HR0 HW0 HBA c0' k2 w1
  have la := wA_le op h34
  have lb := wB_le op h34
  have HSZ : Hid (sizeD op = 1 + wA op + wB op) := hide (by unfold sizeD; rw [if_pos h34])
  obtain ⟨N, HN⟩ : ∃ N, Hid (sizeD op = N) := ⟨_, hide rfl⟩
  rw [unhide HN]
  by_cases hsh : L.length - k < N
  · have HE : Hid (dE (x :: t) = 2) := hide (by
      unfold dE; simp only [unhide HOP]; rw [if_pos h34, unhide HN, if_pos (by have := unhide HLn; simp; omega)])
    have HV : Hid (dV k (x :: t) = #[.int .i64 0, .int .u8 0, .int .i64 0, .int .i64 0]) := hide (by unfold dV; rw [unhide HE]; rfl)
    have hd : decide (L.length - k < N) = true := decide_eq_true hsh
    obtain ⟨r1, r2, r3⟩ := (unhide HR2).c
    have r0 := (unhide HR2).c0
    have f0 := (unhide HR2).f 0
    have f1 := (unhide HR2).f 1
    have f2 := (unhide HR2).f 2
    have f3 := (unhide HR2).f 3
    go_wp2
    refine bodyPost_ret (v := .tuple #[.agg #[.int .i64 0, .int .u8 ((0 : Nat) : Int), .int .i64 0, .int .i64 0], .int .i64 2]) (results_in2 rfl _ _ w.heap.size 0 0 0 0 2 rfl rfl (unhide HR2).zero) rfl ?_
    exact ⟨by rw [unhide HE, unhide HV]; rfl, below_chain (unhide HB2) (Nat.le_refl _) _ _ _ _⟩
  have hd : decide (((L.length - k : Nat) : Int) < (N : Int)) = false := decide_eq_false (by omega)
  obtain ⟨x1, x2⟩ := (unhide HW2) op h34
  have i5 : ((op : Nat) : Int) < 34 := by omega
  have i6 : (0 : Int) ≤ ((op : Nat) : Int) := by omega
  obtain ⟨A, HA⟩ : ∃ A, Hid (wA op = A) := ⟨_, hide rfl⟩
  obtain ⟨B, HBB⟩ : ∃ B, Hid (wB op = B) := ⟨_, hide rfl⟩
  rw [unhide HA] at la HSZ x1
  rw [unhide HBB] at lb HSZ x2
  have hN : N = 1 + A + B := (unhide HN).symm.trans (unhide HSZ)
  have hNc : 1 + A + B ≤ L.length - k := by omega
  have hNc2 : 1 + A + B ≤ c - k := by omega
  have BA1 : Hid (BAt w2 (some ⟨b, off + k + 1, none⟩) (t.take A)) := hide (BAt.part (unhide HBA2) 1 A rfl)
  have BA2 : Hid (BAt w2 (some ⟨b, off + k + (1 + A), none⟩) ((t.drop A).take B)) := hide (BAt.part (unhide HBA2) (1 + A) B (by rw [Nat.add_comm 1 A]; rfl))
  have l1 : (t.take A).length = A := by have := unhide HLn; simp; omega
  have l2 : ((t.drop A).take B).length = B := by have := unhide HLn; simp; omega
  have HNN := hide hN
  have j1 : (0 : Int) ≤ 1 + (A : Int) := by omega
  have j2 : 1 + (A : Int) ≤ ((c - k : Nat) : Int) := by omega
  have j3 : 1 + (A : Int) ≤ (N : Int) := by omega
  have j4 : (N : Int) ≤ ((c - k : Nat) : Int) := by omega
  by_cases hC : c - k = 1 + A
  rotate_left
  · have hC1 : ¬ c - k = 1 := by omega
    have HCC := hide hC
    clear hN
    go_wp2_with fail
    have G1 := hide (fun cap => gather_any (some ⟨b, off + k + 1, none⟩) cap (t.take A) w2 (unhide BA1) (by omega))
    simp only [l1] at G1
    with_reducible refine (unhide G1 _).mono ?_
    rintro e w3 ⟨rfl, q3, rfl⟩
    have HW3 : Hid (WidAt (w2.drewN q3)) := hide (unhide HW2)
    go_wp2_with fail
    with_reducible refine (Size_any op _ (unhide HW3) (by omega)).mono ?_
    rintro e w3 ⟨rfl, q4, rfl⟩
    rw [unhide HN]
    go_wp2_with fail
    have G2 := hide (fun cap => gather_any (some ⟨b, off + k + (1 + A), none⟩) cap ((t.drop A).take B) (w2.drewN (q3 + q4)) (unhide BA2) (by omega))
    simp only [l2] at G2
    simp only [show B = N - (1 + A) by have := unhide HNN; omega] at G2
    with_reducible refine (unhide G2 _).mono ?_
    rintro e w3 ⟨rfl, q5, rfl⟩
    have HB3 : Hid (Below w.heap.size w ((w2.drewN (q3 + q4)).drewN q5)) := hide (belowD (belowD (unhide HB2) _) _)
    have HR3 : Hid (IAt ((w2.drewN (q3 + q4)).drewN q5) w.heap.size 0 0 0 0) := hide (unhide HR2)
    generalize (w2.drewN (q3 + q4)).drewN q5 = w3 at HB3 HR3 ⊢
    clear HB2 HR2 HW2 HBA2 BA1 BA2 G1 G2 HW3 x1 x2 q3 q4 q5 w2
    obtain ⟨va, HVA⟩ : ∃ va, Hid (beNI (t.take A) = va) := ⟨_, hide rfl⟩
    obtain ⟨vb, HVB⟩ : ∃ vb, Hid (beNI ((t.drop A).take (N - (1 + A))) = vb) := ⟨_, hide rfl⟩
    rw [unhide HVA, unhide HVB]
    have HDB : Hid (dB x.toNat t = (vb : Int)) := hide (by
      unfold dB; rw [unhide HOP, unhide HA, unhide HBB, ← unhide HVB, show N - (1 + A) = B by have := unhide HNN; omega])
    have hva : va < 4294967296 := by
      have h1 := beNI_lt (t.take A)
      rw [l1, unhide HVA] at h1
      have h2 : 256 ^ A ≤ 256 ^ 4 := Nat.pow_le_pow_right (by omega) la
      omega
    by_cases hop1 : op = 1
    · have HDA : Hid (dA x.toNat t = s32I va) := hide (by unfold dA; rw [unhide HOP, if_pos hop1, unhide HA, unhide HVA])
      have b1 : (((op : Nat) : Int) == 1) = true := beq_t (by omega)
      clear hop1
      go_wp2_with fail
      rw [wrap_s32 va hva]
      generalize s32I va = a' at HDA ⊢
      with_reducible refine (inSpans_any (k : Int) op a' (vb : Int) _ h34).mono ?_
      rintro e w4 ⟨rfl, hB4⟩
      have HA3 : Below w3.heap.size w3 (w3.alloc (.cells #[.int .i64 (k : Int), .int .u8 (op : Int), .int .i64 a', .int .i64 (vb : Int)] 68)) := (Below.refl _ _).alloc (Nat.le_refl _) _
      have HI4 : Hid (IAt w4 w3.heap.size (k : Int) op a' (vb : Int)) := hide (IAt.below (heap_alloc_new w3 _) hB4)
      have HR4 : Hid (IAt w4 w.heap.size 0 0 0 0) := hide (((unhide HR3).below HA3).below hB4)
      have HB4 : Hid (Below w.heap.size w w4) := hide (((unhide HB3).trans (HA3.mono (unhide HB3).size)).trans (hB4.mono (by have := (unhide HB3).size; simp; omega)))
      clear hB4 HA3 HR3 HB3
      obtain ⟨r1, r2, r3⟩ := (unhide HR4).c
      have r0 := (unhide HR4).c0
      have f0 := (unhide HR4).f 0
      have f1 := (unhide HR4).f 1
      have f2 := (unhide HR4).f 2
      have f3 := (unhide HR4).f 3
      have hDE : ∀ e, (if inD op a' vb then (0 : Int) else 5) = e → dE (x :: t) = e := fun e he => by
        show (if x.toNat < 34 then (if (x :: t).length < sizeD x.toNat then (2 : Int) else if inD x.toNat (dA x.toNat t) (dB x.toNat t) then 0 else 5) else 40) = e
        rw [unhide HDA, unhide HDB, unhide HOP, if_pos h34, unhide HN, if_neg (by have := unhide HLn; simp; omega)]
        exact he
      cases hin : inD op a' vb
      · have HE : Hid (dE (x :: t) = 5) := hide (hDE 5 (by rw [hin]; rfl))
        have HV : Hid (dV k (x :: t) = #[.int .i64 0, .int .u8 0, .int .i64 0, .int .i64 0]) := hide (by unfold dV; rw [unhide HE]; rfl)
        clear hin hDE
        go_wp2
        refine bodyPost_ret (v := .tuple #[.agg #[.int .i64 0, .int .u8 ((0 : Nat) : Int), .int .i64 0, .int .i64 0], .int .i64 5]) (results_in2 rfl _ _ w.heap.size 0 0 0 0 5 rfl rfl (unhide HR4).zero) rfl ?_
        exact ⟨by rw [unhide HE, unhide HV]; rfl, below_chain (unhide HB4) (Nat.le_refl _) _ _ _ _⟩
      · have HE : Hid (dE (x :: t) = 0) := hide (hDE 0 (by rw [hin]; rfl))
        have HV : Hid (dV k (x :: t) = #[.int .i64 (k : Int), .int .u8 (op : Int), .int .i64 a', .int .i64 (vb : Int)]) := hide (by
          unfold dV; simp only []; rw [if_pos (unhide HE), unhide HDA, unhide HDB, unhide HOP])
        clear hin hDE
        obtain ⟨s1, s2, s3⟩ := (unhide HI4).c
        have s0 := (unhide HI4).c0
        go_wp2
        refine bodyPost_ret (v := .tuple #[.agg #[.int .i64 (k : Int), .int .u8 (op : Int), .int .i64 a', .int .i64 (vb : Int)], .int .i64 0]) (results_in2 rfl _ _ w.heap.size (k : Int) op a' (vb : Int) 0 rfl rfl ((unhide HR4).chain _ _ _ _)) rfl ?_
        exact ⟨by rw [unhide HE, unhide HV], below_chain (unhide HB4) (Nat.le_refl _) _ _ _ _⟩
    · have HDA : Hid (dA x.toNat t = (va : Int)) := hide (by unfold dA; rw [unhide HOP, if_neg hop1, unhide HA, unhide HVA])
      have b1 : (((op : Nat) : Int) == 1) = false := beq_f (by omega)
      clear hop1
      go_wp2_with fail
      generalize ((va : Nat) : Int) = a' at HDA ⊢
      with_reducible refine (inSpans_any (k : Int) op a' (vb : Int) _ h34).mono ?_
      rintro e w4 ⟨rfl, hB4⟩
      have HA3 : Below w3.heap.size w3 (w3.alloc (.cells #[.int .i64 (k : Int), .int .u8 (op : Int), .int .i64 a', .int .i64 (vb : Int)] 68)) := (Below.refl _ _).alloc (Nat.le_refl _) _
      have HI4 : Hid (IAt w4 w3.heap.size (k : Int) op a' (vb : Int)) := hide (IAt.below (heap_alloc_new w3 _) hB4)
      have HR4 : Hid (IAt w4 w.heap.size 0 0 0 0) := hide (((unhide HR3).below HA3).below hB4)
      have HB4 : Hid (Below w.heap.size w w4) := hide (((unhide HB3).trans (HA3.mono (unhide HB3).size)).trans (hB4.mono (by have := (unhide HB3).size; simp; omega)))
      clear hB4 HA3 HR3 HB3
      obtain ⟨r1, r2, r3⟩ := (unhide HR4).c
      have r0 := (unhide HR4).c0
      have f0 := (unhide HR4).f 0
      have f1 := (unhide HR4).f 1
      have f2 := (unhide HR4).f 2
      have f3 := (unhide HR4).f 3
      have hDE : ∀ e, (if inD op a' vb then (0 : Int) else 5) = e → dE (x :: t) = e := fun e he => by
        show (if x.toNat < 34 then (if (x :: t).length < sizeD x.toNat then (2 : Int) else if inD x.toNat (dA x.toNat t) (dB x.toNat t) then 0 else 5) else 40) = e
        rw [unhide HDA, unhide HDB, unhide HOP, if_pos h34, unhide HN, if_neg (by have := unhide HLn; simp; omega)]
        exact he
      cases hin : inD op a' vb
      · have HE : Hid (dE (x :: t) = 5) := hide (hDE 5 (by rw [hin]; rfl))
        have HV : Hid (dV k (x :: t) = #[.int .i64 0, .int .u8 0, .int .i64 0, .int .i64 0]) := hide (by unfold dV; rw [unhide HE]; rfl)
        clear hin hDE
        go_wp2
        refine bodyPost_ret (v := .tuple #[.agg #[.int .i64 0, .int .u8 ((0 : Nat) : Int), .int .i64 0, .int .i64 0], .int .i64 5]) (results_in2 rfl _ _ w.heap.size 0 0 0 0 5 rfl rfl (unhide HR4).zero) rfl ?_
        exact ⟨by rw [unhide HE, unhide HV]; rfl, below_chain (unhide HB4) (Nat.le_refl _) _ _ _ _⟩
      · have HE : Hid (dE (x :: t) = 0) := hide (hDE 0 (by rw [hin]; rfl))
        have HV : Hid (dV k (x :: t) = #[.int .i64 (k : Int), .int .u8 (op : Int), .int .i64 a', .int .i64 (vb : Int)]) := hide (by
          unfold dV; simp only []; rw [if_pos (unhide HE), unhide HDA, unhide HDB, unhide HOP])
        clear hin hDE
        obtain ⟨s1, s2, s3⟩ := (unhide HI4).c
        have s0 := (unhide HI4).c0
        go_wp2
        refine bodyPost_ret (v := .tuple #[.agg #[.int .i64 (k : Int), .int .u8 (op : Int), .int .i64 a', .int .i64 (vb : Int)], .int .i64 0]) (results_in2 rfl _ _ w.heap.size (k : Int) op a' (vb : Int) 0 rfl rfl ((unhide HR4).chain _ _ _ _)) rfl ?_
        exact ⟨by rw [unhide HE, unhide HV], below_chain (unhide HB4) (Nat.le_refl _) _ _ _ _⟩
  by_cases hA : A = 0
  rotate_left
  · have hA0 : ¬ A = 0 := hA
    clear hA
    clear hN
    go_wp2_with fail
    have G1 := hide (fun cap => gather_any (some ⟨b, off + k + 1, none⟩) cap (t.take A) w2 (unhide BA1) (by omega))
    simp only [l1] at G1
    with_reducible refine (unhide G1 _).mono ?_
    rintro e w3 ⟨rfl, q3, rfl⟩
    have HW3 : Hid (WidAt (w2.drewN q3)) := hide (unhide HW2)
    go_wp2_with fail
    with_reducible refine (Size_any op _ (unhide HW3) (by omega)).mono ?_
    rintro e w3 ⟨rfl, q4, rfl⟩
    rw [unhide HN]
    go_wp2_with fail
    have G2 := hide (fun cap => gather_any (some ⟨b, off + k, none⟩) cap ((t.drop A).take B) (w2.drewN (q3 + q4)) (by rw [show B = 0 by omega, List.take_zero]; exact BAt.nil _ _) (by omega))
    simp only [l2] at G2
    simp only [show B = N - (1 + A) by have := unhide HNN; omega] at G2
    with_reducible refine (unhide G2 _).mono ?_
    rintro e w3 ⟨rfl, q5, rfl⟩
    have HB3 : Hid (Below w.heap.size w ((w2.drewN (q3 + q4)).drewN q5)) := hide (belowD (belowD (unhide HB2) _) _)
    have HR3 : Hid (IAt ((w2.drewN (q3 + q4)).drewN q5) w.heap.size 0 0 0 0) := hide (unhide HR2)
    generalize (w2.drewN (q3 + q4)).drewN q5 = w3 at HB3 HR3 ⊢
    clear HB2 HR2 HW2 HBA2 BA1 BA2 G1 G2 HW3 x1 x2 q3 q4 q5 w2
    obtain ⟨va, HVA⟩ : ∃ va, Hid (beNI (t.take A) = va) := ⟨_, hide rfl⟩
    obtain ⟨vb, HVB⟩ : ∃ vb, Hid (beNI ((t.drop A).take (N - (1 + A))) = vb) := ⟨_, hide rfl⟩
    rw [unhide HVA, unhide HVB]
    have HDB : Hid (dB x.toNat t = (vb : Int)) := hide (by
      unfold dB; rw [unhide HOP, unhide HA, unhide HBB, ← unhide HVB, show N - (1 + A) = B by have := unhide HNN; omega])
    have hva : va < 4294967296 := by
      have h1 := beNI_lt (t.take A)
      rw [l1, unhide HVA] at h1
      have h2 : 256 ^ A ≤ 256 ^ 4 := Nat.pow_le_pow_right (by omega) la
      omega
    by_cases hop1 : op = 1
    · have HDA : Hid (dA x.toNat t = s32I va) := hide (by unfold dA; rw [unhide HOP, if_pos hop1, unhide HA, unhide HVA])
      have b1 : (((op : Nat) : Int) == 1) = true := beq_t (by omega)
      clear hop1
      go_wp2_with fail
      rw [wrap_s32 va hva]
      generalize s32I va = a' at HDA ⊢
      with_reducible refine (inSpans_any (k : Int) op a' (vb : Int) _ h34).mono ?_
      rintro e w4 ⟨rfl, hB4⟩
      have HA3 : Below w3.heap.size w3 (w3.alloc (.cells #[.int .i64 (k : Int), .int .u8 (op : Int), .int .i64 a', .int .i64 (vb : Int)] 68)) := (Below.refl _ _).alloc (Nat.le_refl _) _
      have HI4 : Hid (IAt w4 w3.heap.size (k : Int) op a' (vb : Int)) := hide (IAt.below (heap_alloc_new w3 _) hB4)
      have HR4 : Hid (IAt w4 w.heap.size 0 0 0 0) := hide (((unhide HR3).below HA3).below hB4)
      have HB4 : Hid (Below w.heap.size w w4) := hide (((unhide HB3).trans (HA3.mono (unhide HB3).size)).trans (hB4.mono (by have := (unhide HB3).size; simp; omega)))
      clear hB4 HA3 HR3 HB3
      obtain ⟨r1, r2, r3⟩ := (unhide HR4).c
      have r0 := (unhide HR4).c0
      have f0 := (unhide HR4).f 0
      have f1 := (unhide HR4).f 1
      have f2 := (unhide HR4).f 2
      have f3 := (unhide HR4).f 3
      have hDE : ∀ e, (if inD op a' vb then (0 : Int) else 5) = e → dE (x :: t) = e := fun e he => by
        show (if x.toNat < 34 then (if (x :: t).length < sizeD x.toNat then (2 : Int) else if inD x.toNat (dA x.toNat t) (dB x.toNat t) then 0 else 5) else 40) = e
        rw [unhide HDA, unhide HDB, unhide HOP, if_pos h34, unhide HN, if_neg (by have := unhide HLn; simp; omega)]
        exact he
      cases hin : inD op a' vb
      · have HE : Hid (dE (x :: t) = 5) := hide (hDE 5 (by rw [hin]; rfl))
        have HV : Hid (dV k (x :: t) = #[.int .i64 0, .int .u8 0, .int .i64 0, .int .i64 0]) := hide (by unfold dV; rw [unhide HE]; rfl)
        clear hin hDE
        go_wp2
        refine bodyPost_ret (v := .tuple #[.agg #[.int .i64 0, .int .u8 ((0 : Nat) : Int), .int .i64 0, .int .i64 0], .int .i64 5]) (results_in2 rfl _ _ w.heap.size 0 0 0 0 5 rfl rfl (unhide HR4).zero) rfl ?_
        exact ⟨by rw [unhide HE, unhide HV]; rfl, below_chain (unhide HB4) (Nat.le_refl _) _ _ _ _⟩
      · have HE : Hid (dE (x :: t) = 0) := hide (hDE 0 (by rw [hin]; rfl))
        have HV : Hid (dV k (x :: t) = #[.int .i64 (k : Int), .int .u8 (op : Int), .int .i64 a', .int .i64 (vb : Int)]) := hide (by
          unfold dV; simp only []; rw [if_pos (unhide HE), unhide HDA, unhide HDB, unhide HOP])
        clear hin hDE
        obtain ⟨s1, s2, s3⟩ := (unhide HI4).c
        have s0 := (unhide HI4).c0
        go_wp2
        refine bodyPost_ret (v := .tuple #[.agg #[.int .i64 (k : Int), .int .u8 (op : Int), .int .i64 a', .int .i64 (vb : Int)], .int .i64 0]) (results_in2 rfl _ _ w.heap.size (k : Int) op a' (vb : Int) 0 rfl rfl ((unhide HR4).chain _ _ _ _)) rfl ?_
        exact ⟨by rw [unhide HE, unhide HV], below_chain (unhide HB4) (Nat.le_refl _) _ _ _ _⟩
    · have HDA : Hid (dA x.toNat t = (va : Int)) := hide (by unfold dA; rw [unhide HOP, if_neg hop1, unhide HA, unhide HVA])
      have b1 : (((op : Nat) : Int) == 1) = false := beq_f (by omega)
      clear hop1
      go_wp2_with fail
      generalize ((va : Nat) : Int) = a' at HDA ⊢
      with_reducible refine (inSpans_any (k : Int) op a' (vb : Int) _ h34).mono ?_
      rintro e w4 ⟨rfl, hB4⟩
      have HA3 : Below w3.heap.size w3 (w3.alloc (.cells #[.int .i64 (k : Int), .int .u8 (op : Int), .int .i64 a', .int .i64 (vb : Int)] 68)) := (Below.refl _ _).alloc (Nat.le_refl _) _
      have HI4 : Hid (IAt w4 w3.heap.size (k : Int) op a' (vb : Int)) := hide (IAt.below (heap_alloc_new w3 _) hB4)
      have HR4 : Hid (IAt w4 w.heap.size 0 0 0 0) := hide (((unhide HR3).below HA3).below hB4)
      have HB4 : Hid (Below w.heap.size w w4) := hide (((unhide HB3).trans (HA3.mono (unhide HB3).size)).trans (hB4.mono (by have := (unhide HB3).size; simp; omega)))
      clear hB4 HA3 HR3 HB3
      obtain ⟨r1, r2, r3⟩ := (unhide HR4).c
      have r0 := (unhide HR4).c0
      have f0 := (unhide HR4).f 0
      have f1 := (unhide HR4).f 1
      have f2 := (unhide HR4).f 2
      have f3 := (unhide HR4).f 3
      have hDE : ∀ e, (if inD op a' vb then (0 : Int) else 5) = e → dE (x :: t) = e := fun e he => by
        show (if x.toNat < 34 then (if (x :: t).length < sizeD x.toNat then (2 : Int) else if inD x.toNat (dA x.toNat t) (dB x.toNat t) then 0 else 5) else 40) = e
        rw [unhide HDA, unhide HDB, unhide HOP, if_pos h34, unhide HN, if_neg (by have := unhide HLn; simp; omega)]
        exact he
      cases hin : inD op a' vb
      · have HE : Hid (dE (x :: t) = 5) := hide (hDE 5 (by rw [hin]; rfl))
        have HV : Hid (dV k (x :: t) = #[.int .i64 0, .int .u8 0, .int .i64 0, .int .i64 0]) := hide (by unfold dV; rw [unhide HE]; rfl)
        clear hin hDE
        go_wp2
        refine bodyPost_ret (v := .tuple #[.agg #[.int .i64 0, .int .u8 ((0 : Nat) : Int), .int .i64 0, .int .i64 0], .int .i64 5]) (results_in2 rfl _ _ w.heap.size 0 0 0 0 5 rfl rfl (unhide HR4).zero) rfl ?_
        exact ⟨by rw [unhide HE, unhide HV]; rfl, below_chain (unhide HB4) (Nat.le_refl _) _ _ _ _⟩
      · have HE : Hid (dE (x :: t) = 0) := hide (hDE 0 (by rw [hin]; rfl))
        have HV : Hid (dV k (x :: t) = #[.int .i64 (k : Int), .int .u8 (op : Int), .int .i64 a', .int .i64 (vb : Int)]) := hide (by
          unfold dV; simp only []; rw [if_pos (unhide HE), unhide HDA, unhide HDB, unhide HOP])
        clear hin hDE
        obtain ⟨s1, s2, s3⟩ := (unhide HI4).c
        have s0 := (unhide HI4).c0
        go_wp2
        refine bodyPost_ret (v := .tuple #[.agg #[.int .i64 (k : Int), .int .u8 (op : Int), .int .i64 a', .int .i64 (vb : Int)], .int .i64 0]) (results_in2 rfl _ _ w.heap.size (k : Int) op a' (vb : Int) 0 rfl rfl ((unhide HR4).chain _ _ _ _)) rfl ?_
        exact ⟨by rw [unhide HE, unhide HV], below_chain (unhide HB4) (Nat.le_refl _) _ _ _ _⟩
  · have hA0 : A = 0 := hA
    have hB0 : B = 0 := by omega
    have hN1 : N = 1 := by omega
    have hck : c - k = 1 := by omega
    have ho1 : ¬ op = 1 := fun h => by
      have e := unhide HA
      rw [h, hA0] at e
      exact absurd e (by decide)
    have b1 : (((op : Nat) : Int) == 1) = false := beq_f (by omega)
    have HDA : Hid (dA x.toNat t = 0) := hide (by unfold dA; rw [unhide HOP, if_neg ho1, unhide HA, hA0]; rfl)
    have HDB : Hid (dB x.toNat t = 0) := hide (by unfold dB; rw [unhide HOP, unhide HBB, hB0]; simp [beNI])
    have G1 := hide (fun cap W => gather_any (some ⟨b, off + k, none⟩) cap [] W (BAt.nil _ _) (by simp))
    simp only [List.length_nil] at G1
    rw [hN1] at HN ⊢
    rw [hA0] at x1
    clear hC hA hN hA0 hB0 ho1 HA HBB HSZ la lb BA1 BA2 l1 l2 HNN j1 j2 j3 j4 hNc hNc2 hN1
    go_wp2_with fail
    with_reducible refine (unhide G1 _ _).mono ?_
    rintro e w3 ⟨rfl, q3, rfl⟩
    have HW3 : Hid (WidAt (w2.drewN q3)) := hide (unhide HW2)
    go_wp2_with fail
    with_reducible refine (Size_any op _ (unhide HW3) (by omega)).mono ?_
    rintro e w3 ⟨rfl, q4, rfl⟩
    rw [unhide HN]
    go_wp2_with fail
    with_reducible refine (unhide G1 _ _).mono ?_
    rintro e w3 ⟨rfl, q5, rfl⟩
    have HB3 : Hid (Below w.heap.size w ((w2.drewN (q3 + q4)).drewN q5)) := hide (belowD (belowD (unhide HB2) _) _)
    have HR3 : Hid (IAt ((w2.drewN (q3 + q4)).drewN q5) w.heap.size 0 0 0 0) := hide (unhide HR2)
    generalize (w2.drewN (q3 + q4)).drewN q5 = w3 at HB3 HR3 ⊢
    rw [show beNI ([] : List UInt8) = 0 from rfl]
    clear HB2 HR2 HW2 HBA2 G1 HW3 x1 x2 q3 q4 q5 w2
    go_wp2_with fail
    with_reducible refine (inSpans_any (k : Int) op (0 : Int) (0 : Int) _ h34).mono ?_
    rintro e w4 ⟨rfl, hB4⟩
    have HA3 : Below w3.heap.size w3 (w3.alloc (.cells #[.int .i64 (k : Int), .int .u8 (op : Int), .int .i64 (0 : Int), .int .i64 (0 : Int)] 68)) := (Below.refl _ _).alloc (Nat.le_refl _) _
    have HI4 : Hid (IAt w4 w3.heap.size (k : Int) op (0 : Int) (0 : Int)) := hide (IAt.below (heap_alloc_new w3 _) hB4)
    have HR4 : Hid (IAt w4 w.heap.size 0 0 0 0) := hide (((unhide HR3).below HA3).below hB4)
    have HB4 : Hid (Below w.heap.size w w4) := hide (((unhide HB3).trans (HA3.mono (unhide HB3).size)).trans (hB4.mono (by have := (unhide HB3).size; simp; omega)))
    clear hB4 HA3 HR3 HB3
    obtain ⟨r1, r2, r3⟩ := (unhide HR4).c
    have r0 := (unhide HR4).c0
    have f0 := (unhide HR4).f 0
    have f1 := (unhide HR4).f 1
    have f2 := (unhide HR4).f 2
    have f3 := (unhide HR4).f 3
    have hDE : ∀ e, (if inD op 0 0 then (0 : Int) else 5) = e → dE (x :: t) = e := fun e he => by
      show (if x.toNat < 34 then (if (x :: t).length < sizeD x.toNat then (2 : Int) else if inD x.toNat (dA x.toNat t) (dB x.toNat t) then 0 else 5) else 40) = e
      rw [unhide HDA, unhide HDB, unhide HOP, if_pos h34, unhide HN, if_neg (by simp)]
      exact he
    cases hin : inD op 0 0
    · have HE : Hid (dE (x :: t) = 5) := hide (hDE 5 (by rw [hin]; rfl))
      have HV : Hid (dV k (x :: t) = #[.int .i64 0, .int .u8 0, .int .i64 0, .int .i64 0]) := hide (by unfold dV; rw [unhide HE]; rfl)
      clear hin hDE
      go_wp2
      refine bodyPost_ret (v := .tuple #[.agg #[.int .i64 0, .int .u8 ((0 : Nat) : Int), .int .i64 0, .int .i64 0], .int .i64 5]) (results_in2 rfl _ _ w.heap.size 0 0 0 0 5 rfl rfl (unhide HR4).zero) rfl ?_
      exact ⟨by rw [unhide HE, unhide HV]; rfl, below_chain (unhide HB4) (Nat.le_refl _) _ _ _ _⟩
    · have HE : Hid (dE (x :: t) = 0) := hide (hDE 0 (by rw [hin]; rfl))
      have HV : Hid (dV k (x :: t) = #[.int .i64 (k : Int), .int .u8 (op : Int), .int .i64 (0 : Int), .int .i64 (0 : Int)]) := hide (by
        unfold dV; simp only []; rw [if_pos (unhide HE), unhide HDA, unhide HDB, unhide HOP])
      clear hin hDE
      obtain ⟨s1, s2, s3⟩ := (unhide HI4).c
      have s0 := (unhide HI4).c0
      go_wp2
      refine bodyPost_ret (v := .tuple #[.agg #[.int .i64 (k : Int), .int .u8 (op : Int), .int .i64 (0 : Int), .int .i64 (0 : Int)], .int .i64 0]) (results_in2 rfl _ _ w.heap.size (k : Int) op (0 : Int) (0 : Int) 0 rfl rfl ((unhide HR4).chain _ _ _ _)) rfl ?_
      exact ⟨by rw [unhide HE, unhide HV], below_chain (unhide HB4) (Nat.le_refl _) _ _ _ _⟩
end Go.Proofs.YtgelbihdcfgjcaaDoor

/-
  What provisoref04's take makes of an instruction's bytes is what Decode makes of them; they are in their spans but for a bool above 1. No Go in it.
  The contract of provisoref04.Decode: out of the bytes, and at their end. Conditions: lengths fit.
  The contract of provisoref04.Decode within the bytes: the same plain functions as of code.Decode. Conditions: lengths fit.
  The contracts of code.Decode and provisoref04.Decode at any place: the same plain answer. Conditions: the widths lie there, lengths fit.
-/
namespace Go.Proofs.YtgelbihdcfgjcaaDoor
open Go.RowKit
set_option maxRecDepth 20000

theorem tk_dA (op : Nat) (t : List UInt8) (h34 : op < 34) : tkI (wA op) (t.take (wA op)) = dA op t := by
  unfold dA
  by_cases h : op = 1
  · rw [if_pos h, (wA_which op h34).2.2 h]
    rfl
  · rw [if_neg h, tk_plain _ _ (fun e => h ((wA_which op h34).2.1 e))]
theorem tk_dB (op : Nat) (t : List UInt8) (h34 : op < 34) : tkI (wB op) ((t.drop (wA op)).take (wB op)) = dB op t := by
  unfold dB
  rw [tk_plain _ _ (by rcases wB_which op h34 with h | h <;> omega)]
theorem dec_in (op : Nat) (t : List UInt8) (h34 : op < 34) (hl : wA op + wB op ≤ t.length) : inD op (dA op t) (dB op t) = !(decide (op = 2) && decide (1 < dA op t)) := by
  rw [inD_fits op h34]
  have l1 : (t.take (wA op)).length = wA op := by rw [List.length_take]; omega
  have l2 : ((t.drop (wA op)).take (wB op)).length = wB op := by rw [List.length_take, List.length_drop]; omega
  have f1 : fitD (dA op t) (wA op) = true := by
    rw [← tk_dA op t h34]
    rcases (wA_which op h34).1 with h | h | h | h
    · rw [tk_plain _ _ (by omega)]; exact fit_be _ _ (by omega) l1
    · rw [tk_plain _ _ (by omega)]; exact fit_be _ _ (by omega) l1
    · rw [tk_plain _ _ (by omega)]; exact fit_be _ _ (by omega) l1
    · rw [h] at l1 ⊢
      exact fit_four _ l1
  have f2 : fitD (dB op t) (wB op) = true := by
    unfold dB
    exact fit_be _ _ (by rcases wB_which op h34 with h | h <;> omega) l2
  rw [f1, f2]
  rfl
set_option maxHeartbeats 1000000 in
theorem refDecode_out (ao : Option Addr) (c : Nat) (L : List UInt8) (at_ : Int) (w : World) (h : at_ < 0 ∨ (L.length : Int) < at_) :
    Calls Tryd.prog 33 #[.slice ao L.length c, .int .i64 at_] w fun e w' => e = .returned (.tuple #[.agg #[.int .i64 0, .int .u8 0, .int .i64 0, .int .i64 0], .int .i64 1]) ∧ Below w.heap.size w w' := by
  by_cases h0 : at_ < 0
  · have d0 : decide (at_ < 0) = true := decide_eq_true h0
    go_enter Tryd.func33, Tryd.ntmps33
    go_wp2
    go_returns
    exact ⟨rfl, by go_grown⟩
  · have d0 : decide (at_ < 0) = false := decide_eq_false h0
    have d1 : decide ((L.length : Int) < at_) = true := decide_eq_true (by omega)
    clear h h0
    go_enter Tryd.func33, Tryd.ntmps33
    go_wp2
    go_returns
    exact ⟨rfl, by go_grown⟩

theorem refDecode_end (ao : Option Addr) (c : Nat) (L : List UInt8) (w : World) :
    Calls Tryd.prog 33 #[.slice ao L.length c, .int .i64 (L.length : Int)] w fun e w' => e = .returned (.tuple #[.agg #[.int .i64 0, .int .u8 0, .int .i64 0, .int .i64 0], .int .i64 2]) ∧ Below w.heap.size w w' := by
  generalize L.length = k
  have d0 : decide ((k : Int) < 0) = false := decide_eq_false (by omega)
  have d1 : decide ((k : Int) < (k : Int)) = false := decide_eq_false (by omega)
  go_enter Tryd.func33, Tryd.ntmps33
  go_wp2
  go_returns
  exact ⟨rfl, by go_grown⟩
set_option maxHeartbeats 4000000 in
theorem refDecode_in (b off : Nat) (c : Nat) (L : List UInt8) (k : Nat) (w : World) (x : UInt8) (t : List UInt8) (hx : L.drop k = x :: t) (hb : BAt w (some ⟨b, off + k, none⟩) (x :: t)) (hl : L.length ≤ 140737488355328) (hc : L.length ≤ c) :
    Calls Tryd.prog 33 #[.slice (some ⟨b, off, none⟩) L.length c, .int .i64 (k : Int)] w fun e w' => e = .returned (.tuple #[.agg (dV k (x :: t)), .int .i64 (dE (x :: t))]) ∧ Below w.heap.size w w' := by
  have hlen : L.length - k = t.length + 1 := by have := congrArg List.length hx; simpa using this
  have HLn := hide hlen
  have d0 : decide ((k : Int) < 0) = false := decide_eq_false (by omega)
  have d1 : decide ((L.length : Int) < (k : Int)) = false := decide_eq_false (by omega)
  have d2 : ((k : Int) == (L.length : Int)) = false := beq_f (by omega)
  have i1 : (k : Int) < (L.length : Int) := by omega
  obtain ⟨b', off', e', hcell⟩ := hb.head (by simp)
  injection e' with e'
  injection e' with e1 e2
  subst e1 e2
  have c0 := hcell 0 (by simp)
  have hx0 : at8 (x :: t) 0 = (x.toNat : Int) := rfl
  rw [hx0] at c0
  have hop := x.toNat_lt
  generalize hopx : x.toNat = op at c0 hop
  have HOP := hide hopx
  have HBA0 := hide hb
  clear hx hlen hx0 hopx hcell hb
  have HB0 : Hid (Below w.heap.size w (w.alloc (.cells #[.int .i64 0, .int .u8 0, .int .i64 0, .int .i64 0] 68))) := hide ((Below.refl _ _).alloc (Nat.le_refl _) _)
  have hblt : b < w.heap.size := World.block_lt_of_cell? w _ c0
  have c0' : (w.alloc (.cells #[.int .i64 0, .int .u8 0, .int .i64 0, .int .i64 0] 68)).cell? ⟨b, off + k, none⟩ = some (.int .u8 (op : Int)) := ((unhide HB0).cell (p := ⟨b, off + k, none⟩) hblt).trans c0
  go_enter Tryd.func33, Tryd.ntmps33
  go_wp2_with fail
  with_reducible refine (refSize_any op _).mono ?_
  rintro e w1 ⟨rfl, rfl⟩
  by_cases h34 : op < 34
  rotate_left
  · have HE : Hid (dE (x :: t) = 40) := hide (by unfold dE; simp only [unhide HOP]; rw [if_neg h34])
    have HV : Hid (dV k (x :: t) = #[.int .i64 0, .int .u8 0, .int .i64 0, .int .i64 0]) := hide (by unfold dV; rw [unhide HE]; rfl)
    have hs : ((sizeD op : Int) == 0) = true := beq_t (by unfold sizeD; rw [if_neg h34]; rfl)
    clear h34
    go_wp2
    go_returns
    rw [unhide HE, unhide HV]
    exact ⟨rfl, by go_grown⟩
  have hs : ((sizeD op : Int) == 0) = false := beq_f (by unfold sizeD; rw [if_pos h34]; omega)
  have HSZ : Hid (sizeD op = 1 + wA op + wB op) := hide (by unfold sizeD; rw [if_pos h34])
  obtain ⟨N, HN⟩ : ∃ N, Hid (sizeD op = N) := ⟨_, hide rfl⟩
  rw [unhide HN] at hs ⊢
  by_cases hsh : L.length - k < N
  · have HE : Hid (dE (x :: t) = 2) := hide (by
      unfold dE; simp only [unhide HOP]; rw [if_pos h34, unhide HN, if_pos (by have := unhide HLn; simp; omega)])
    have HV : Hid (dV k (x :: t) = #[.int .i64 0, .int .u8 0, .int .i64 0, .int .i64 0]) := hide (by unfold dV; rw [unhide HE]; rfl)
    have hd : decide ((L.length : Int) - (k : Int) < (N : Int)) = true := decide_eq_true (by omega)
    clear hsh
    go_wp2
    go_returns
    rw [unhide HE, unhide HV]
    exact ⟨rfl, by go_grown⟩
  have hd : decide ((L.length : Int) - (k : Int) < (N : Int)) = false := decide_eq_false (by omega)
  go_wp2_with fail
  with_reducible refine (refWide_any op _ h34).mono ?_
  rintro e w1 ⟨rfl, rfl⟩
  have la := wA_le op h34
  have lb := wB_le op h34
  obtain ⟨A, HA⟩ : ∃ A, Hid (wA op = A) := ⟨_, hide rfl⟩
  obtain ⟨B, HBB⟩ : ∃ B, Hid (wB op = B) := ⟨_, hide rfl⟩
  rw [unhide HA] at la HSZ ⊢
  rw [unhide HBB] at lb HSZ ⊢
  have hNL : 1 + A + B ≤ L.length - k := by have := unhide HSZ; have := unhide HN; omega
  have j1 : (k : Int) + 1 ≤ (L.length : Int) := by omega
  have j2 : (k : Int) + 1 + (A : Int) ≤ (L.length : Int) := by omega
  go_wp2_with fail
  have HW0 : Hid (Below w.heap.size w ((w.alloc (.cells #[.int .i64 0, .int .u8 0, .int .i64 0, .int .i64 0] 68)).alloc (.cells #[.int .i64 0, .int .u8 0, .int .i64 0, .int .i64 0] 68))) := hide ((unhide HB0).trans (((Below.refl _ _).alloc (Nat.le_refl _) _).mono (by simp)))
  have HR0 : Hid (IAt ((w.alloc (.cells #[.int .i64 0, .int .u8 0, .int .i64 0, .int .i64 0] 68)).alloc (.cells #[.int .i64 0, .int .u8 0, .int .i64 0, .int .i64 0] 68)) w.heap.size 0 0 0 0) := hide (IAt.below (heap_alloc_new w _) ((Below.refl _ _).alloc (Nat.le_refl _) _))
  have HN0 : Hid (IAt ((w.alloc (.cells #[.int .i64 0, .int .u8 0, .int .i64 0, .int .i64 0] 68)).alloc (.cells #[.int .i64 0, .int .u8 0, .int .i64 0, .int .i64 0] 68)) (w.heap.size + 1) 0 0 0 0) := hide (by
    have h := heap_alloc_new (w.alloc (.cells #[.int .i64 0, .int .u8 0, .int .i64 0, .int .i64 0] 68)) (.cells #[.int .i64 0, .int .u8 0, .int .i64 0, .int .i64 0] 68)
    rw [World.size_alloc] at h
    exact h)
  have HBW : Hid (BAt ((w.alloc (.cells #[.int .i64 0, .int .u8 0, .int .i64 0, .int .i64 0] 68)).alloc (.cells #[.int .i64 0, .int .u8 0, .int .i64 0, .int .i64 0] 68)) (some ⟨b, off + k, none⟩) (x :: t)) := hide ((unhide HBA0).below' (unhide HW0))
  have hsz0 : w.heap.size + 2 = ((w.alloc (.cells #[.int .i64 0, .int .u8 0, .int .i64 0, .int .i64 0] 68)).alloc (.cells #[.int .i64 0, .int .u8 0, .int .i64 0, .int .i64 0] 68)).heap.size := by simp
  have HS0 := hide hsz0
  generalize ((w.alloc (.cells #[.int .i64 0, .int .u8 0, .int .i64 0, .int .i64 0] 68)).alloc (.cells #[.int .i64 0, .int .u8 0, .int .i64 0, .int .i64 0] 68)) = W0 at HW0 HR0 HN0 HBW HS0 ⊢
  clear hsz0
  have l1 : (t.take A).length = A := by have := unhide HLn; simp; omega
  have l2 : ((t.drop A).take B).length = B := by have := unhide HLn; simp; omega
  have BA1 : Hid (BAt W0 (some ⟨b, off + k + 1, none⟩) (t.take A)) := hide (BAt.part (unhide HBW) 1 A rfl)
  have BA2 : Hid (BAt W0 (some ⟨b, off + k + (1 + A), none⟩) ((t.drop A).take B)) := hide (BAt.part (unhide HBW) (1 + A) B (by rw [Nat.add_comm 1 A]; rfl))
  obtain ⟨P1, HP1⟩ : ∃ P1, Hid (P1 = if c = k + 1 then some ⟨b, off, none⟩ else some (⟨b, off + (k + 1), none⟩ : Addr)) := ⟨_, hide rfl⟩
  obtain ⟨P2, HP2⟩ : ∃ P2, Hid (P2 = if c = k + 1 + A then some ⟨b, off, none⟩ else some (⟨b, off + (k + 1 + A), none⟩ : Addr)) := ⟨_, hide rfl⟩
  have BP1 : Hid (BAt W0.drew P1 (t.take A)) := hide (by
    rw [unhide HP1]
    by_cases h : c = k + 1
    · have h0 : A = 0 := by omega
      rw [h0, List.take_zero]; exact BAt.nil _ _
    · rw [if_neg h]; exact unhide BA1)
  have BP2 : Hid (BAt W0.drew P2 ((t.drop A).take B)) := hide (by
    rw [unhide HP2]
    by_cases h : c = k + 1 + A
    · have h0 : B = 0 := by omega
      rw [h0, List.take_zero]; exact BAt.nil _ _
    · rw [if_neg h, show off + (k + 1 + A) = off + k + (1 + A) by omega]; exact unhide BA2)
  have HW1 : Hid (Below w.heap.size w W0.drew) := hide ((unhide HW0).trans ⟨rfl, rfl, rfl, Nat.le_refl _, fun _ _ => rfl⟩)
  have HR1 : Hid (IAt W0.drew w.heap.size 0 0 0 0) := hide (unhide HR0)
  have HN1 : Hid (IAt W0.drew (w.heap.size + 1) 0 0 0 0) := hide (unhide HN0)
  have hm1 : A ≤ L.length - (k + 1) := by omega
  have hm2 : B ≤ L.length - (k + 1 + A) := by omega
  clear HW0 HR0 HN0 HBW BA1 BA2 HB0 HBA0 HS0 c0' c0
  refine wp_region_held_drew (S := fun _ => True) (by kernel_rfl) trivial (fun hS => ?_)
  generalize W0.drew = W1 at HW1 HR1 HN1 BP1 BP2 ⊢
  clear W0
  have wr1 : IntKind.i64.wrap ((k : Int) + 1) = (k : Int) + 1 := by simp [IntKind.wrap, IntKind.bits, IntKind.signed]; omega
  have wr2 : IntKind.i64.wrap ((k : Int) + 1 + (A : Int)) = (k : Int) + 1 + (A : Int) := by simp [IntKind.wrap, IntKind.bits, IntKind.signed]; omega
  have j3 : ¬ (k : Int) + 1 < 0 := by omega
  have j4 : (0 : Int) ≤ (k : Int) + 1 + (A : Int) := by omega
  have j5 : ((k : Int) + 1 + (A : Int)).toNat = k + 1 + A := by omega
  refine wpAnyH_take (i := 0) (v := .int .i64 (k : Int)) rfl (by kernel_rfl) (by kernel_rfl) (by kernel_rfl) (fun _ _ _ h => h) (Or.inl ⟨by rfl, fun w _ => by go_simp⟩) hS ?_
  refine wpAnyH_take (i := 1) (v := .int .u8 (op : Int)) rfl (by kernel_rfl) (by kernel_rfl) (by kernel_rfl) (fun _ _ _ h => h) (Or.inl ⟨by rfl, fun w _ => by go_simp⟩) hS ?_
  refine wpAnyH_take (i := 2) (v := .slice (some ⟨b, off, none⟩) L.length c) rfl (by kernel_rfl) (by kernel_rfl) (by kernel_rfl) (fun _ _ _ h => h) (Or.inl ⟨by rfl, fun w _ => by go_simp⟩) hS ?_
  go_simp
  refine wpAnyH_take (i := 3) (v := .int .i64 (k : Int)) rfl (by kernel_rfl) (by kernel_rfl) (by kernel_rfl) (fun _ _ _ h => h) (Or.inl ⟨by rfl, fun w _ => by go_simp⟩) hS ?_
  refine wpAnyH_take (i := 4) (v := .int .i64 ((k : Int) + 1)) rfl (by kernel_rfl) (by kernel_rfl) (by kernel_rfl) (fun _ _ _ h => h) (Or.inl ⟨by rfl, fun w _ => by go_simp⟩) hS ?_
  refine wpAnyH_take (i := 5) (v := .slice P1 (L.length - (k + 1)) (c - (k + 1))) rfl (by kernel_rfl) (by kernel_rfl) (by kernel_rfl) (fun _ _ _ h => h) (Or.inl ⟨by rfl, fun w _ => by rw [unhide HP1]; go_simp⟩) hS ?_
  go_simp
  refine wpAnyH_take (i := 6) (v := .int .i64 (A : Int)) rfl (by kernel_rfl) (by kernel_rfl) (by kernel_rfl) (fun _ _ _ h => h) (Or.inl ⟨by rfl, fun w _ => by go_simp⟩) hS ?_
  refine wpAnyH_take (i := 8) (v := .slice (some ⟨b, off, none⟩) L.length c) rfl (by kernel_rfl) (by kernel_rfl) (by kernel_rfl) (fun _ _ _ h => h) (Or.inl ⟨by rfl, fun w _ => by go_simp⟩) hS ?_
  refine wpAnyH_take (i := 9) (v := .int .i64 (k : Int)) rfl (by kernel_rfl) (by kernel_rfl) (by kernel_rfl) (fun _ _ _ h => h) (Or.inl ⟨by rfl, fun w _ => by go_simp⟩) hS ?_
  go_simp
  refine wpAnyH_take (i := 10) (v := .int .i64 ((k : Int) + 1)) rfl (by kernel_rfl) (by kernel_rfl) (by kernel_rfl) (fun _ _ _ h => h) (Or.inl ⟨by rfl, fun w _ => by go_simp⟩) hS ?_
  refine wpAnyH_take (i := 11) (v := .int .i64 (A : Int)) rfl (by kernel_rfl) (by kernel_rfl) (by kernel_rfl) (fun _ _ _ h => h) (Or.inl ⟨by rfl, fun w _ => by go_simp⟩) hS ?_
  refine wpAnyH_take (i := 12) (v := .int .i64 ((k : Int) + 1 + (A : Int))) rfl (by kernel_rfl) (by kernel_rfl) (by kernel_rfl) (fun _ _ _ h => h) (Or.inl ⟨by rfl, fun w _ => by go_simp⟩) hS ?_
  go_simp
  refine wpAnyH_take (i := 13) (v := .slice P2 (L.length - (k + 1 + A)) (c - (k + 1 + A))) rfl (by kernel_rfl) (by kernel_rfl) (by kernel_rfl) (fun _ _ _ h => h) (Or.inl ⟨by rfl, fun w _ => by rw [unhide HP2]; go_simp⟩) hS ?_
  refine wpAnyH_take (i := 14) (v := .int .i64 (B : Int)) rfl (by kernel_rfl) (by kernel_rfl) (by kernel_rfl) (fun _ _ _ h => h) (Or.inl ⟨by rfl, fun w _ => by go_simp⟩) hS ?_
  go_simp
  have TA : Hid (tkI A (t.take A) = dA x.toNat t) := hide (by rw [← tk_dA x.toNat t (by rw [unhide HOP]; exact h34), unhide HOP, unhide HA])
  have TB : Hid (tkI B ((t.drop A).take B) = dB x.toNat t) := hide (by rw [← tk_dB x.toNat t (by rw [unhide HOP]; exact h34), unhide HOP, unhide HA, unhide HBB])
  have HIN : Hid (inD x.toNat (dA x.toNat t) (dB x.toNat t) = !(decide (op = 2) && decide (1 < dA x.toNat t))) := hide (by
    have h := dec_in x.toNat t (by rw [unhide HOP]; exact h34) (by rw [unhide HOP, unhide HA, unhide HBB]; have := unhide HLn; omega)
    rw [h, unhide HOP])
  have HDE : Hid (dE (x :: t) = if inD x.toNat (dA x.toNat t) (dB x.toNat t) then 0 else 5) := hide (by
    unfold dE; simp only []; rw [unhide HOP, if_pos h34, unhide HN, if_neg (by have := unhide HLn; simp; omega)])
  have HDV : Hid (dV k (x :: t) = if dE (x :: t) = 0 then #[.int .i64 (k : Int), .int .u8 (op : Int), .int .i64 (dA x.toNat t), .int .i64 (dB x.toNat t)] else #[.int .i64 0, .int .u8 0, .int .i64 0, .int .i64 0]) := hide (by
    unfold dV; simp only []; rw [unhide HOP])
  have T1 := hide (fun W h => refTake_any P1 (L.length - (k + 1)) (c - (k + 1)) A (t.take A) W h l1.symm hm1 (by omega))
  have T2 := hide (fun W h => refTake_any P2 (L.length - (k + 1 + A)) (c - (k + 1 + A)) B ((t.drop A).take B) W h l2.symm hm2 (by omega))
  rw [unhide TA] at T1
  rw [unhide TB] at T2
  generalize dA x.toNat t = va at HIN HDV HDE T1
  generalize dB x.toNat t = vb at HIN HDV HDE T2
  rw [unhide HIN] at HDE
  clear TA TB HIN
  refine wpAnyH_ready (rs := [7, 17]) (by kernel_rfl) (by simp) ?_
  refine (AllReadyH.cons rfl (fun K hK => ?_) (AllReadyH.cons rfl (fun K hK => ?_) AllReadyH.nil))
  · go_simp
    go_wp2_with (go_at_call 52; refine (unhide T1 _ (unhide BP1)).mono ?_; rintro e V1 ⟨rfl, q, rfl⟩)
    have HW2 : Hid (Below w.heap.size w (W1.drewN q)) := hide (belowD (unhide HW1) _)
    have HR3 : Hid (IAt (W1.drewN q) w.heap.size 0 0 0 0) := hide (unhide HR1)
    have HN4 : Hid (IAt (W1.drewN q) (w.heap.size + 1) 0 0 0 0) := hide (unhide HN1)
    have BP5 : Hid (BAt (W1.drewN q) P2 ((t.drop A).take B)) := hide (unhide BP2)
    refine hK.out _ _ trivial (fun hS => ?_)
    clear hK K
    generalize (W1.drewN q) = V1 at HW2 HR3 HN4 BP5 ⊢
    clear HW1 HR1 HN1 BP2 BP1 q
    refine wpAnyH_ready (rs := [15, 17]) (by kernel_rfl) (by simp) ?_
    refine (AllReadyH.cons rfl (fun K hK => ?_) (AllReadyH.cons rfl (fun K hK => ?_) AllReadyH.nil))
    · go_simp
      go_wp2_with (go_at_call 52; refine (unhide T2 _ (unhide BP5)).mono ?_; rintro e V6 ⟨rfl, q, rfl⟩)
      have HW7 : Hid (Below w.heap.size w (V1.drewN q)) := hide (belowD (unhide HW2) _)
      have HR8 : Hid (IAt (V1.drewN q) w.heap.size 0 0 0 0) := hide (unhide HR3)
      have HN9 : Hid (IAt (V1.drewN q) (w.heap.size + 1) 0 0 0 0) := hide (unhide HN4)
      refine hK.out _ _ trivial (fun hS => ?_)
      clear hK K
      generalize (V1.drewN q) = V6 at HW7 HR8 HN9 ⊢
      clear HW2 HR3 HN4 BP5 q
      refine wpAnyH_take (i := 16) (v := .agg #[.int .i64 (k : Int), .int .u8 (op : Int), .int .i64 va, .int .i64 vb]) rfl (by kernel_rfl) (by kernel_rfl) (by kernel_rfl) (fun _ _ _ h => h) (Or.inl ⟨by rfl, fun w _ => by go_simp⟩) hS ?_
      refine wpAnyH_ready (rs := [17]) (by kernel_rfl) (by simp) ?_
      refine (AllReadyH.cons rfl (fun K hK => ?_) AllReadyH.nil)
      go_simp
      have hal : Below V6.heap.size V6 (V6.alloc (.cells #[.int .i64 0, .int .u8 0, .int .i64 0, .int .i64 0] 68)) := (Below.refl _ _).alloc (Nat.le_refl _) _
      have HW10 : Hid (Below w.heap.size w (V6.alloc (.cells #[.int .i64 0, .int .u8 0, .int .i64 0, .int .i64 0] 68))) := hide ((unhide HW7).trans (hal.mono (unhide HW7).size))
      have HR11 : Hid (IAt (V6.alloc (.cells #[.int .i64 0, .int .u8 0, .int .i64 0, .int .i64 0] 68)) w.heap.size 0 0 0 0) := hide ((unhide HR8).below hal)
      have HN12 : Hid (IAt (V6.alloc (.cells #[.int .i64 0, .int .u8 0, .int .i64 0, .int .i64 0] 68)) (w.heap.size + 1) 0 0 0 0) := hide ((unhide HN9).below hal)
      have HX13 : Hid (IAt (V6.alloc (.cells #[.int .i64 0, .int .u8 0, .int .i64 0, .int .i64 0] 68)) V6.heap.size 0 0 0 0) := hide (heap_alloc_new V6 _)
      have hGn : w.heap.size + 2 ≤ V6.heap.size := (unhide HN9).lt
      refine hK.out _ _ trivial (fun hS => ?_)
      clear hK K hal HW7 HR8 HN9
      generalize (V6.alloc (.cells #[.int .i64 0, .int .u8 0, .int .i64 0, .int .i64 0] 68)) = V14 at HW10 HR11 HN12 HX13 ⊢
      generalize V6.heap.size = G at HX13 hGn ⊢
      clear V6
      refine wpAnyH_ready (rs := [18]) (by kernel_rfl) (by simp) ?_
      refine (AllReadyH.cons rfl (fun K hK => ?_) AllReadyH.nil)
      rw [if_pos (by rfl)]
      refine wp_store_row 68 _ _ rfl G #[.int .i64 (k : Int), .int .u8 (op : Int), .int .i64 va, .int .i64 vb] rfl rfl 68 #[.int .i64 0, .int .u8 0, .int .i64 0, .int .i64 0] (unhide HX13) sizeIn rfl (by simp; exact ⟨rfl, rfl, rfl, rfl⟩) ?_
      refine hK.out _ _ trivial (fun hS => ?_)
      clear hK K
      have HF1 : Hid (Below w.heap.size w (V14.setRow G #[.int .i64 (k : Int), .int .u8 (op : Int), .int .i64 va, .int .i64 vb])) := hide (below_setRowI (unhide HW10) (by omega) _)
      have HF2 : Hid (IAt (V14.setRow G #[.int .i64 (k : Int), .int .u8 (op : Int), .int .i64 va, .int .i64 vb]) w.heap.size 0 0 0 0) := hide ((unhide HR11).rowOther _ (by omega))
      have HF3 : Hid (IAt (V14.setRow G #[.int .i64 (k : Int), .int .u8 (op : Int), .int .i64 va, .int .i64 vb]) (w.heap.size + 1) 0 0 0 0) := hide ((unhide HN12).rowOther _ (by omega))
      have HF4 : Hid (IAt (V14.setRow G #[.int .i64 (k : Int), .int .u8 (op : Int), .int .i64 va, .int .i64 vb]) G (k : Int) op va vb) := hide ((unhide HX13).row _ _ _ _)
      generalize (V14.setRow G #[.int .i64 (k : Int), .int .u8 (op : Int), .int .i64 va, .int .i64 vb]) = U at HF1 HF2 HF3 HF4 ⊢
      clear HW10 HR11 HN12 HX13 V14
      refine wpAnyH_done (by kernel_rfl) ?_ _
      clear hS hGn
      obtain ⟨r1, r2, r3⟩ := (unhide HF2).c
      have r0 := (unhide HF2).c0
      have f0 := (unhide HF2).f 0
      have f1 := (unhide HF2).f 1
      have f2 := (unhide HF2).f 2
      have f3 := (unhide HF2).f 3
      obtain ⟨n1, n2, n3⟩ := (unhide HF3).c
      have n0 := (unhide HF3).c0
      obtain ⟨s1, s2, s3⟩ := (unhide HF4).c
      have s0 := (unhide HF4).c0
      by_cases hbad : op = 2 ∧ 1 < va
      · have HE : Hid (dE (x :: t) = 5) := hide (by rw [unhide HDE]; simp [hbad.1, hbad.2])
        have HV : Hid (dV k (x :: t) = #[.int .i64 0, .int .u8 0, .int .i64 0, .int .i64 0]) := hide (by rw [unhide HDV, unhide HE]; rfl)
        have b1 : (((op : Nat) : Int) == 2) = true := beq_t (by omega)
        have b2 : decide ((1 : Int) < va) = true := decide_eq_true hbad.2
        clear hbad
        go_wp2
        refine bodyPost_ret (v := .tuple #[.agg #[.int .i64 0, .int .u8 ((0 : Nat) : Int), .int .i64 0, .int .i64 0], .int .i64 5]) (results_in2 rfl _ _ w.heap.size 0 0 0 0 5 rfl rfl (unhide HF2).zero) rfl ?_
        exact ⟨by rw [unhide HE, unhide HV]; rfl, below_chain (unhide HF1) (Nat.le_refl _) _ _ _ _⟩
      · have HE : Hid (dE (x :: t) = 0) := hide (by
          rw [unhide HDE]
          by_cases h2 : op = 2
          · have h3 : ¬ 1 < va := fun h => hbad ⟨h2, h⟩
            simp [h3]
          · simp [h2])
        have HV : Hid (dV k (x :: t) = #[.int .i64 (k : Int), .int .u8 (op : Int), .int .i64 va, .int .i64 vb]) := hide (by rw [unhide HDV, unhide HE]; rfl)
        by_cases h2 : op = 2
        · have b1 : (((op : Nat) : Int) == 2) = true := beq_t (by omega)
          have b2 : decide ((1 : Int) < va) = false := decide_eq_false (fun h => hbad ⟨h2, h⟩)
          clear hbad h2
          go_wp2
          refine bodyPost_ret (v := .tuple #[.agg #[.int .i64 (k : Int), .int .u8 (op : Int), .int .i64 va, .int .i64 vb], .int .i64 0]) (results_in2 rfl _ _ w.heap.size (k : Int) op va vb 0 rfl rfl ((unhide HF2).chain _ _ _ _)) rfl ?_
          exact ⟨by rw [unhide HE, unhide HV], below_chain (unhide HF1) (Nat.le_refl _) _ _ _ _⟩
        · have b1 : (((op : Nat) : Int) == 2) = false := beq_f (by omega)
          clear hbad h2
          go_wp2
          refine bodyPost_ret (v := .tuple #[.agg #[.int .i64 (k : Int), .int .u8 (op : Int), .int .i64 va, .int .i64 vb], .int .i64 0]) (results_in2 rfl _ _ w.heap.size (k : Int) op va vb 0 rfl rfl ((unhide HF2).chain _ _ _ _)) rfl ?_
          exact ⟨by rw [unhide HE, unhide HV], below_chain (unhide HF1) (Nat.le_refl _) _ _ _ _⟩
    · go_simp
      have hal : Below V1.heap.size V1 (V1.alloc (.cells #[.int .i64 0, .int .u8 0, .int .i64 0, .int .i64 0] 68)) := (Below.refl _ _).alloc (Nat.le_refl _) _
      have HW15 : Hid (Below w.heap.size w (V1.alloc (.cells #[.int .i64 0, .int .u8 0, .int .i64 0, .int .i64 0] 68))) := hide ((unhide HW2).trans (hal.mono (unhide HW2).size))
      have HR16 : Hid (IAt (V1.alloc (.cells #[.int .i64 0, .int .u8 0, .int .i64 0, .int .i64 0] 68)) w.heap.size 0 0 0 0) := hide ((unhide HR3).below hal)
      have HN17 : Hid (IAt (V1.alloc (.cells #[.int .i64 0, .int .u8 0, .int .i64 0, .int .i64 0] 68)) (w.heap.size + 1) 0 0 0 0) := hide ((unhide HN4).below hal)
      have BP18 : Hid (BAt (V1.alloc (.cells #[.int .i64 0, .int .u8 0, .int .i64 0, .int .i64 0] 68)) P2 ((t.drop A).take B)) := hide ((unhide BP5).below' hal)
      have HX19 : Hid (IAt (V1.alloc (.cells #[.int .i64 0, .int .u8 0, .int .i64 0, .int .i64 0] 68)) V1.heap.size 0 0 0 0) := hide (heap_alloc_new V1 _)
      have hGn : w.heap.size + 2 ≤ V1.heap.size := (unhide HN4).lt
      refine hK.out _ _ trivial (fun hS => ?_)
      clear hK K hal HW2 HR3 HN4 BP5
      generalize (V1.alloc (.cells #[.int .i64 0, .int .u8 0, .int .i64 0, .int .i64 0] 68)) = V20 at HW15 HR16 HN17 BP18 HX19 ⊢
      generalize V1.heap.size = G at HX19 hGn ⊢
      clear V1
      refine wpAnyH_ready (rs := [15]) (by kernel_rfl) (by simp) ?_
      refine (AllReadyH.cons rfl (fun K hK => ?_) AllReadyH.nil)
      go_simp
      go_wp2_with (go_at_call 52; refine (unhide T2 _ (unhide BP18)).mono ?_; rintro e V21 ⟨rfl, q, rfl⟩)
      have HW22 : Hid (Below w.heap.size w (V20.drewN q)) := hide (belowD (unhide HW15) _)
      have HR23 : Hid (IAt (V20.drewN q) w.heap.size 0 0 0 0) := hide (unhide HR16)
      have HN24 : Hid (IAt (V20.drewN q) (w.heap.size + 1) 0 0 0 0) := hide (unhide HN17)
      have HX25 : Hid (IAt (V20.drewN q) G 0 0 0 0) := hide (unhide HX19)
      refine hK.out _ _ trivial (fun hS => ?_)
      clear hK K
      generalize (V20.drewN q) = V21 at HW22 HR23 HN24 HX25 ⊢
      clear HW15 HR16 HN17 BP18 HX19 q
      refine wpAnyH_take (i := 16) (v := .agg #[.int .i64 (k : Int), .int .u8 (op : Int), .int .i64 va, .int .i64 vb]) rfl (by kernel_rfl) (by kernel_rfl) (by kernel_rfl) (fun _ _ _ h => h) (Or.inl ⟨by rfl, fun w _ => by go_simp⟩) hS ?_
      refine wpAnyH_ready (rs := [18]) (by kernel_rfl) (by simp) ?_
      refine (AllReadyH.cons rfl (fun K hK => ?_) AllReadyH.nil)
      rw [if_pos (by rfl)]
      refine wp_store_row 68 _ _ rfl G #[.int .i64 (k : Int), .int .u8 (op : Int), .int .i64 va, .int .i64 vb] rfl rfl 68 #[.int .i64 0, .int .u8 0, .int .i64 0, .int .i64 0] (unhide HX25) sizeIn rfl (by simp; exact ⟨rfl, rfl, rfl, rfl⟩) ?_
      refine hK.out _ _ trivial (fun hS => ?_)
      clear hK K
      have HF1 : Hid (Below w.heap.size w (V21.setRow G #[.int .i64 (k : Int), .int .u8 (op : Int), .int .i64 va, .int .i64 vb])) := hide (below_setRowI (unhide HW22) (by omega) _)
      have HF2 : Hid (IAt (V21.setRow G #[.int .i64 (k : Int), .int .u8 (op : Int), .int .i64 va, .int .i64 vb]) w.heap.size 0 0 0 0) := hide ((unhide HR23).rowOther _ (by omega))
      have HF3 : Hid (IAt (V21.setRow G #[.int .i64 (k : Int), .int .u8 (op : Int), .int .i64 va, .int .i64 vb]) (w.heap.size + 1) 0 0 0 0) := hide ((unhide HN24).rowOther _ (by omega))
      have HF4 : Hid (IAt (V21.setRow G #[.int .i64 (k : Int), .int .u8 (op : Int), .int .i64 va, .int .i64 vb]) G (k : Int) op va vb) := hide ((unhide HX25).row _ _ _ _)
      generalize (V21.setRow G #[.int .i64 (k : Int), .int .u8 (op : Int), .int .i64 va, .int .i64 vb]) = U at HF1 HF2 HF3 HF4 ⊢
      clear HW22 HR23 HN24 HX25 V21
      refine wpAnyH_done (by kernel_rfl) ?_ _
      clear hS hGn
      obtain ⟨r1, r2, r3⟩ := (unhide HF2).c
      have r0 := (unhide HF2).c0
      have f0 := (unhide HF2).f 0
      have f1 := (unhide HF2).f 1
      have f2 := (unhide HF2).f 2
      have f3 := (unhide HF2).f 3
      obtain ⟨n1, n2, n3⟩ := (unhide HF3).c
      have n0 := (unhide HF3).c0
      obtain ⟨s1, s2, s3⟩ := (unhide HF4).c
      have s0 := (unhide HF4).c0
      by_cases hbad : op = 2 ∧ 1 < va
      · have HE : Hid (dE (x :: t) = 5) := hide (by rw [unhide HDE]; simp [hbad.1, hbad.2])
        have HV : Hid (dV k (x :: t) = #[.int .i64 0, .int .u8 0, .int .i64 0, .int .i64 0]) := hide (by rw [unhide HDV, unhide HE]; rfl)
        have b1 : (((op : Nat) : Int) == 2) = true := beq_t (by omega)
        have b2 : decide ((1 : Int) < va) = true := decide_eq_true hbad.2
        clear hbad
        go_wp2
        refine bodyPost_ret (v := .tuple #[.agg #[.int .i64 0, .int .u8 ((0 : Nat) : Int), .int .i64 0, .int .i64 0], .int .i64 5]) (results_in2 rfl _ _ w.heap.size 0 0 0 0 5 rfl rfl (unhide HF2).zero) rfl ?_
        exact ⟨by rw [unhide HE, unhide HV]; rfl, below_chain (unhide HF1) (Nat.le_refl _) _ _ _ _⟩
      · have HE : Hid (dE (x :: t) = 0) := hide (by
          rw [unhide HDE]
          by_cases h2 : op = 2
          · have h3 : ¬ 1 < va := fun h => hbad ⟨h2, h⟩
            simp [h3]
          · simp [h2])
        have HV : Hid (dV k (x :: t) = #[.int .i64 (k : Int), .int .u8 (op : Int), .int .i64 va, .int .i64 vb]) := hide (by rw [unhide HDV, unhide HE]; rfl)
        by_cases h2 : op = 2
        · have b1 : (((op : Nat) : Int) == 2) = true := beq_t (by omega)
          have b2 : decide ((1 : Int) < va) = false := decide_eq_false (fun h => hbad ⟨h2, h⟩)
          clear hbad h2
          go_wp2
          refine bodyPost_ret (v := .tuple #[.agg #[.int .i64 (k : Int), .int .u8 (op : Int), .int .i64 va, .int .i64 vb], .int .i64 0]) (results_in2 rfl _ _ w.heap.size (k : Int) op va vb 0 rfl rfl ((unhide HF2).chain _ _ _ _)) rfl ?_
          exact ⟨by rw [unhide HE, unhide HV], below_chain (unhide HF1) (Nat.le_refl _) _ _ _ _⟩
        · have b1 : (((op : Nat) : Int) == 2) = false := beq_f (by omega)
          clear hbad h2
          go_wp2
          refine bodyPost_ret (v := .tuple #[.agg #[.int .i64 (k : Int), .int .u8 (op : Int), .int .i64 va, .int .i64 vb], .int .i64 0]) (results_in2 rfl _ _ w.heap.size (k : Int) op va vb 0 rfl rfl ((unhide HF2).chain _ _ _ _)) rfl ?_
          exact ⟨by rw [unhide HE, unhide HV], below_chain (unhide HF1) (Nat.le_refl _) _ _ _ _⟩
  · go_simp
    have hal : Below W1.heap.size W1 (W1.alloc (.cells #[.int .i64 0, .int .u8 0, .int .i64 0, .int .i64 0] 68)) := (Below.refl _ _).alloc (Nat.le_refl _) _
    have HW26 : Hid (Below w.heap.size w (W1.alloc (.cells #[.int .i64 0, .int .u8 0, .int .i64 0, .int .i64 0] 68))) := hide ((unhide HW1).trans (hal.mono (unhide HW1).size))
    have HR27 : Hid (IAt (W1.alloc (.cells #[.int .i64 0, .int .u8 0, .int .i64 0, .int .i64 0] 68)) w.heap.size 0 0 0 0) := hide ((unhide HR1).below hal)
    have HN28 : Hid (IAt (W1.alloc (.cells #[.int .i64 0, .int .u8 0, .int .i64 0, .int .i64 0] 68)) (w.heap.size + 1) 0 0 0 0) := hide ((unhide HN1).below hal)
    have BP29 : Hid (BAt (W1.alloc (.cells #[.int .i64 0, .int .u8 0, .int .i64 0, .int .i64 0] 68)) P1 (t.take A)) := hide ((unhide BP1).below' hal)
    have BP30 : Hid (BAt (W1.alloc (.cells #[.int .i64 0, .int .u8 0, .int .i64 0, .int .i64 0] 68)) P2 ((t.drop A).take B)) := hide ((unhide BP2).below' hal)
    have HX31 : Hid (IAt (W1.alloc (.cells #[.int .i64 0, .int .u8 0, .int .i64 0, .int .i64 0] 68)) W1.heap.size 0 0 0 0) := hide (heap_alloc_new W1 _)
    have hGn : w.heap.size + 2 ≤ W1.heap.size := (unhide HN1).lt
    refine hK.out _ _ trivial (fun hS => ?_)
    clear hK K hal HW1 HR1 HN1 BP1 BP2
    generalize (W1.alloc (.cells #[.int .i64 0, .int .u8 0, .int .i64 0, .int .i64 0] 68)) = V32 at HW26 HR27 HN28 BP29 BP30 HX31 ⊢
    generalize W1.heap.size = G at HX31 hGn ⊢
    clear W1
    refine wpAnyH_ready (rs := [7]) (by kernel_rfl) (by simp) ?_
    refine (AllReadyH.cons rfl (fun K hK => ?_) AllReadyH.nil)
    go_simp
    go_wp2_with (go_at_call 52; refine (unhide T1 _ (unhide BP29)).mono ?_; rintro e V33 ⟨rfl, q, rfl⟩)
    have HW34 : Hid (Below w.heap.size w (V32.drewN q)) := hide (belowD (unhide HW26) _)
    have HR35 : Hid (IAt (V32.drewN q) w.heap.size 0 0 0 0) := hide (unhide HR27)
    have HN36 : Hid (IAt (V32.drewN q) (w.heap.size + 1) 0 0 0 0) := hide (unhide HN28)
    have BP37 : Hid (BAt (V32.drewN q) P2 ((t.drop A).take B)) := hide (unhide BP30)
    have HX38 : Hid (IAt (V32.drewN q) G 0 0 0 0) := hide (unhide HX31)
    refine hK.out _ _ trivial (fun hS => ?_)
    clear hK K
    generalize (V32.drewN q) = V33 at HW34 HR35 HN36 BP37 HX38 ⊢
    clear HW26 HR27 HN28 BP30 HX31 BP29 q
    refine wpAnyH_ready (rs := [15]) (by kernel_rfl) (by simp) ?_
    refine (AllReadyH.cons rfl (fun K hK => ?_) AllReadyH.nil)
    go_simp
    go_wp2_with (go_at_call 52; refine (unhide T2 _ (unhide BP37)).mono ?_; rintro e V39 ⟨rfl, q, rfl⟩)
    have HW40 : Hid (Below w.heap.size w (V33.drewN q)) := hide (belowD (unhide HW34) _)
    have HR41 : Hid (IAt (V33.drewN q) w.heap.size 0 0 0 0) := hide (unhide HR35)
    have HN42 : Hid (IAt (V33.drewN q) (w.heap.size + 1) 0 0 0 0) := hide (unhide HN36)
    have HX43 : Hid (IAt (V33.drewN q) G 0 0 0 0) := hide (unhide HX38)
    refine hK.out _ _ trivial (fun hS => ?_)
    clear hK K
    generalize (V33.drewN q) = V39 at HW40 HR41 HN42 HX43 ⊢
    clear HW34 HR35 HN36 BP37 HX38 q
    refine wpAnyH_take (i := 16) (v := .agg #[.int .i64 (k : Int), .int .u8 (op : Int), .int .i64 va, .int .i64 vb]) rfl (by kernel_rfl) (by kernel_rfl) (by kernel_rfl) (fun _ _ _ h => h) (Or.inl ⟨by rfl, fun w _ => by go_simp⟩) hS ?_
    refine wpAnyH_ready (rs := [18]) (by kernel_rfl) (by simp) ?_
    refine (AllReadyH.cons rfl (fun K hK => ?_) AllReadyH.nil)
    rw [if_pos (by rfl)]
    refine wp_store_row 68 _ _ rfl G #[.int .i64 (k : Int), .int .u8 (op : Int), .int .i64 va, .int .i64 vb] rfl rfl 68 #[.int .i64 0, .int .u8 0, .int .i64 0, .int .i64 0] (unhide HX43) sizeIn rfl (by simp; exact ⟨rfl, rfl, rfl, rfl⟩) ?_
    refine hK.out _ _ trivial (fun hS => ?_)
    clear hK K
    have HF1 : Hid (Below w.heap.size w (V39.setRow G #[.int .i64 (k : Int), .int .u8 (op : Int), .int .i64 va, .int .i64 vb])) := hide (below_setRowI (unhide HW40) (by omega) _)
    have HF2 : Hid (IAt (V39.setRow G #[.int .i64 (k : Int), .int .u8 (op : Int), .int .i64 va, .int .i64 vb]) w.heap.size 0 0 0 0) := hide ((unhide HR41).rowOther _ (by omega))
    have HF3 : Hid (IAt (V39.setRow G #[.int .i64 (k : Int), .int .u8 (op : Int), .int .i64 va, .int .i64 vb]) (w.heap.size + 1) 0 0 0 0) := hide ((unhide HN42).rowOther _ (by omega))
    have HF4 : Hid (IAt (V39.setRow G #[.int .i64 (k : Int), .int .u8 (op : Int), .int .i64 va, .int .i64 vb]) G (k : Int) op va vb) := hide ((unhide HX43).row _ _ _ _)
    generalize (V39.setRow G #[.int .i64 (k : Int), .int .u8 (op : Int), .int .i64 va, .int .i64 vb]) = U at HF1 HF2 HF3 HF4 ⊢
    clear HW40 HR41 HN42 HX43 V39
    refine wpAnyH_done (by kernel_rfl) ?_ _
    clear hS hGn
    obtain ⟨r1, r2, r3⟩ := (unhide HF2).c
    have r0 := (unhide HF2).c0
    have f0 := (unhide HF2).f 0
    have f1 := (unhide HF2).f 1
    have f2 := (unhide HF2).f 2
    have f3 := (unhide HF2).f 3
    obtain ⟨n1, n2, n3⟩ := (unhide HF3).c
    have n0 := (unhide HF3).c0
    obtain ⟨s1, s2, s3⟩ := (unhide HF4).c
    have s0 := (unhide HF4).c0
    by_cases hbad : op = 2 ∧ 1 < va
    · have HE : Hid (dE (x :: t) = 5) := hide (by rw [unhide HDE]; simp [hbad.1, hbad.2])
      have HV : Hid (dV k (x :: t) = #[.int .i64 0, .int .u8 0, .int .i64 0, .int .i64 0]) := hide (by rw [unhide HDV, unhide HE]; rfl)
      have b1 : (((op : Nat) : Int) == 2) = true := beq_t (by omega)
      have b2 : decide ((1 : Int) < va) = true := decide_eq_true hbad.2
      clear hbad
      go_wp2
      refine bodyPost_ret (v := .tuple #[.agg #[.int .i64 0, .int .u8 ((0 : Nat) : Int), .int .i64 0, .int .i64 0], .int .i64 5]) (results_in2 rfl _ _ w.heap.size 0 0 0 0 5 rfl rfl (unhide HF2).zero) rfl ?_
      exact ⟨by rw [unhide HE, unhide HV]; rfl, below_chain (unhide HF1) (Nat.le_refl _) _ _ _ _⟩
    · have HE : Hid (dE (x :: t) = 0) := hide (by
        rw [unhide HDE]
        by_cases h2 : op = 2
        · have h3 : ¬ 1 < va := fun h => hbad ⟨h2, h⟩
          simp [h3]
        · simp [h2])
      have HV : Hid (dV k (x :: t) = #[.int .i64 (k : Int), .int .u8 (op : Int), .int .i64 va, .int .i64 vb]) := hide (by rw [unhide HDV, unhide HE]; rfl)
      by_cases h2 : op = 2
      · have b1 : (((op : Nat) : Int) == 2) = true := beq_t (by omega)
        have b2 : decide ((1 : Int) < va) = false := decide_eq_false (fun h => hbad ⟨h2, h⟩)
        clear hbad h2
        go_wp2
        refine bodyPost_ret (v := .tuple #[.agg #[.int .i64 (k : Int), .int .u8 (op : Int), .int .i64 va, .int .i64 vb], .int .i64 0]) (results_in2 rfl _ _ w.heap.size (k : Int) op va vb 0 rfl rfl ((unhide HF2).chain _ _ _ _)) rfl ?_
        exact ⟨by rw [unhide HE, unhide HV], below_chain (unhide HF1) (Nat.le_refl _) _ _ _ _⟩
      · have b1 : (((op : Nat) : Int) == 2) = false := beq_f (by omega)
        clear hbad h2
        go_wp2
        refine bodyPost_ret (v := .tuple #[.agg #[.int .i64 (k : Int), .int .u8 (op : Int), .int .i64 va, .int .i64 vb], .int .i64 0]) (results_in2 rfl _ _ w.heap.size (k : Int) op va vb 0 rfl rfl ((unhide HF2).chain _ _ _ _)) rfl ?_
        exact ⟨by rw [unhide HE, unhide HV], below_chain (unhide HF1) (Nat.le_refl _) _ _ _ _⟩
/-- Decode's error and its instruction, at any place. -/
def dcE (L : List UInt8) (p : Int) : Int := if p < 0 ∨ (L.length : Int) < p then 1 else dE (L.drop p.toNat)
def dcV (L : List UInt8) (p : Int) : Array Value := if p < 0 ∨ (L.length : Int) < p then #[.int .i64 0, .int .u8 0, .int .i64 0, .int .i64 0] else dV p (L.drop p.toNat)
theorem dV_shape (p : Int) (l : List UInt8) : ∃ (q : Int) (op : Nat) (a b : Int), op < 256 ∧ dV p l = #[.int .i64 q, .int .u8 (op : Int), .int .i64 a, .int .i64 b] := by
  unfold dV
  cases l with
  | nil => exact ⟨0, 0, 0, 0, by omega, rfl⟩
  | cons x t =>
    simp only []
    split
    · exact ⟨p, x.toNat, _, _, x.toNat_lt, rfl⟩
    · exact ⟨0, 0, 0, 0, by omega, rfl⟩
theorem dcV_shape (L : List UInt8) (p : Int) : ∃ (q : Int) (op : Nat) (a b : Int), op < 256 ∧ dcV L p = #[.int .i64 q, .int .u8 (op : Int), .int .i64 a, .int .i64 b] := by
  unfold dcV
  split
  · exact ⟨0, 0, 0, 0, by omega, rfl⟩
  · exact dV_shape _ _
theorem BAt.dropAt {w : World} {b off : Nat} {L : List UInt8} (h : BAt w (some ⟨b, off, none⟩) L) (k : Nat) : BAt w (some ⟨b, off + k, none⟩) (L.drop k) := by
  intro i hi
  rw [List.length_drop] at hi
  obtain ⟨b', off', e, hc⟩ := h (k + i) (by omega)
  injection e with e
  injection e with e1 e2
  subst e1 e2
  refine ⟨b, off + k, rfl, ?_⟩
  rw [show off + k + i = off + (k + i) by omega, hc]
  unfold at8
  rw [List.getD_eq_getElem?_getD, List.getD_eq_getElem?_getD, List.getElem?_drop]

theorem Decode_any (ao : Option Addr) (c : Nat) (L : List UInt8) (p : Int) (w : World) (hb : BAt w ao L) (hW : WidAt w) (hl : L.length ≤ 140737488355328) (hc : L.length ≤ c) :
    Calls Tryd.prog 29 #[.slice ao L.length c, .int .i64 p] w fun e w' => e = .returned (.tuple #[.agg (dcV L p), .int .i64 (dcE L p)]) ∧ Below w.heap.size w w' := by
  by_cases h : p < 0 ∨ (L.length : Int) < p
  · have e1 : dcE L p = 1 := by unfold dcE; rw [if_pos h]
    have e2 : dcV L p = #[.int .i64 0, .int .u8 0, .int .i64 0, .int .i64 0] := by unfold dcV; rw [if_pos h]
    rw [e1, e2]
    exact Decode_out ao c L p w h
  obtain ⟨k, rfl⟩ : ∃ k : Nat, p = (k : Int) := ⟨p.toNat, by omega⟩
  have e1 : dcE L (k : Int) = dE (L.drop k) := by unfold dcE; rw [if_neg h]; simp
  have e2 : dcV L (k : Int) = dV (k : Int) (L.drop k) := by unfold dcV; rw [if_neg h]; simp
  rw [e1, e2]
  by_cases hk : k = L.length
  · subst hk
    rw [List.drop_length]
    exact Decode_end ao c L w hl
  · obtain ⟨b, off, rfl, _⟩ := hb.head (by omega)
    have hd := hb.dropAt k
    cases hx : L.drop k with
    | nil => exact absurd (List.drop_eq_nil_iff.1 hx) (by omega)
    | cons x t =>
      rw [hx] at hd
      exact Decode_in b off c L k w x t hx hd hW hl hc

theorem refDecode_any (ao : Option Addr) (c : Nat) (L : List UInt8) (p : Int) (w : World) (hb : BAt w ao L) (hl : L.length ≤ 140737488355328) (hc : L.length ≤ c) :
    Calls Tryd.prog 33 #[.slice ao L.length c, .int .i64 p] w fun e w' => e = .returned (.tuple #[.agg (dcV L p), .int .i64 (dcE L p)]) ∧ Below w.heap.size w w' := by
  by_cases h : p < 0 ∨ (L.length : Int) < p
  · have e1 : dcE L p = 1 := by unfold dcE; rw [if_pos h]
    have e2 : dcV L p = #[.int .i64 0, .int .u8 0, .int .i64 0, .int .i64 0] := by unfold dcV; rw [if_pos h]
    rw [e1, e2]
    exact refDecode_out ao c L p w h
  obtain ⟨k, rfl⟩ : ∃ k : Nat, p = (k : Int) := ⟨p.toNat, by omega⟩
  have e1 : dcE L (k : Int) = dE (L.drop k) := by unfold dcE; rw [if_neg h]; simp
  have e2 : dcV L (k : Int) = dV (k : Int) (L.drop k) := by unfold dcV; rw [if_neg h]; simp
  rw [e1, e2]
  by_cases hk : k = L.length
  · subst hk
    rw [List.drop_length]
    exact refDecode_end ao c L w
  · obtain ⟨b, off, rfl, _⟩ := hb.head (by omega)
    have hd := hb.dropAt k
    cases hx : L.drop k with
    | nil => exact absurd (List.drop_eq_nil_iff.1 hx) (by omega)
    | cons x t =>
      rw [hx] at hd
      exact refDecode_in b off c L k w x t hx hd hl hc
end Go.Proofs.YtgelbihdcfgjcaaDoor

/-
  Rows of instructions; the contracts of slices.Clone and slices.Equal of them (of rows that are alike). Conditions: lengths fit.
-/
namespace Go.Proofs.YtgelbihdcfgjcaaDoor
open Go.RowKit
set_option maxRecDepth 20000

/-- An instruction. -/
structure Ix where
  p : Int
  op : Nat
  a : Int
  b : Int
/-- It lies in four cells. -/
structure IxAt (w : World) (b off : Nat) (x : Ix) : Prop where
  c0 : w.cell? ⟨b, off, none⟩ = some (.int .i64 x.p)
  c1 : w.cell? ⟨b, off + 1, none⟩ = some (.int .u8 (x.op : Int))
  c2 : w.cell? ⟨b, off + 2, none⟩ = some (.int .i64 x.a)
  c3 : w.cell? ⟨b, off + 3, none⟩ = some (.int .i64 x.b)
  ho : x.op < 256
def XsAt (w : World) (ao : Option Addr) (l : List Ix) : Prop := ∀ (i : Nat) x, l[i]? = some x → ∃ b off, ao = some ⟨b, off, none⟩ ∧ IxAt w b (off + i * 4) x
theorem IxAt.below {w w' : World} {b off : Nat} {x : Ix} (h : IxAt w b off x) (hb : Below w.heap.size w w') : IxAt w' b off x := by
  have hl := World.block_lt_of_cell? w _ h.c0
  exact ⟨(hb.cell (p := ⟨b, off, none⟩) hl).trans h.c0, (hb.cell (p := ⟨b, off + 1, none⟩) hl).trans h.c1, (hb.cell (p := ⟨b, off + 2, none⟩) hl).trans h.c2, (hb.cell (p := ⟨b, off + 3, none⟩) hl).trans h.c3, h.ho⟩
theorem XsAt.below {w w' : World} {ao : Option Addr} {l : List Ix} (h : XsAt w ao l) (hb : Below w.heap.size w w') : XsAt w' ao l := fun i x hx => by
  obtain ⟨b, off, e, hc⟩ := h i x hx
  exact ⟨b, off, e, hc.below hb⟩
theorem infoX : (Tryd.prog.info? 68).map (fun i => (i.zero, i.size, i.bytes)) = some (some (.agg #[.int .i64 0, .int .u8 0, .int .i64 0, .int .i64 0]), 4, 32) := by kernel_rfl

def xcells (x : Ix) : List Value := [.int .i64 x.p, .int .u8 (x.op : Int), .int .i64 x.a, .int .i64 x.b]
def xvals (l : List Ix) : List Value := l.flatMap xcells
theorem xvals_length (l : List Ix) : (xvals l).length = l.length * 4 := by
  unfold xvals
  induction l with
  | nil => rfl
  | cons f l ih => rw [List.flatMap_cons, List.length_append, ih]; simp [xcells]; omega
theorem xvals_one (l : List Ix) : ∀ u ∈ xvals l, u.oneCell' = true := by
  intro u hu
  unfold xvals at hu
  obtain ⟨f, _, hf⟩ := List.mem_flatMap.1 hu
  simp [xcells] at hf
  rcases hf with rfl | rfl | rfl | rfl <;> rfl
theorem xvals_get : ∀ {l : List Ix} {i : Nat} {f : Ix}, l[i]? = some f → (xvals l)[i * 4]? = some (.int .i64 f.p) ∧ (xvals l)[i * 4 + 1]? = some (.int .u8 (f.op : Int)) ∧ (xvals l)[i * 4 + 2]? = some (.int .i64 f.a) ∧ (xvals l)[i * 4 + 3]? = some (.int .i64 f.b)
  | [], i, f, h => by simp at h
  | g :: l, 0, f, h => by
    simp at h
    subst h
    unfold xvals
    rw [List.flatMap_cons]
    exact ⟨rfl, rfl, rfl, rfl⟩
  | g :: l, i + 1, f, h => by
    have h' : l[i]? = some f := by simpa using h
    obtain ⟨h1, h2, h3, h4⟩ := xvals_get h'
    unfold xvals at h1 h2 h3 h4 ⊢
    rw [List.flatMap_cons]
    refine ⟨?_, ?_, ?_, ?_⟩
    · rw [List.getElem?_append_right (by simp [xcells]; omega)]
      rw [← h1]; congr 1; simp [xcells]; omega
    · rw [List.getElem?_append_right (by simp [xcells]; omega)]
      rw [← h2]; congr 1; simp [xcells]; omega
    · rw [List.getElem?_append_right (by simp [xcells]; omega)]
      rw [← h3]; congr 1; simp [xcells]; omega
    · rw [List.getElem?_append_right (by simp [xcells]; omega)]
      rw [← h4]; congr 1; simp [xcells]; omega
theorem xcells_at {w : World} {b : Nat} : ∀ (fs : List Ix) (off : Nat), (∀ (i : Nat) f, fs[i]? = some f → IxAt w b (off + i * 4) f) → ∀ (j : Nat) u, (xvals fs)[j]? = some u → w.cell? ⟨b, off + j, none⟩ = some u
  | [], off, h, j, u, hu => by simp [xvals] at hu
  | f :: fs, off, h, j, u, hu => by
    have h0 := h 0 f rfl
    unfold xvals at hu
    rw [List.flatMap_cons] at hu
    match j with
    | 0 =>
      simp [xcells] at hu
      subst hu
      simpa using h0.c0
    | 1 =>
      simp [xcells] at hu
      subst hu
      simpa using h0.c1
    | 2 =>
      simp [xcells] at hu
      subst hu
      simpa using h0.c2
    | 3 =>
      simp [xcells] at hu
      subst hu
      simpa using h0.c3
    | j + 4 =>
      rw [List.getElem?_append_right (by simp [xcells])] at hu
      have := xcells_at fs (off + 4) (fun i g hg => by
        have := h (i + 1) g (by simpa using hg)
        rw [show off + (i + 1) * 4 = off + 4 + i * 4 from by omega] at this
        exact this) j u (by simpa [xcells, xvals] using hu)
      rw [show off + (j + 4) = off + 4 + j from by omega]
      exact this
def OwnX (w : World) (base : Nat) (v : Value) (l : List Ix) : Prop := w.ownsRow base 68 4 v l.length (xvals l)
theorem OwnX.at {w : World} {base : Nat} {v : Value} {l : List Ix} (h : OwnX w base v l) (hok : ∀ f ∈ l, f.op < 256) : ∃ ao cap, v = .slice ao l.length cap ∧ XsAt w ao l := by
  rcases h.2 with ⟨h1, h2⟩ | ⟨g, cap, cur, rfl, hb, hh, hn, hm, hs, ht⟩
  · obtain rfl := List.eq_nil_of_length_eq_zero h2
    exact ⟨none, 0, h1, fun i f hf => by simp at hf⟩
  · refine ⟨_, cap, rfl, fun i f hf => ⟨g, 0, rfl, ?_⟩⟩
    have hi := (List.getElem?_eq_some_iff.1 hf).1
    obtain ⟨h1, h2, h3, h4⟩ := xvals_get hf
    refine ⟨?_, ?_, ?_, ?_, hok f (List.mem_of_getElem? hf)⟩
    · rw [Nat.zero_add, h.cellAt (i * 4) (by omega)]; exact h1
    · rw [Nat.zero_add, h.cellAt (i * 4 + 1) (by omega)]; exact h2
    · rw [Nat.zero_add, h.cellAt (i * 4 + 2) (by omega)]; exact h3
    · rw [Nat.zero_add, h.cellAt (i * 4 + 3) (by omega)]; exact h4
theorem XsAt.ok {w : World} {ao : Option Addr} {l : List Ix} (h : XsAt w ao l) : ∀ f ∈ l, f.op < 256 := fun f hf => by
  obtain ⟨i, hi⟩ := List.mem_iff_getElem?.1 hf
  obtain ⟨_, _, _, hc⟩ := h i f hi
  exact hc.ho

end Go.Proofs.YtgelbihdcfgjcaaDoor
