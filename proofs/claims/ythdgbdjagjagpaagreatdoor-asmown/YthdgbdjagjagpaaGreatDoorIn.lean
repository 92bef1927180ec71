/-
  The instructions' widths and words, plainly, and how the package's variables hold them; contracts of code.isOp, Size and Name and of provisoref04's wide, Size, Jumps and Ends. Conditions: the variables lie there.
-/
import Derived.Test.YthdgbdjagjagpaaGreatDoorMem
import Derived.Deep.MidRow
namespace Go.Proofs.YthdgbdjagjagpaaGreatDoor
open Go.RowKit
set_option maxRecDepth 20000

def wA (op : Nat) : Nat := ([0, 4, 1, 0, 1, 1, 0, 0, 0, 0, 0, 0, 0, 0, 0, 0, 0, 0, 0, 2, 2, 1, 0, 1, 1, 1, 0, 0, 0, 0, 1, 1, 1, 0] : List Nat).getD op 0
def wB (op : Nat) : Nat := ([0, 0, 0, 0, 0, 0, 0, 0, 0, 0, 0, 0, 0, 0, 0, 0, 0, 0, 0, 0, 0, 0, 0, 0, 1, 1, 0, 0, 0, 0, 0, 0, 0, 0] : List Nat).getD op 0
theorem below34 {p : Nat → Prop} (h : ∀ i : Fin 34, p i.val) : ∀ i, i < 34 → p i := fun i hi => h ⟨i, hi⟩
theorem wA_le : ∀ op, op < 34 → wA op ≤ 4 := below34 (by decide)
theorem wB_le : ∀ op, op < 34 → wB op ≤ 1 := below34 (by decide)
def sizeD (op : Nat) : Nat := if op < 34 then 1 + wA op + wB op else 0

/-- The variable holds the widths. -/
def WidAt (W : World) : Prop := ∀ op, op < 34 → W.cell? ⟨1, op * 2, none⟩ = some (.int .i64 (wA op : Int)) ∧ W.cell? ⟨1, op * 2 + 1, none⟩ = some (.int .i64 (wB op : Int))
theorem WidAt.below {W W' : World} (h : WidAt W) (hb : Below W.heap.size W W') : WidAt W' := fun op ho => by
  have h1 := h op ho
  have hl := World.block_lt_of_cell? W _ h1.1
  exact ⟨(hb.cell (p := ⟨1, op * 2, none⟩) hl).trans h1.1, (hb.cell (p := ⟨1, op * 2 + 1, none⟩) hl).trans h1.2⟩
theorem WidAt.drewN {W : World} (h : WidAt W) (k : Nat) : WidAt (W.drewN k) := h

theorem isOp_any (op : Nat) (w : World) : Calls Tryz.prog 74 #[.int .u8 (op : Int)] w fun e w' => e = .returned (.bool (decide (op < 34))) ∧ w' = w := by
  have e : decide ((op : Int) < 34) = decide (op < 34) := by rw [decide_eq_decide]; omega
  have E := hide e
  clear e
  go_enter Tryz.func74, Tryz.ntmps74
  go_wp2
  go_ret
  exact ⟨ret_bool (unhide E), rfl⟩

set_option maxHeartbeats 1000000 in
theorem Size_any (op : Nat) (w : World) (hW : WidAt w) (ho : op < 256) : Calls Tryz.prog 80 #[.int .u8 (op : Int)] w fun e w' => e = .returned (.int .i64 (sizeD op : Int)) ∧ ∃ k, w' = w.drewN k := by
  have HW := hide hW
  clear hW
  by_cases h : op < 34
  · have HR : Hid (sizeD op = 1 + wA op + wB op) := hide (by unfold sizeD; rw [if_pos h])
    obtain ⟨c1, c2⟩ := unhide HW op h
    have l1 := wA_le op h
    have l2 := wB_le op h
    generalize wA op = a at c1 l1 HR
    generalize wB op = b at c2 l2 HR
    have i1 : ((op : Nat) : Int) < 34 := by omega
    have i0 : (0 : Int) ≤ ((op : Nat) : Int) := by omega
    have hd : decide (op < 34) = true := decide_eq_true h
    go_enter Tryz.func80, Tryz.ntmps80
    go_wp2_with fail
    refine (isOp_any op _).mono ?_
    rintro e w1 ⟨rfl, rfl⟩
    rw [hd]
    clear hd h
    go_wp2
    go_quiet (fail)
    go_wp2
    go_ret
    exact ⟨ret_int (by rw [unhide HR]; omega), _, rfl⟩
  · have HR : Hid (sizeD op = 0) := hide (by unfold sizeD; rw [if_neg h])
    have hd : decide (op < 34) = false := decide_eq_false h
    go_enter Tryz.func80, Tryz.ntmps80
    go_wp2_with fail
    refine (isOp_any op _).mono ?_
    rintro e w1 ⟨rfl, rfl⟩
    rw [hd]
    go_wp2
    go_ret
    exact ⟨ret_int (by rw [unhide HR]; rfl), 0, rfl⟩
end Go.Proofs.YthdgbdjagjagpaaGreatDoor
