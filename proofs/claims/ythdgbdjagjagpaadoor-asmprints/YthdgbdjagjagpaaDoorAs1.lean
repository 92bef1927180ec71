/-
  Pieces of code as text: strconv.Itoa, asm's label and operands, the document's Operands. Conditions: the tables are laid.
-/
import Derived.Test.YthdgbdjagjagpaaDoorWd2
import Derived.Test.YthdgbdjagjagpaaDoorJn
import Derived.Test.YthdgbdjagjagpaaDoorLayItoa
import Derived.Lib.AppendIntMem
import Derived.Lib.ItoaLen
namespace Go.Proofs.YthdgbdjagjagpaaDoor
open Go.RowKit
set_option maxRecDepth 20000
set_option linter.unusedVariables false

def PwT (w : World) : Prop := Lib.TabIs Tryd.prog w "internal/strconv.uint64pow10" .u64 Lib.pow10Tab
theorem PwT.below {w w' : World} (h : PwT w) (hb : Below w.heap.size w w') : PwT w' := Lib.tabBelow_of_tabIs h w' hb
theorem below_growT (w : World) (k : Nat) (os : Array Obj) : Below w.heap.size w (Go.Sort.grow (w.drewN k) os) :=
  ⟨rfl, rfl, rfl, by show w.heap.size ≤ (w.heap ++ os).size; simp, fun i hi => by show (w.heap ++ os)[i]? = w.heap[i]?; rw [Array.getElem?_append_left hi]⟩
/-- A text as a value. -/
abbrev tx (l : List UInt8) : Value := .string ⟨l.toArray⟩
theorem ba_app (a b : List UInt8) : ((⟨a.toArray⟩ : ByteArray) ++ (⟨b.toArray⟩ : ByteArray)) = ⟨(a ++ b).toArray⟩ := by
  apply ByteArray.ext
  simp [ByteArray.data_append]
theorem Itoa_any (n : Int) (h0 : -9223372036854775808 ≤ n) (h1 : n ≤ 9223372036854775807) (w : World) (hP : PwT w) :
    Calls Tryd.prog 12 #[.int .i64 n] w fun e w' => e = .returned (tx (Lib.itoa n)) ∧ Below w.heap.size w w' :=
  (Any.strconv_Itoa Tryd.laysItoa n h0 h1 w hP).mono (fun e w' ⟨h, k, os, hw⟩ => ⟨h, by rw [hw]; exact below_growT w k os⟩)
theorem itoa_len (n : Int) (h0 : -9223372036854775808 ≤ n) (h1 : n ≤ 9223372036854775807) : (Lib.itoa n).length ≤ 21 := Lib.itoa_length_le n h0 h1
theorem ret_tx {a : ByteArray} {l : List UInt8} (h : a = ⟨l.toArray⟩) : Ending.returned (.string a) = .returned (tx l) := by rw [h]
/-- A label's name. -/
def labL (a : Int) : List UInt8 := 108 :: Lib.itoa a
theorem label_any (a : Int) (h0 : -9223372036854775808 ≤ a) (h1 : a ≤ 9223372036854775807) (w : World) (hP : PwT w) :
    Calls Tryd.prog 19 #[.int .i64 a] w fun e w' => e = .returned (tx (labL a)) ∧ Below w.heap.size w w' := by
  have HI := hide (Itoa_any a h0 h1 w hP)
  clear hP
  go_enter Tryd.func19, Tryd.ntmps19
  go_wp2_with fail
  refine (unhide HI).mono ?_
  rintro e W ⟨rfl, hb⟩
  have HB := hide hb
  have hl := itoa_len a h0 h1
  have hll : ¬ 9223372036854775807 < 1 + (Lib.itoa a).length := by omega
  clear hb HI hl
  go_wp2
  go_ret
  exact ⟨ret_tx (ba_app [108] (Lib.itoa a)), unhide HB⟩
/-- How many operands there are. -/
def opnN (op : Nat) : Nat := if op = 24 ∨ op = 25 then 2 else if 1 < sizeD op then 1 else 0
theorem operands_any (op : Nat) (w : World) (hW : WidAt w) (ho : op < 256) : Calls Tryd.prog 51 #[.int .u8 (op : Int)] w fun e w' => e = .returned (.int .i64 (opnN op : Int)) ∧ ∃ k, w' = w.drewN k := by
  by_cases h1 : op = 24
  · subst h1
    go_enter Tryd.func51, Tryd.ntmps51
    go_wp2
    go_ret
    exact ⟨rfl, 0, rfl⟩
  by_cases h2 : op = 25
  · subst h2
    go_enter Tryd.func51, Tryd.ntmps51
    go_wp2
    go_ret
    exact ⟨rfl, 0, rfl⟩
  have t1 : ((op : Int) == 24) = false := beq_f (by omega)
  have t2 : ((op : Int) == 25) = false := beq_f (by omega)
  have HS := hide (Size_any op w hW ho)
  by_cases h3 : 1 < sizeD op
  · have HR : Hid (opnN op = 1) := hide (by unfold opnN; rw [if_neg (by omega), if_pos h3])
    have i1 : (sizeD op : Int) > 1 := by omega
    rw [unhide HR]
    clear hW h1 h2 h3
    go_enter Tryd.func51, Tryd.ntmps51
    go_wp2_with fail
    refine (unhide HS).mono ?_
    rintro e W ⟨rfl, k, hw⟩
    go_wp2
    go_ret
    exact ⟨rfl, k, rfl⟩
  · have HR : Hid (opnN op = 0) := hide (by unfold opnN; rw [if_neg (by omega), if_neg h3])
    have i1 : ¬ (sizeD op : Int) > 1 := by omega
    rw [unhide HR]
    clear hW h1 h2 h3
    go_enter Tryd.func51, Tryd.ntmps51
    go_wp2_with fail
    refine (unhide HS).mono ?_
    rintro e W ⟨rfl, k, hw⟩
    go_wp2
    go_ret
    exact ⟨rfl, k, rfl⟩
theorem refOperands_any (op : Nat) (w : World) (ho : op < 256) : Calls Tryd.prog 28 #[.int .u8 (op : Int)] w fun e w' => e = .returned (.int .i64 (opnN op : Int)) ∧ w' = w := by
  by_cases h1 : op = 24
  · subst h1
    go_enter Tryd.func28, Tryd.ntmps28
    go_wp2
    go_ret
    exact ⟨rfl, rfl⟩
  by_cases h2 : op = 25
  · subst h2
    go_enter Tryd.func28, Tryd.ntmps28
    go_wp2
    go_ret
    exact ⟨rfl, rfl⟩
  have t1 : ((op : Int) == 24) = false := beq_f (by omega)
  have t2 : ((op : Int) == 25) = false := beq_f (by omega)
  have HS := hide (refSize_any op w)
  by_cases h3 : 1 < sizeD op
  · have HR : Hid (opnN op = 1) := hide (by unfold opnN; rw [if_neg (by omega), if_pos h3])
    have i1 : (sizeD op : Int) > 1 := by omega
    rw [unhide HR]
    clear h1 h2 h3
    go_enter Tryd.func28, Tryd.ntmps28
    go_wp2_with fail
    refine (unhide HS).mono ?_
    rintro e W ⟨rfl, hw⟩
    go_wp2
    go_ret
    exact ⟨rfl, rfl⟩
  · have HR : Hid (opnN op = 0) := hide (by unfold opnN; rw [if_neg (by omega), if_neg h3])
    have i1 : ¬ (sizeD op : Int) > 1 := by omega
    rw [unhide HR]
    clear h1 h2 h3
    go_enter Tryd.func28, Tryd.ntmps28
    go_wp2_with fail
    refine (unhide HS).mono ?_
    rintro e W ⟨rfl, hw⟩
    go_wp2
    go_ret
    exact ⟨rfl, rfl⟩
end Go.Proofs.YthdgbdjagjagpaaDoor
