/-
  The words of the instructions, plainly; the contracts of code.Name, code.Op, provisoref04.Name and provisoref04.Op. Conditions: the words lie there.
-/
import Derived.Test.YthdgbdjagjagpaaGreatDoorIn2
import Derived.Great.BuildSlice
import Derived.Laws.Rows
namespace Go.Proofs.YthdgbdjagjagpaaGreatDoor
open Go.RowKit
set_option maxRecDepth 20000

def wordsL : List ByteArray := [⟨#[110, 111, 112]⟩, ⟨#[105, 110, 116]⟩, ⟨#[98, 111, 111, 108]⟩, ⟨#[110, 117, 108, 108]⟩, ⟨#[108, 111, 97, 100]⟩, ⟨#[115, 116, 111, 114, 101]⟩, ⟨#[112, 111, 112]⟩, ⟨#[100, 117, 112]⟩, ⟨#[115, 119, 97, 112]⟩, ⟨#[97, 100, 100]⟩, ⟨#[115, 117, 98]⟩, ⟨#[109, 117, 108]⟩, ⟨#[100, 105, 118]⟩, ⟨#[114, 101, 109]⟩, ⟨#[110, 101, 103]⟩, ⟨#[108, 101, 115, 115]⟩, ⟨#[115, 97, 109, 101]⟩, ⟨#[110, 111, 116]⟩, ⟨#[105, 115]⟩, ⟨#[106, 117, 109, 112]⟩, ⟨#[117, 110, 108, 101, 115, 115]⟩, ⟨#[99, 97, 108, 108]⟩, ⟨#[114, 101, 116, 117, 114, 110]⟩, ⟨#[110, 101, 119]⟩, ⟨#[103, 101, 116]⟩, ⟨#[112, 117, 116]⟩, ⟨#[109, 97, 107, 101]⟩, ⟨#[108, 101, 110]⟩, ⟨#[97, 116]⟩, ⟨#[115, 101, 116]⟩, ⟨#[99, 97, 115, 116]⟩, ⟨#[116, 101, 115, 116]⟩, ⟨#[116, 114, 97, 112]⟩, ⟨#[116, 101, 108, 108]⟩]
/-- An instruction's word. -/
def wC (op : Nat) : ByteArray := wordsL.getD op ⟨#[]⟩
def wA34 : Array Value := (wordsL.map Value.string).toArray
theorem wA34_at (i : Nat) (h : i < 34) : wA34[i]? = some (.string (wC i)) := by
  have hl : wordsL.length = 34 := rfl
  unfold wA34 wC
  rw [List.getElem?_toArray, List.getElem?_map, List.getElem?_eq_getElem (by omega), List.getD_eq_getElem?_getD, List.getElem?_eq_getElem (by omega)]
  rfl
/-- The package's words lie there. -/
def WordsC (W : World) : Prop := ∃ t fr, W.heap[0]? = some (.cells wA34 t fr)
theorem WordsC.below {W w : World} (h : WordsC W) (hb : Below W.heap.size W w) : WordsC w := by
  obtain ⟨t, fr, h⟩ := h
  exact ⟨t, fr, (hb.block _ (Array.getElem?_eq_some_iff.1 h).1).trans h⟩
def nmD (op : Nat) : ByteArray := if op < 34 then wC op else ⟨#[]⟩
/-- The first of some texts that is this one. -/
def findW : List ByteArray → ByteArray → Nat → Nat × Bool
  | [], _, _ => (0, false)
  | x :: l, s, i => if (x.toList == s.toList) = true then (i, true) else findW l s (i + 1)
def opD (s : ByteArray) : Nat × Bool := findW wordsL s 0
theorem drop_wC (k : Nat) (h : k < 34) : wordsL.drop k = wC k :: wordsL.drop (k + 1) := by
  have hl : k < wordsL.length := h
  have e : wC k = wordsL[k]'hl := by unfold wC; rw [List.getD_eq_getElem?_getD, List.getElem?_eq_getElem hl]; rfl
  rw [e]
  exact List.drop_eq_getElem_cons hl
theorem findW_yes (s : ByteArray) (k : Nat) (h : k < 34) (hb : ((wC k).toList == s.toList) = true) : findW (wordsL.drop k) s k = (k, true) := by
  rw [drop_wC k h, findW, if_pos hb]
theorem findW_no (s : ByteArray) (k : Nat) (h : k < 34) (hb : ((wC k).toList == s.toList) = false) : findW (wordsL.drop k) s k = findW (wordsL.drop (k + 1)) s (k + 1) := by
  rw [drop_wC k h, findW, if_neg (by rw [hb]; simp)]
theorem findW_end (s : ByteArray) : findW (wordsL.drop 34) s 34 = (0, false) := by
  rw [List.drop_eq_nil_of_le (by decide)]; rfl

theorem Name_any (op : Nat) (w : World) (hW : WordsC w) (ho : op < 256) : Calls Tryz.prog 43 #[.int .u8 (op : Int)] w fun e w' => e = .returned (.string (nmD op)) ∧ w' = w := by
  by_cases h : op < 34
  · have HR : Hid (nmD op = wC op) := hide (by unfold nmD; rw [if_pos h])
    have c0 : w.cell? ⟨0, op, none⟩ = some (.string (wC op)) := by
      obtain ⟨t, fr, h1⟩ := hW
      rw [cell_of_row _ _ _ _ _ _ h1]
      exact wA34_at op h
    generalize wC op = z at c0 HR
    have d1 : decide (op < 34) = true := decide_eq_true h
    have i1 : ((op : Nat) : Int) < 34 := by omega
    clear hW
    go_enter Tryz.func43, Tryz.ntmps43
    go_wp2_with (go_at_call 74; with_reducible refine (isOp_any op _).mono ?_; rintro e w1 ⟨rfl, rfl⟩; rw [d1])
    go_ret
    exact ⟨by rw [unhide HR]; rfl, rfl⟩
  · have HR : Hid (nmD op = ⟨#[]⟩) := hide (by unfold nmD; rw [if_neg h])
    have d1 : decide (op < 34) = false := decide_eq_false h
    clear hW
    go_enter Tryz.func43, Tryz.ntmps43
    go_wp2_with (go_at_call 74; with_reducible refine (isOp_any op _).mono ?_; rintro e w1 ⟨rfl, rfl⟩; rw [d1])
    go_ret
    exact ⟨by rw [unhide HR]; rfl, rfl⟩

theorem sizeW : (Tryz.prog.info? 124).map (·.size) = some wA34.size := by kernel_rfl
theorem wA34_index : ∀ k : Nat, k < 34 → ∀ w : World, (Instr.index 124 (.agg wA34) (.int .i64 (k : Int))).run Tryz.prog w = .ok (.string (wC k)) w := by
  refine cases34 ?_ ?_ ?_ ?_ ?_ ?_ ?_ ?_ ?_ ?_ ?_ ?_ ?_ ?_ ?_ ?_ ?_ ?_ ?_ ?_ ?_ ?_ ?_ ?_ ?_ ?_ ?_ ?_ ?_ ?_ ?_ ?_ ?_ ?_
  all_goals exact fun _ => by kernel_rfl

end Go.Proofs.YthdgbdjagjagpaaGreatDoor
