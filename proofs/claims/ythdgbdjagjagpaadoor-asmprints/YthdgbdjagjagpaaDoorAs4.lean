/-
  The library under asm's Print: a builder's WriteString and String, Join of an instruction's words, BinarySearch of a row of numbers. Conditions: lengths fit.
-/
import Derived.Test.YthdgbdjagjagpaaDoorAs3
import Derived.Test.YthdgbdjagjagpaaDoorLayBS
import Derived.Shelf.Strings.BuilderK
import Derived.Shelf.Slices.Empties
namespace Go.Proofs
open Go.Shelf Go.RowKit
theorem Tryd.laysWS : Go.Proofs.Lays.n166 Tryd.prog Tryd.laysJoin_ren := { Tryd.laysJoin with }
theorem Tryd.laysSg : Go.Proofs.Lays.n169 Tryd.prog Tryd.laysJoin_ren := { Tryd.laysJoin with }
end Go.Proofs
namespace Go.Proofs.YthdgbdjagjagpaaDoor
open Go.RowKit
set_option maxRecDepth 20000
set_option linter.unusedVariables false

/-- A builder in block b that holds these bytes. -/
abbrev BdA (w : World) (b : Nat) (l : List UInt8) : Prop := Lib.IsBuilderF 46 5 b b (Lib.byteCells l) w
theorem BdA.at {w : World} {b : Nat} {l : List UInt8} {p : Value} (h : Lib.BuilderAtF 46 5 b b p (Lib.byteCells l) w) (hb : b < w.heap.size) {w' : World} (hw : Below w.heap.size w w') : Lib.BuilderAtF 46 5 b b p (Lib.byteCells l) w' := by
  obtain ⟨hB, v, hv, hown, hne⟩ := h
  exact ⟨hB, v, (hw.block b hb).trans hv, hown.kept (row := none) ⟨hw.os, hw.tape, hw.output, hw.size, fun k hk _ => hw.block k hk⟩ (Classical.em _), hne⟩
theorem BdA.belowA {w w' : World} {b : Nat} {l : List UInt8} (h : BdA w b l) (hb : b < w.heap.size) (hw : Below w.heap.size w w') : BdA w' b l :=
  h.elim (fun x => .inl (BdA.at x hb hw)) (fun x => .inr (BdA.at x hb hw))
theorem BdA.new (w : World) : BdA (w.alloc (.cells #[.pointer none, .slice none 0 0] 46)) w.heap.size [] := Lib.IsBuilderF.of (Lib.fresh_isBuilder 46 5 w)
theorem WriteString_any (b : Nat) (l m : List UInt8) (w : World) (h : BdA w b l) (hb : b < w.heap.size) (hl : l.length + m.length ≤ 140737488355328) :
    Calls Tryd.prog 18 #[.pointer (some ⟨b, 0, none⟩), tx m] w fun e w' => (∃ v, e = .returned v) ∧ BdA w' b (l ++ m) ∧ Below b w w' ∧ Lib.OthersKept 5 (some b) w w' := by
  refine (Any.Builder_WriteString_k Tryd.laysWS Tryd.extraJoin b b (Lib.byteCells l) ⟨m.toArray⟩ w h (by rw [Lib.byteCells_length]; show l.length + m.toArray.size ≤ _; simp; omega) (Nat.le_of_lt hb)).mono ?_
  rintro e w' ⟨rfl, h1, h2, h3⟩
  refine ⟨⟨_, rfl⟩, Or.inr ?_, h2, h3⟩
  have e1 : Lib.byteCells l ++ Lib.strCells ⟨m.toArray⟩ = Lib.byteCells (l ++ m) := by
    rw [Lib.strCells_eq, Lib.byteCells_append]
  rw [← e1]
  exact h1
theorem BString_any (b : Nat) (l : List UInt8) (w : World) (h : BdA w b l) (hb : b < w.heap.size) :
    Calls Tryd.prog 22 #[.pointer (some ⟨b, 0, none⟩)] w fun e w' => e = .returned (tx l) ∧ Below b w w' :=
  (Any.Builder_String_any_k Tryd.laysSg Tryd.extraJoin b b l w h (Nat.le_of_lt hb)).mono fun e w' ⟨h1, _, h2, _⟩ => ⟨h1, h2⟩
theorem join_any (v : Value) (op : Nat) (a b : Int) (B : Nat) (w : World) (h : OwnL w B v (insW op a b)) (hl : (insT op a b).length ≤ 140737488355328) :
    Calls Tryd.prog 20 #[v, .string ⟨#[32]⟩] w fun e w' => e = .returned (tx (insT op a b)) ∧ Below w.heap.size w w' := by
  have hpos : 0 < (insW op a b).length := by unfold insW; simp
  have hle : (insW op a b).length ≤ 3 := by
    unfold insW
    rw [List.length_cons]
    split
    · simp
    · rw [List.length_take]; simp; omega
  obtain ⟨g, cap, rfl, hcap, hg, hc⟩ := h.atL hpos
  have e1 : ((insW op a b).map (fun l => (⟨l.toArray⟩ : ByteArray))).length = (insW op a b).length := by simp
  have e2 : ((insW op a b).map (fun l => (⟨l.toArray⟩ : ByteArray))).map (·.data.toList) = insW op a b := by
    rw [List.map_map]
    have : ((fun x : ByteArray => x.data.toList) ∘ fun l : List UInt8 => (⟨l.toArray⟩ : ByteArray)) = id := by funext l; simp
    rw [this, List.map_id]
  have hJ := Join_any g 0 cap ((insW op a b).map (fun l => (⟨l.toArray⟩ : ByteArray))) ⟨#[32]⟩ w (fun j x hx => by
    rw [List.getElem?_map] at hx
    cases hi : (insW op a b)[j]? with
    | none => rw [hi] at hx; cases hx
    | some y =>
      rw [hi] at hx
      injection hx with hx
      subst hx
      rw [Nat.zero_add]
      exact hc j y hi) hg (by rw [e1]; omega) (by rw [e1]; exact hcap) (by rw [e2]; exact hl)
  rw [e1, e2] at hJ
  exact hJ
theorem search_anyA (v : Value) (ts : List Int) (x : Int) (B : Nat) (w : World) (h : OwnJ w B v ts) (ha : AscJ ts) (hz : ts.length ≤ 1000000) :
    Calls Tryd.prog 17 #[v, .int .i64 x] w fun e w' => (∃ n : Nat, e = .returned (.tuple #[.int .i64 (n : Int), .bool (decide (x ∈ ts))])) ∧ Below w.heap.size w w' := by
  obtain ⟨ao, cap, rfl, hat, hn⟩ := h.at
  by_cases h0 : ts = []
  · subst h0
    refine (Any.slices_BinarySearch_int_empty Tryd.laysBS ao cap x w).mono ?_
    rintro e w' ⟨rfl, hw⟩
    rw [hw]
    exact ⟨⟨0, rfl⟩, Below.refl _ _⟩
  · have hp : 0 < ts.length := List.length_pos_iff.2 h0
    obtain ⟨b, off, rfl, _⟩ := hat 0 _ (List.getElem?_eq_getElem hp)
    have hc : ∀ j, j < ts.length → w.cell? ⟨b, off + j, none⟩ = some (.int .i64 (ts.getD j 0)) := fun j hj => by
      obtain ⟨b', off', e, hh⟩ := hat j _ (List.getElem?_eq_getElem hj)
      injection e with e
      injection e with e1 e2
      subst e1 e2
      rw [hh, List.getD_eq_getElem?_getD, List.getElem?_eq_getElem hj]
      rfl
    refine (Any.slices_BinarySearch_int Tryd.laysBS b off ts.length cap ts x w (Nat.le_refl _) (by omega) hc (by rw [List.take_length]; exact List.Pairwise.imp (fun h => Int.le_of_lt h) ha)).mono ?_
    rintro e w' ⟨rfl, q, hw⟩
    rw [hw, List.take_length]
    have e1 : ts.contains x = decide (x ∈ ts) := by rw [Bool.eq_iff_iff, List.contains_iff_mem, decide_eq_true_iff]
    rw [e1]
    exact ⟨⟨_, rfl⟩, below_dL _ _⟩
end Go.Proofs.YthdgbdjagjagpaaDoor
