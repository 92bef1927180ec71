/-
  Rising numbers: two such lists with the same members are one; the contracts of slices.Sort and slices.Compact over a row of one's own. Conditions: lengths fit.
-/
import Derived.Test.YtgelbihdcfgjcaaDoorSo0
import Derived.Shelf.Slices.CompactI
import Derived.Shelf.Sort.Plain
import Derived.Lib.RowBridge
import Derived.Test.YtgelbihdcfgjcaaDoorLaySort
import Derived.Test.YtgelbihdcfgjcaaDoorLayComp
namespace Go.Proofs.YtgelbihdcfgjcaaDoor
open Go.RowKit
set_option maxRecDepth 20000

def leJ (x y : Int) : Bool := decide (x ≤ y)
def srtJ (l : List Int) : List Int := l.mergeSort fun x y => decide (x ≤ y)
theorem srtJ_perm (l : List Int) : (srtJ l).Perm l := List.mergeSort_perm _ _
theorem srtJ_len (l : List Int) : (srtJ l).length = l.length := (srtJ_perm l).length_eq
theorem srtJ_sorted (l : List Int) : (srtJ l).Pairwise (· ≤ ·) := by
  have := List.pairwise_mergeSort (le := fun (x y : Int) => decide (x ≤ y)) (fun a b c h1 h2 => by simp at *; omega) (fun a b => by simp; omega) l
  exact this.imp (by intro a b h; simpa using h)
/-- What stays of rising numbers where each stays once. -/
theorem compact_upto {zs : List Int} (hs : zs.Pairwise (· ≤ ·)) : ∀ m, m ≤ zs.length → AscJ (Lib.compactUpTo zs.toArray m) ∧ (∀ x, x ∈ Lib.compactUpTo zs.toArray m ↔ x ∈ zs.take m) ∧ ∀ x ∈ Lib.compactUpTo zs.toArray m, 0 < m → x ≤ zs.toArray[m - 1]!
  | 0, _ => by simp [Lib.compactUpTo, AscJ]
  | m + 1, hm => by
    obtain ⟨h1, h2, h3⟩ := compact_upto hs m (by omega)
    have hx := List.getElem?_eq_getElem (show m < zs.length by omega)
    have hg : zs.toArray[m]! = zs[m] := by simp [show m < zs.length by omega]
    have hle : ∀ j (hj : j < m), zs[j]'(by omega) ≤ zs[m] := fun j hj => (List.pairwise_iff_getElem.1 hs) j m (by omega) (by omega) hj
    have hpre : ∀ x ∈ Lib.compactUpTo zs.toArray m, x ≤ zs[m] := fun x hxm => by
      have := (h2 x).1 hxm
      obtain ⟨j, hj, e⟩ := List.mem_take_iff_getElem.1 this
      rw [← e]
      exact hle j (by omega)
    rw [Lib.compactUpTo_succ, take_step hx, hg]
    by_cases hk : Lib.keeps zs.toArray m = true
    · rw [if_pos hk]
      have hlt : ∀ x ∈ Lib.compactUpTo zs.toArray m, x < zs[m] := fun x hxm => by
        have hm0 : 0 < m := by
          rcases Nat.eq_zero_or_pos m with e | e
          · subst e; simp [Lib.compactUpTo] at hxm
          · exact e
        have a := h3 x hxm hm0
        have b := hpre x hxm
        have hg2 : zs.toArray[m - 1]! = zs[m - 1] := by simp [show m - 1 < zs.length by omega]
        have hne : zs.toArray[m]! ≠ zs.toArray[m - 1]! := by
          intro e
          have := Lib.keeps_neg hm0 e
          rw [hk] at this
          cases this
        rw [hg, hg2] at hne
        rw [hg2] at a
        have c := hle (m - 1) (by omega)
        omega
      refine ⟨?_, fun x => ?_, fun x hxm _ => ?_⟩
      · refine List.pairwise_append.2 ⟨h1, by simp, fun x hx1 y hy => ?_⟩
        simp at hy
        rw [hy]
        exact hlt x hx1
      · rw [List.mem_append, List.mem_append, h2 x]
      · rw [show m + 1 - 1 = m from rfl, hg]
        rcases List.mem_append.1 hxm with h | h
        · exact hpre x h
        · simp at h; omega
    · rw [if_neg hk, List.append_nil]
      have hm0 : 0 < m := by
        rcases Nat.eq_zero_or_pos m with e | e
        · exfalso; apply hk; exact Lib.keeps_lt_one _ m (by omega)
        · exact e
      have he : zs[m] = zs[m - 1] := by
        have hg2 : zs.toArray[m - 1]! = zs[m - 1] := by simp [show m - 1 < zs.length by omega]
        by_cases e : zs.toArray[m]! = zs.toArray[m - 1]!
        · rw [hg, hg2] at e; exact e
        · exfalso; exact hk (Lib.keeps_pos e)
      refine ⟨h1, fun x => ?_, fun x hxm _ => ?_⟩
      · rw [h2 x]
        constructor
        · intro h; exact List.mem_append_left _ h
        · intro h
          rcases List.mem_append.1 h with h | h
          · exact h
          · simp at h
            rw [h, he]
            exact List.mem_take_iff_getElem.2 ⟨m - 1, by omega, rfl⟩
      · rw [show m + 1 - 1 = m from rfl, hg]
        exact hpre x hxm
theorem compact_asc {zs : List Int} (hs : zs.Pairwise (· ≤ ·)) : AscJ (Lib.compact zs) ∧ ∀ x, x ∈ Lib.compact zs ↔ x ∈ zs := by
  obtain ⟨h1, h2, _⟩ := compact_upto hs zs.length (Nat.le_refl _)
  refine ⟨h1, fun x => ?_⟩
  unfold Lib.compact
  rw [h2 x, List.take_length]
/-- Numbers in order, each once. -/
def onceJ (l : List Int) : List Int := Lib.compact (srtJ l)
theorem onceJ_asc (l : List Int) : AscJ (onceJ l) := (compact_asc (srtJ_sorted l)).1
theorem mem_onceJ {l : List Int} {x : Int} : x ∈ onceJ l ↔ x ∈ l := ((compact_asc (srtJ_sorted l)).2 x).trans (srtJ_perm l).mem_iff
theorem onceJ_len (l : List Int) : (onceJ l).length ≤ l.length := by rw [← srtJ_len l]; exact Lib.compact_length_le _

theorem rowPut {w : World} {B g cap : Nat} {l : List Int} (h : OwnJ w B (.slice (some ⟨g, 0, none⟩) l.length cap) l) (q : Nat) (os : Array Obj) (m : List Int) (hm : m.length = l.length) (k : Nat) (hk : k ≤ m.length) :
    OwnJ (Sort.grow (Sort.putRow (Value.int .i64) (Sort.ahead w q) g 0 m.toArray) os) B (.slice (some ⟨g, 0, none⟩) k cap) (m.take k) ∧ Below B w (Sort.grow (Sort.putRow (Value.int .i64) (Sort.ahead w q) g 0 m.toArray) os) := by
  rcases h.2 with ⟨h1, _⟩ | ⟨g', cap', cur, hv, hb, hh, hn, hm', hs, ht⟩
  · cases h1
  · injection hv with e1 e2 e3
    injection e1 with e1
    injection e1 with e1
    subst e1 e3
    have hgl := (Array.getElem?_eq_some_iff.1 hh).1
    have hsz : cur.size = cap := by omega
    constructor
    · refine ⟨by simp [jvals, hk], Or.inr ⟨g, cap, Sort.putCells (Value.int .i64) 0 m.toArray cur, by simp [hk], hb, ?_, by simp; omega, hm', by simp [Sort.putCells]; omega, ?_⟩⟩
      · simp only [Sort.grow, Sort.putRow, Sort.mapBlock, Sort.ahead]
        rw [Array.getElem?_append_left (by simp; exact hgl), Array.getElem?_modify, if_pos rfl, hh]
        rfl
      · apply List.ext_getElem?
        intro j
        simp only [jvals, Sort.putCells, List.getElem?_take, List.getElem?_map]
        by_cases hj : j < k
        · have hjc : j < cur.size := by omega
          have hjm : j < m.length := by omega
          simp [hj, hk, hjc, hjm]
        · simp [hj, hk]
    · refine ⟨rfl, rfl, rfl, ?_, fun j hj => ?_⟩
      · simp [Sort.grow, Sort.putRow, Sort.mapBlock, Sort.ahead]
      · simp only [Sort.grow, Sort.putRow, Sort.mapBlock, Sort.ahead]
        rw [Array.getElem?_append_left (by simp; omega), Array.getElem?_modify, if_neg (by omega)]
theorem ahead_row (w : World) (q g : Nat) (m : Array Int) : Sort.putRow (Value.int .i64) (Sort.ahead w q) g 0 m = Sort.grow (Sort.putRow (Value.int .i64) (Sort.ahead w q) g 0 m) #[] := by simp
theorem holdsJ {w : World} {B g cap : Nat} {l : List Int} (h : OwnJ w B (.slice (some ⟨g, 0, none⟩) l.length cap) l) : Sort.Holds (Value.int .i64) w g 0 l.toArray := by
  rcases h.shape with ⟨h1, _⟩ | ⟨g', cap', hv, _, _, _, hc, hf⟩
  · cases h1
  · injection hv with e1 e2 e3
    injection e1 with e1
    injection e1 with e1
    subst e1
    intro j hj
    have hj' : j < l.length := by simpa using hj
    refine ⟨?_, by rw [Nat.zero_add]; exact hf j⟩
    rw [Nat.zero_add, hc j _ (List.getElem?_eq_getElem hj')]
    simp [hj']
/-- slices.Sort, over a row of one's own. -/
theorem Sort_own {w : World} {B : Nat} {v : Value} {l : List Int} (h : OwnJ w B v l) (hl : l.length ≤ 4400000000000) :
    Calls Tryd.prog 22 #[v] w fun e w' => e = .returned (.tuple #[]) ∧ OwnJ w' B v (srtJ l) ∧ Below B w w' := by
  rcases h.shape with ⟨rfl, rfl⟩ | ⟨g, cap, rfl, hb, hg, hcap, hc, hf⟩
  · refine (Any.slices_Sort_int_none Tryd.laysSort none 0 w).mono ?_
    rintro e w' ⟨rfl, rfl⟩
    exact ⟨rfl, by simpa [srtJ] using h, Below.refl _ _⟩
  · refine (Any.slices_Sort_int Tryd.laysSort g 0 cap l w (holdsJ h) hg (by omega)).mono ?_
    rintro e w' ⟨rfl, q, os, rfl⟩
    have := rowPut h q os (srtJ l) (srtJ_len l) (srtJ l).length (Nat.le_refl _)
    rw [List.take_length] at this
    have e1 : (srtJ l).length = l.length := srtJ_len l
    refine ⟨rfl, ?_, this.2⟩
    have t := this.1
    rw [← e1]
    exact t
/-- slices.Compact, over a row of one's own. -/
theorem Compact_own {w : World} {B : Nat} {v : Value} {l : List Int} (h : OwnJ w B v l) (hl : l.length ≤ 4400000000000) :
    Calls Tryd.prog 23 #[v] w fun e w' => ∃ v', e = .returned v' ∧ OwnJ w' B v' (Lib.compact l) ∧ Below B w w' := by
  rcases h.shape with ⟨rfl, rfl⟩ | ⟨g, cap, rfl, hb, hg, hcap, hc, hf⟩
  · refine (Any.slices_Compact_int_empty Tryd.laysComp none 0 w).mono ?_
    rintro e w' ⟨rfl, rfl⟩
    exact ⟨_, rfl, by simpa [Lib.compact, Lib.compactUpTo] using h, Below.refl _ _⟩
  · refine (Any.slices_Compact_int Tryd.laysComp g 0 cap l w (holdsJ h) (by omega) hcap).mono ?_
    rintro e w' ⟨rfl, q, rfl⟩
    have hle := Lib.compact_length_le l
    rw [ahead_row]
    have := rowPut h q #[] (Lib.compact l ++ List.replicate (l.length - (Lib.compact l).length) 0) (by simp; omega) (Lib.compact l).length (by simp)
    rw [List.take_left'  rfl] at this
    exact ⟨_, rfl, this.1, this.2⟩
end Go.Proofs.YtgelbihdcfgjcaaDoor
