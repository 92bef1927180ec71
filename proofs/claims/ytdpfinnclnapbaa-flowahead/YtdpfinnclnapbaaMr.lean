/-
  A row of marks.
-/
import Derived.Test.YtdpfinnclnapbaaBk1
import Derived.Deep.OwnRows
namespace Go.Proofs.Ytdpfinnclnapbaa
open Go.RowKit Go.Maps

structure MR (w wr : World) (g n : Nat) (F : Nat → Value) : Prop where
  row : wr.rowIs g 4 n F
  ge : w.heap.size ≤ g
  bel : Below w.heap.size w wr
theorem MR.set {w wr : World} {g n : Nat} {F : Nat → Value} (h : MR w wr g n F) (j : Nat) : MR w (wr.setCell ⟨g, j, none⟩ (.bool true)) g n (fun i => if i = j then .bool true else F i) := ⟨h.row.set j (.bool true), h.ge, h.bel.setCell (p := ⟨g, j, none⟩) h.ge _⟩
theorem MR.below {w wr w' : World} {g n : Nat} {F : Nat → Value} (h : MR w wr g n F) (hb : Below wr.heap.size wr w') : MR w w' g n F := ⟨h.row.of_block (hb.block _ h.row.lt), h.ge, h.bel.trans (hb.mono h.bel.size)⟩
theorem MR.congr {w wr : World} {g n : Nat} {F G : Nat → Value} (h : MR w wr g n F) (e : ∀ j, j < n → F j = G j) : MR w wr g n G := ⟨h.row.congr e, h.ge, h.bel⟩
def bAt (B : List Bool) (j : Nat) : Value := .bool (B.getD j false)
theorem MR.marked {w wr : World} {g n : Nat} {B : List Bool} (h : MR w wr g n (bAt B)) (hl : B.length = n) {k : Nat} (hk : k < n) : MR w (wr.setCell ⟨g, k, none⟩ (.bool true)) g n (bAt (B.set k true)) :=
  (h.set k).congr (fun j hj => by
    unfold bAt
    rw [List.getD_eq_getElem?_getD, List.getD_eq_getElem?_getD, List.getElem?_set]
    by_cases e : j = k
    · subst e
      simp [hl, hj]
    · rw [if_neg e, if_neg (fun h => e h.symm)])
theorem MR.made {w wr : World} (h : Below w.heap.size w wr) (n : Nat) : MR w (wr.alloc (.cells (madeCells #[.bool false] n) 4)) wr.heap.size n (bAt (List.replicate n false)) :=
  ⟨(World.rowIs_made wr (.bool false) n 4).congr (fun j hj => by unfold bAt; rw [List.getD_eq_getElem?_getD, List.getElem?_replicate, if_pos hj]; rfl), h.size, h.alloc h.size _⟩
theorem MR.cellB {w wr : World} {g n : Nat} {B : List Bool} (h : MR w wr g n (bAt B)) {k : Nat} {b : Bool} (hk : k < n) (hb : B[k]? = some b) : wr.cell? ⟨g, k, none⟩ = some (.bool b) := by
  rw [h.row.cell hk]
  unfold bAt
  rw [List.getD_eq_getElem?_getD, hb]
  rfl
end Go.Proofs.Ytdpfinnclnapbaa
