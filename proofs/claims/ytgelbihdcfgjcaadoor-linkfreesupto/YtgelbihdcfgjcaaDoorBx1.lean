/-
  A box: a block of cells that a call makes, kept under a name. No Go in it.
-/
import Derived.Test.YtgelbihdcfgjcaaDoorMem
namespace Go.Proofs.YtgelbihdcfgjcaaDoor
open Go.RowKit
set_option maxRecDepth 20000

/-! ### Boxes -/
def Bx (W : World) (g : Nat) (t : TypeId) (cs : Array Value) : Prop := W.heap[g]? = some (.cells cs t (0, 0))
theorem Bx.lt {W : World} {g : Nat} {t : TypeId} {cs : Array Value} (h : Bx W g t cs) : g < W.heap.size := (Array.getElem?_eq_some_iff.1 h).1
theorem Bx.c {W : World} {g : Nat} {t : TypeId} {cs : Array Value} (h : Bx W g t cs) (i : Nat) {v : Value} (e : cs[i]? = some v) : W.cell? ⟨g, i, none⟩ = some v := (cell_of_row _ _ _ _ _ _ h).trans e
theorem Bx.f {W : World} {g : Nat} {t : TypeId} {cs : Array Value} (h : Bx W g t cs) (i : Nat) : W.frozen? ⟨g, i, none⟩ = false := frozen_of_row _ _ _ _ _ h
theorem Bx.set {W : World} {g : Nat} {t : TypeId} {cs : Array Value} (h : Bx W g t cs) (i : Nat) (v : Value) {cs' : Array Value} (e : (fun _ => cs') () = cs.setIfInBounds i v) : Bx (W.setCell ⟨g, i, none⟩ v) g t cs' := by
  have e' : cs' = cs.setIfInBounds i v := e
  subst e'
  unfold Bx at h ⊢
  simp only [World.setCell, Array.getElem?_modify, if_true, h]
  rfl
theorem Bx.other {W : World} {g : Nat} {t : TypeId} {cs : Array Value} (h : Bx W g t cs) (p : Addr) (v : Value) (hp : g ≠ p.block) : Bx (W.setCell p v) g t cs := (Below.heap_setCell W p v g hp).trans h
theorem Bx.below {W w : World} {g : Nat} {t : TypeId} {cs : Array Value} (h : Bx W g t cs) (hb : Below W.heap.size W w) : Bx w g t cs := (hb.block g h.lt).trans h
theorem Bx.grown {W w : World} {g : Nat} {t : TypeId} {cs : Array Value} {row : Option Nat} (h : Bx W g t cs) (hg : W.grownBy w row) (hne : row ≠ some g) : Bx w g t cs := (hg.block g h.lt (fun e => hne e.symm)).trans h
end Go.Proofs.YtgelbihdcfgjcaaDoor
