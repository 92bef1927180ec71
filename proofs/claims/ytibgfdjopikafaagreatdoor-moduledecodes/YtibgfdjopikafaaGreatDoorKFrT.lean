/-
  Contracts of frames.Empty, isOfValues and Start and of provisoref03's: what the plain functions say; nothing old is turned.
-/
import Derived.Test.YtibgfdjopikafaaGreatDoorJFR
import Derived.Test.YtibgfdjopikafaaGreatDoorJTY
namespace Go.Proofs.YtibgfdjopikafaaGreatDoor
open Go.RowKit
set_option maxRecDepth 20000

/-- From an address on the cells hold these types. -/
def PAt (w : World) (ao : Option Addr) (l : List Nat) : Prop := ∀ (i t : Nat), l[i]? = some t → ∃ b off, ao = some ⟨b, off, none⟩ ∧ w.cell? ⟨b, off + i, none⟩ = some (.int .u8 (t : Int))
theorem PAt.below {w w' : World} {ao : Option Addr} {l : List Nat} (h : PAt w ao l) (hb : Below w.heap.size w w') : PAt w' ao l := fun i t ht => by
  obtain ⟨b, off, e, hc⟩ := h i t ht
  exact ⟨b, off, e, (hb.cell (p := ⟨b, off + i, none⟩) (World.block_lt_of_cell? w _ hc)).trans hc⟩

def emptyF (lo : Int) : Fr := ⟨lo, 0, List.replicate 24 0⟩
def emptyD (lo : Int) : Fr × Int := if lo < 0 ∨ 16 < lo then (frZ, 1) else (emptyF lo, 0)
theorem empty_ok {lo : Int} (h0 : 0 ≤ lo) (h1 : lo ≤ 16) : FrOk (emptyF lo) := ⟨rfl, fun t ht => by rw [List.eq_of_mem_replicate ht]; omega, by constructor <;> show _ ≤ _ <;> simp only [emptyF] <;> omega, by constructor <;> show _ ≤ _ <;> simp only [emptyF] <;> omega⟩
def startTo (lo : Int) (ps : List Nat) : Nat → Fr
  | 0 => emptyF lo
  | k + 1 => { startTo lo ps k with sl := (startTo lo ps k).sl.set k (ps.getD k 0) }
theorem startTo_ok {lo : Int} (h0 : 0 ≤ lo) (h1 : lo ≤ 16) {ps : List Nat} (hp : ∀ t ∈ ps, t < 256) : ∀ k, FrOk (startTo lo ps k)
  | 0 => empty_ok h0 h1
  | k + 1 => by
    have h := startTo_ok h0 h1 hp k
    refine set_ok h (i := k) ?_
    rw [List.getD_eq_getElem?_getD]
    cases hx : ps[k]? with
    | none => simp
    | some x => exact hp x (List.mem_of_getElem? hx)
def startD (n : Nat) (ps : List Nat) (lo : Int) : Fr × Int :=
  if lo < 0 ∨ 16 < lo ∨ 8 < ps.length ∨ lo < (ps.length : Int) then (frZ, 1) else if ps.all (storedD n) = true then (startTo lo ps ps.length, 0) else (frZ, 1)

end Go.Proofs.YtibgfdjopikafaaGreatDoor
