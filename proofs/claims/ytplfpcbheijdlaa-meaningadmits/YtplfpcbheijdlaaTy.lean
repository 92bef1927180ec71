/-
  Contracts of types.classOf, isClass, Valid, IsRef, inLine and Sub: each answers what the plain function says; nothing old is turned. Conditions: a type is a byte; the table fits.
-/
import Derived.Test.YtplfpcbheijdlaaLine
import Derived.Test.YtplfpcbheijdlaaT02a
namespace Go.Proofs.Ytplfpcbheijdlaa
open Go.RowKit Go.Shelf
attribute [local go_sem] Oper.semAt_some

def isClassD (n : Nat) (c : Int) : Bool := decide (0 ≤ c ∧ c < (n : Int))
theorem valid_class {n t : Nat} (h : ¬ t ≤ 5) : isClassD n ((t : Int) - 16) = validD n t := by
  unfold isClassD validD
  rw [decide_eq_decide]
  omega
def isRefD (t : Nat) : Bool := decide (t = 3 ∨ t = 4 ∨ t = 5 ∨ 16 ≤ t)
/-! ### Lines -/
def inLineD (T : List Cl) (c a : Int) : Bool := (lineB T T.length c).any fun (x : Nat) => (x : Int) == a
theorem inLineD_yes {T : List Cl} {c a : Int} {pre : List Nat} {x : Nat} (hp : pre <+: lineB T T.length c) (hx : x ∈ pre) (e : (x : Int) = a) : inLineD T c a = true := by
  unfold inLineD
  rw [List.any_eq_true]
  exact ⟨x, hp.subset hx, beq_t e⟩
theorem inLineD_no {T : List Cl} {c a : Int} (h : ∀ x ∈ lineB T T.length c, (x : Int) ≠ a) : inLineD T c a = false := by
  unfold inLineD
  rw [List.any_eq_false]
  intro x hx
  rw [beq_f (h x hx)]
  simp

theorem cellBox {W : World} {B : Nat} {v : Value} {t : TypeId} (h : W.heap[B]? = some (.cells #[v] t (0, 0))) : W.cell? ⟨B, 0, none⟩ = some v ∧ W.frozen? ⟨B, 0, none⟩ = false := by
  constructor <;> simp [World.cell?, World.frozen?, h]
theorem cellNew (W : World) (v : Value) (t : TypeId) : (W.alloc (.cells #[v] t)).cell? ⟨W.heap.size, 0, none⟩ = some v ∧ (W.alloc (.cells #[v] t)).frozen? ⟨W.heap.size, 0, none⟩ = false := by
  exact cellBox (World.alloc_heap_new W _)
theorem cellAlloc {W : World} {a : Addr} {v : Value} (o : Obj) (h : W.cell? a = some v) : (W.alloc o).cell? a = some v := cell_kept h (World.grownBy_alloc W o none) (fun r e => by cases e)
theorem frozenAlloc {W : World} {a : Addr} {v : Value} (o : Obj) (h : W.cell? a = some v) (hf : W.frozen? a = false) : (W.alloc o).frozen? a = false := (frozen_kept h (World.grownBy_alloc W o none) (fun r e => by cases e)).trans hf

end Go.Proofs.Ytplfpcbheijdlaa
