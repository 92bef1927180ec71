/-
  Contracts of types.classOf, isClass, Valid, IsRef, inLine and Sub: each answers what the plain function says; nothing old is turned. Conditions: a type is a byte; the table fits.
-/
import Derived.Test.YtbiofkgdbdjdnaaDoorLine
import Derived.Test.YtbiofkgdbdjdnaaDoorT02a
namespace Go.Proofs.YtbiofkgdbdjdnaaDoor
open Go.RowKit Go.Shelf
set_option maxRecDepth 20000
attribute [local go_sem] Oper.semAt_some

theorem classOf_any (t : Nat) (w : World) (ht : t < 256) :
    Calls Tryd.prog 124 #[.int .u8 (t : Int)] w fun e w' => e = .returned (.int .i64 ((t : Int) - 16)) ∧ w' = w := by
  go_enter Tryd.func124, Tryd.ntmps124
  go_wp2
  go_ret
  exact ⟨ret_int (by first | rfl | omega), rfl⟩

def isClassD (n : Nat) (c : Int) : Bool := decide (0 ≤ c ∧ c < (n : Int))
theorem isClass_any (ao : Option Addr) (n cap : Nat) (c : Int) (w : World) :
    Calls Tryd.prog 123 #[.slice ao n cap, .int .i64 c] w fun e w' => e = .returned (.bool (isClassD n c)) ∧ w' = w := by
  by_cases h1 : 0 ≤ c
  · have h1' : c ≥ 0 := h1
    by_cases h2 : c < (n : Int)
    · have HR : Hid (isClassD n c = true) := hide (decide_eq_true ⟨h1, h2⟩)
      go_enter Tryd.func123, Tryd.ntmps123
      go_wp2
      go_ret
      exact ⟨ret_bool (unhide HR).symm, rfl⟩
    · have HR : Hid (isClassD n c = false) := hide (decide_eq_false (fun h => h2 h.2))
      go_enter Tryd.func123, Tryd.ntmps123
      go_wp2
      go_ret
      exact ⟨ret_bool (unhide HR).symm, rfl⟩
  · have h1' : ¬ c ≥ 0 := h1
    have HR : Hid (isClassD n c = false) := hide (decide_eq_false (fun h => h1 h.1))
    go_enter Tryd.func123, Tryd.ntmps123
    go_wp2
    go_ret
    exact ⟨ret_bool (unhide HR).symm, rfl⟩

theorem valid_class {n t : Nat} (h : ¬ t ≤ 5) : isClassD n ((t : Int) - 16) = validD n t := by
  unfold isClassD validD
  rw [decide_eq_decide]
  omega
theorem Valid_any (ao : Option Addr) (n cap t : Nat) (w : World) (ht : t < 256) :
    Calls Tryd.prog 121 #[.slice ao n cap, .int .u8 (t : Int)] w fun e w' => e = .returned (.bool (validD n t)) ∧ w' = w := by
  by_cases h1 : t ≤ 5
  · have HR := hide (validD_lo (n := n) h1)
    have i1 : ((t : Nat) : Int) ≤ 5 := by omega
    go_enter Tryd.func121, Tryd.ntmps121
    go_wp2
    go_ret
    exact ⟨ret_bool (unhide HR).symm, rfl⟩
  · have i1 : ¬ ((t : Nat) : Int) ≤ 5 := by omega
    have HR := hide (valid_class (n := n) h1)
    go_enter Tryd.func121, Tryd.ntmps121
    go_wp2_with fail
    refine (classOf_any t _ ht).mono ?_
    rintro e w2 ⟨rfl, rfl⟩
    go_wp2_with fail
    refine (isClass_any ao n cap ((t : Int) - 16) _).mono ?_
    rintro e w3 ⟨rfl, rfl⟩
    rw [unhide HR]
    go_wp2
    go_ret
    exact ⟨rfl, rfl⟩

def isRefD (t : Nat) : Bool := decide (t = 3 ∨ t = 4 ∨ t = 5 ∨ 16 ≤ t)
theorem IsRef_any (t : Nat) (w : World) :
    Calls Tryd.prog 38 #[.int .u8 (t : Int)] w fun e w' => e = .returned (.bool (isRefD t)) ∧ w' = w := by
  by_cases h3 : t = 3
  · have HR : Hid (isRefD t = true) := hide (decide_eq_true (.inl h3))
    have b3 : (((t : Nat) : Int) == 3) = true := beq_t (by omega)
    clear h3
    go_enter Tryd.func38, Tryd.ntmps38
    go_wp2
    go_ret
    exact ⟨ret_bool (unhide HR).symm, rfl⟩
  · have b3 : (((t : Nat) : Int) == 3) = false := beq_f (by omega)
    by_cases h4 : t = 4
    · have HR : Hid (isRefD t = true) := hide (decide_eq_true (.inr (.inl h4)))
      have b4 : (((t : Nat) : Int) == 4) = true := beq_t (by omega)
      clear h3 h4
      go_enter Tryd.func38, Tryd.ntmps38
      go_wp2
      go_ret
      exact ⟨ret_bool (unhide HR).symm, rfl⟩
    · have b4 : (((t : Nat) : Int) == 4) = false := beq_f (by omega)
      by_cases h5 : t = 5
      · have HR : Hid (isRefD t = true) := hide (decide_eq_true (.inr (.inr (.inl h5))))
        have b5 : (((t : Nat) : Int) == 5) = true := beq_t (by omega)
        clear h3 h4 h5
        go_enter Tryd.func38, Tryd.ntmps38
        go_wp2
        go_ret
        exact ⟨ret_bool (unhide HR).symm, rfl⟩
      · have b5 : (((t : Nat) : Int) == 5) = false := beq_f (by omega)
        have HR : Hid (isRefD t = decide (((t : Nat) : Int) ≥ 16)) := hide (by unfold isRefD; rw [decide_eq_decide]; omega)
        clear h3 h4 h5
        go_enter Tryd.func38, Tryd.ntmps38
        go_wp2
        go_ret
        refine ⟨ret_bool ?_, rfl⟩
        rw [unhide HR]

/-! ### Lines -/
def inLineD (T : List Cl) (c a : Int) : Bool := (lineB T T.length c).any fun (x : Nat) => (x : Int) == a
theorem inLineD_yes {T : List Cl} {c a : Int} {pre : List Nat} {x : Nat} (hp : pre <+: lineB T T.length c) (hx : x ∈ pre) (e : (x : Int) = a) : inLineD T c a = true := by
  unfold inLineD
  rw [List.any_eq_true]
  exact ⟨x, hp.subset hx, beq_t e⟩
theorem inLineD_no {T : List Cl} {c a : Int} (h : ∀ x ∈ lineB T T.length c, (x : Int) ≠ a) : inLineD T c a = false := by
  unfold inLineD
  rw [List.any_eq_false]
  intro x hx
  rw [beq_f (h x hx)]
  simp

theorem cellBox {W : World} {B : Nat} {v : Value} {t : TypeId} (h : W.heap[B]? = some (.cells #[v] t (0, 0))) : W.cell? ⟨B, 0, none⟩ = some v ∧ W.frozen? ⟨B, 0, none⟩ = false := by
  constructor <;> simp [World.cell?, World.frozen?, h]
theorem cellNew (W : World) (v : Value) (t : TypeId) : (W.alloc (.cells #[v] t)).cell? ⟨W.heap.size, 0, none⟩ = some v ∧ (W.alloc (.cells #[v] t)).frozen? ⟨W.heap.size, 0, none⟩ = false := by
  exact cellBox (World.alloc_heap_new W _)
theorem cellAlloc {W : World} {a : Addr} {v : Value} (o : Obj) (h : W.cell? a = some v) : (W.alloc o).cell? a = some v := cell_kept h (World.grownBy_alloc W o none) (fun r e => by cases e)
theorem frozenAlloc {W : World} {a : Addr} {v : Value} (o : Obj) (h : W.cell? a = some v) (hf : W.frozen? a = false) : (W.alloc o).frozen? a = false := (frozen_kept h (World.grownBy_alloc W o none) (fun r e => by cases e)).trans hf

end Go.Proofs.YtbiofkgdbdjdnaaDoor
