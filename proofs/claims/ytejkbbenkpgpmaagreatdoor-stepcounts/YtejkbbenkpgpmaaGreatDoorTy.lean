/-
  Contracts of types.classOf, isClass, Valid, IsRef, inLine and Sub: each answers what the plain function says; nothing old is turned. Conditions: a type is a byte; the table fits.
-/
import Derived.Test.YtejkbbenkpgpmaaGreatDoorLine
import Derived.Test.YtejkbbenkpgpmaaGreatDoorT02a
namespace Go.Proofs.YtejkbbenkpgpmaaGreatDoor
open Go.RowKit Go.Shelf
set_option maxRecDepth 20000
attribute [local go_sem] Oper.semAt_some

theorem classOf_any (t : Nat) (w : World) (ht : t < 256) :
    Calls Tryz.prog 75 #[.int .u8 (t : Int)] w fun e w' => e = .returned (.int .i64 ((t : Int) - 16)) ∧ w' = w := by
  go_enter Tryz.func75, Tryz.ntmps75
  go_wp2
  go_ret
  exact ⟨ret_int (by first | rfl | omega), rfl⟩

def isClassD (n : Nat) (c : Int) : Bool := decide (0 ≤ c ∧ c < (n : Int))
theorem isClass_any (ao : Option Addr) (n cap : Nat) (c : Int) (w : World) :
    Calls Tryz.prog 74 #[.slice ao n cap, .int .i64 c] w fun e w' => e = .returned (.bool (isClassD n c)) ∧ w' = w := by
  by_cases h1 : 0 ≤ c
  · have h1' : c ≥ 0 := h1
    by_cases h2 : c < (n : Int)
    · have HR : Hid (isClassD n c = true) := hide (decide_eq_true ⟨h1, h2⟩)
      go_enter Tryz.func74, Tryz.ntmps74
      go_wp2
      go_ret
      exact ⟨ret_bool (unhide HR).symm, rfl⟩
    · have HR : Hid (isClassD n c = false) := hide (decide_eq_false (fun h => h2 h.2))
      go_enter Tryz.func74, Tryz.ntmps74
      go_wp2
      go_ret
      exact ⟨ret_bool (unhide HR).symm, rfl⟩
  · have h1' : ¬ c ≥ 0 := h1
    have HR : Hid (isClassD n c = false) := hide (decide_eq_false (fun h => h1 h.1))
    go_enter Tryz.func74, Tryz.ntmps74
    go_wp2
    go_ret
    exact ⟨ret_bool (unhide HR).symm, rfl⟩

theorem valid_class {n t : Nat} (h : ¬ t ≤ 5) : isClassD n ((t : Int) - 16) = validD n t := by
  unfold isClassD validD
  rw [decide_eq_decide]
  omega
theorem Valid_any (ao : Option Addr) (n cap t : Nat) (w : World) (ht : t < 256) :
    Calls Tryz.prog 62 #[.slice ao n cap, .int .u8 (t : Int)] w fun e w' => e = .returned (.bool (validD n t)) ∧ w' = w := by
  by_cases h1 : t ≤ 5
  · have HR := hide (validD_lo (n := n) h1)
    have i1 : ((t : Nat) : Int) ≤ 5 := by omega
    go_enter Tryz.func62, Tryz.ntmps62
    go_wp2
    go_ret
    exact ⟨ret_bool (unhide HR).symm, rfl⟩
  · have i1 : ¬ ((t : Nat) : Int) ≤ 5 := by omega
    have HR := hide (valid_class (n := n) h1)
    go_enter Tryz.func62, Tryz.ntmps62
    go_wp2_with fail
    refine (classOf_any t _ ht).mono ?_
    rintro e w2 ⟨rfl, rfl⟩
    go_wp2_with fail
    refine (isClass_any ao n cap ((t : Int) - 16) _).mono ?_
    rintro e w3 ⟨rfl, rfl⟩
    rw [unhide HR]
    go_wp2
    go_ret
    exact ⟨rfl, rfl⟩

def isRefD (t : Nat) : Bool := decide (t = 3 ∨ t = 4 ∨ t = 5 ∨ 16 ≤ t)
theorem IsRef_any (t : Nat) (w : World) :
    Calls Tryz.prog 106 #[.int .u8 (t : Int)] w fun e w' => e = .returned (.bool (isRefD t)) ∧ w' = w := by
  by_cases h3 : t = 3
  · have HR : Hid (isRefD t = true) := hide (decide_eq_true (.inl h3))
    have b3 : (((t : Nat) : Int) == 3) = true := beq_t (by omega)
    clear h3
    go_enter Tryz.func106, Tryz.ntmps106
    go_wp2
    go_ret
    exact ⟨ret_bool (unhide HR).symm, rfl⟩
  · have b3 : (((t : Nat) : Int) == 3) = false := beq_f (by omega)
    by_cases h4 : t = 4
    · have HR : Hid (isRefD t = true) := hide (decide_eq_true (.inr (.inl h4)))
      have b4 : (((t : Nat) : Int) == 4) = true := beq_t (by omega)
      clear h3 h4
      go_enter Tryz.func106, Tryz.ntmps106
      go_wp2
      go_ret
      exact ⟨ret_bool (unhide HR).symm, rfl⟩
    · have b4 : (((t : Nat) : Int) == 4) = false := beq_f (by omega)
      by_cases h5 : t = 5
      · have HR : Hid (isRefD t = true) := hide (decide_eq_true (.inr (.inr (.inl h5))))
        have b5 : (((t : Nat) : Int) == 5) = true := beq_t (by omega)
        clear h3 h4 h5
        go_enter Tryz.func106, Tryz.ntmps106
        go_wp2
        go_ret
        exact ⟨ret_bool (unhide HR).symm, rfl⟩
      · have b5 : (((t : Nat) : Int) == 5) = false := beq_f (by omega)
        have HR : Hid (isRefD t = decide (((t : Nat) : Int) ≥ 16)) := hide (by unfold isRefD; rw [decide_eq_decide]; omega)
        clear h3 h4 h5
        go_enter Tryz.func106, Tryz.ntmps106
        go_wp2
        go_ret
        refine ⟨ret_bool ?_, rfl⟩
        rw [unhide HR]

/-! ### Lines -/
def inLineD (T : List Cl) (c a : Int) : Bool := (lineB T T.length c).any fun (x : Nat) => (x : Int) == a
theorem inLineD_yes {T : List Cl} {c a : Int} {pre : List Nat} {x : Nat} (hp : pre <+: lineB T T.length c) (hx : x ∈ pre) (e : (x : Int) = a) : inLineD T c a = true := by
  unfold inLineD
  rw [List.any_eq_true]
  exact ⟨x, hp.subset hx, beq_t e⟩
theorem inLineD_no {T : List Cl} {c a : Int} (h : ∀ x ∈ lineB T T.length c, (x : Int) ≠ a) : inLineD T c a = false := by
  unfold inLineD
  rw [List.any_eq_false]
  intro x hx
  rw [beq_f (h x hx)]
  simp

theorem cellBox {W : World} {B : Nat} {v : Value} {t : TypeId} (h : W.heap[B]? = some (.cells #[v] t (0, 0))) : W.cell? ⟨B, 0, none⟩ = some v ∧ W.frozen? ⟨B, 0, none⟩ = false := by
  constructor <;> simp [World.cell?, World.frozen?, h]
theorem cellNew (W : World) (v : Value) (t : TypeId) : (W.alloc (.cells #[v] t)).cell? ⟨W.heap.size, 0, none⟩ = some v ∧ (W.alloc (.cells #[v] t)).frozen? ⟨W.heap.size, 0, none⟩ = false := by
  exact cellBox (World.alloc_heap_new W _)
theorem cellAlloc {W : World} {a : Addr} {v : Value} (o : Obj) (h : W.cell? a = some v) : (W.alloc o).cell? a = some v := cell_kept h (World.grownBy_alloc W o none) (fun r e => by cases e)
theorem frozenAlloc {W : World} {a : Addr} {v : Value} (o : Obj) (h : W.cell? a = some v) (hf : W.frozen? a = false) : (W.alloc o).frozen? a = false := (frozen_kept h (World.grownBy_alloc W o none) (fun r e => by cases e)).trans hf

set_option maxRecDepth 100000 in
set_option maxHeartbeats 2000000 in
theorem inLine_any (ao : Option Addr) (cap : Nat) (T : List Cl) (c want : Int) (w : World) (hT : TabAt w ao T) :
    Calls Tryz.prog 107 #[.slice ao T.length cap, .int .i64 c, .int .i64 want] w fun e w' => e = .returned (.bool (inLineD T c want)) ∧ Below w.heap.size w w' := by
  refine (callsIn_wide (n := 3)).1 ?_
  refine callsIn_of_wp_marks Tryz.func107 rfl trivial ?_ rfl
  simp only [Tryz.ntmps107, List.size_toArray, List.length_cons, List.length_nil, Nat.reduceAdd, Nat.reduceSub, Array.replicate_succ, Array.replicate_zero, List.push_toArray, List.append_toArray, List.nil_append, List.cons_append]
  gi_wp2
  refine ⟨trivial, ?_⟩
  refine (lineMake_in _ _ _ _ _ _).mono ?_
  rintro e w' ⟨rfl, rfl⟩
  gi_wp2
  have c0 := cellNew w (.int .i64 want) 3
  have c1 := cellNew (w.alloc (.cells #[.int .i64 want] 3)) (.bool false) 4
  have c2 := cellNew ((w.alloc (.cells #[.int .i64 want] 3)).alloc (.cells #[.bool false] 4)) (.slice ao T.length cap) 22
  have c3 := cellNew (((w.alloc (.cells #[.int .i64 want] 3)).alloc (.cells #[.bool false] 4)).alloc (.cells #[.slice ao T.length cap] 22)) (.int .i64 c) 3
  simp only [World.size_alloc] at c1 c2 c3
  have hB0 : Below w.heap.size w ((((w.alloc (.cells #[.int .i64 want] 3)).alloc (.cells #[.bool false] 4)).alloc (.cells #[.slice ao T.length cap] 22)).alloc (.cells #[.int .i64 c] 3)) := ((((Below.refl _ w).alloc (Nat.le_refl _) _).alloc (by simp) _).alloc (by simp; omega) _).alloc (by simp; omega) _
  have h1 : 1 ≤ 3 := by omega
  refine wpIn_rangeFunc_ownF rfl h1 (gf := 137) (lb := #[.pointer (some ⟨w.heap.size + 1 + 1 + 1, 0, none⟩), .pointer (some ⟨w.heap.size + 1 + 1, 0, none⟩)]) rfl trivial (enters_of Tryz.func137 (by kernel_rfl) rfl)
    (line_stops (3 - 1) (by omega) (w.heap.size + 1 + 1 + 1) (w.heap.size + 1 + 1) ao cap T c w _ hT hB0 c3.1 (cellAlloc _ c2.1)) keepsL_t (keepsL_b (by simp; omega) (by simp)) (Below.refl _ _) (fun _ => rfl)
    (fun pre W => ((∀ y ∈ pre, (y : Int) ≠ want) ∧ W.cell? ⟨w.heap.size, 0, none⟩ = some (.int .i64 want) ∧ W.cell? ⟨w.heap.size + 1, 0, none⟩ = some (.bool false) ∧ W.frozen? ⟨w.heap.size + 1, 0, none⟩ = false) ∧ Below w.heap.size w W)
    (fun c pre W => (c = .ret ∧ (∃ y ∈ pre, (y : Int) = want) ∧ W.cell? ⟨w.heap.size + 1, 0, none⟩ = some (.bool true)) ∧ Below w.heap.size w W)
    (OwnFrom.and (Own.from (fun s A B row hs hg hr => ⟨hs.1, cell_kept hs.2.1 hg hr, cell_kept hs.2.2.1 hg hr, (frozen_kept hs.2.2.1 hg hr).trans hs.2.2.2⟩) _) (ownFrom_below (Nat.le_refl _) (by simp; omega)))
    (fun c => OwnFrom.and (Own.from (fun s A B row hs hg hr => ⟨hs.1, hs.2.1, cell_kept hs.2.2 hg hr⟩) _) (ownFrom_below (Nat.le_refl _) (by simp; omega)))
    ⟨⟨by simp, cellAlloc _ (cellAlloc _ (cellAlloc _ c0.1)), cellAlloc _ (cellAlloc _ c1.1), frozenAlloc _ (cellAlloc _ c1.1) (frozenAlloc _ c1.1 c1.2)⟩, hB0⟩
    (fun x => { tmps := #[.slice ao T.length cap, .int .i64 c, .int .i64 want, undef, undef, .pointer (some ⟨w.heap.size, 0, none⟩), .pointer (some ⟨w.heap.size + 1, 0, none⟩), .int .i64 (x : Int), .slice ao T.length cap, .int .i64 c, .func (.func 137) #[] #[.pointer (some ⟨w.heap.size + 1 + 1 + 1, 0, none⟩), .pointer (some ⟨w.heap.size + 1 + 1, 0, none⟩)], .int .i64 (x : Int), undef, undef, undef], defers := [] }) ?assign ?body ?done ?stop
  case assign =>
    intro l x W K hK
    gi_wp2
    exact hK
  case body =>
    rintro l pre x W ⟨⟨hp, hcw, hcr, hfr⟩, hB⟩ _
    gi_wp2
    · rename_i hx
      obtain hx' : (x : Int) = want := eq_of_beq hx
      exact ⟨KeepsOthers.setCell _ _ _, ⟨rfl, ⟨x, List.mem_append.2 (.inr (by simp)), hx'⟩, World.cell?_setCell_same' _ _ _ (by rw [hcr]; rfl)⟩, hB.setCell (p := ⟨w.heap.size + 1, 0, none⟩) (by simp) _⟩
    · rename_i hx
      have hx' : (x : Int) ≠ want := fun e => by rw [beq_t e] at hx; cases hx
      exact ⟨KeepsOthers.refl _, ⟨Below.refl _ _, rfl⟩, ⟨fun y hy => (List.mem_append.1 hy).elim (hp y) (fun e => by simp at e; subst e; exact hx'), hcw, hcr, hfr⟩, hB⟩
  case done =>
    rintro D ys W hD rfl ⟨⟨hne, _, hcr, hfr⟩, hB⟩ hK
    gi_wp2
    have hK' := (KeepsOthers.setCell W ⟨w.heap.size + 1, 0, none⟩ (.bool false)).same D _ hK rfl
    refine ⟨by simp, .inl ⟨_, _, rfl, run_takeDeferred hK', ?_⟩⟩
    have hc5 := cell_kept (World.cell?_setCell_same' W ⟨w.heap.size + 1, 0, none⟩ (.bool false) (by rw [hcr]; rfl)) (grownBy_putObj' _ D (.deferred none)) (fun r e => by cases e; exact ⟨_, hK', rfl⟩)
    refine ⟨.bool false, ?_, by rw [inLineD_no hne], (hB.setCell (p := ⟨w.heap.size + 1, 0, none⟩) (by simp) _).trans (belowK_b (w := w) (Nat.le_refl _) _ D _ _ (by simp at hD; omega) hK' rfl rfl)⟩
    simp [results, Tryz.f107, go_sem, hc5]
  case stop =>
    rintro D c' pre W hD hpre ⟨⟨rfl, ⟨y, hy, ey⟩, hcr⟩, hB⟩ hK
    gi_wp2
    refine ⟨by simp, .inl ⟨_, _, rfl, run_takeDeferred hK, ?_⟩⟩
    have hc5 := cell_kept hcr (grownBy_putObj' _ D (.deferred none)) (fun r e => by cases e; exact ⟨_, hK, rfl⟩)
    refine ⟨.bool true, ?_, by rw [inLineD_yes hpre hy ey], hB.trans (belowK_b (w := w) (Nat.le_refl _) W D _ _ (by simp at hD; omega) hK rfl rfl)⟩
    simp [results, Tryz.f107, go_sem, hc5]
end Go.Proofs.YtejkbbenkpgpmaaGreatDoor
