/-
  Contracts of types.typeOf and Merge: what the plain functions say; nothing old is turned. Conditions: types are bytes.
-/
import Derived.Test.YtbiofkgdbdjdnaaDoorLeast
import Derived.Stop.RegionWithIn
namespace Go.Proofs.YtbiofkgdbdjdnaaDoor
open Go.RowKit Go.Shelf
set_option maxRecDepth 20000
attribute [local go_sem] Oper.semAt_some

def tyD (x : Nat) : Nat := (16 + x) % 256
theorem tyD_lt (x : Nat) : tyD x < 256 := Nat.mod_lt _ (by decide)
theorem tyD_eq {x : Nat} (h : x < 240) : tyD x = 16 + x := by unfold tyD; omega
theorem typeOf_all (x : Nat) (w : World) :
    Calls Tryd.prog 117 #[.int .i64 (x : Int)] w fun e w' => e = .returned (.int .u8 ((tyD x : Nat) : Int)) ∧ w' = w := by
  have HD : Hid (((tyD x : Nat) : Int) = (16 + (x : Int)) % 256) := hide (by unfold tyD; omega)
  go_enter Tryd.func117, Tryd.ntmps117
  go_wp2
  go_ret
  refine ⟨ret_int ?_, rfl⟩
  rw [unhide HD]
  omega
theorem typeOf_any (c : Nat) (w : World) (hc : c < 240) :
    Calls Tryd.prog 117 #[.int .i64 (c : Int)] w fun e w' => e = .returned (.int .u8 ((16 + c : Nat) : Int)) ∧ w' = w := by
  go_enter Tryd.func117, Tryd.ntmps117
  go_wp2
  go_ret
  exact ⟨ret_int (by first | rfl | omega), rfl⟩

theorem keepsOthers_below {W W' : World} (h : Below W.heap.size W W') : KeepsOthers W W' :=
  KeepsOthers.of_grownBy (row := none) ⟨h.os, h.tape, h.output, h.size, fun k hk _ => h.block k hk⟩ (fun r o e => by cases e)
theorem line_240 {T : List Cl} {a y : Nat} (ha : a < 256) (hy : y ∈ lineB T T.length ((a : Int) - 16)) : y < 240 := by
  by_cases h : 16 ≤ a
  · rw [show (a : Int) - 16 = ((a - 16 : Nat) : Int) from by omega] at hy
    have := line_le hy
    omega
  · rw [lineB_out (by omega)] at hy; simp at hy
theorem find_none {T : List Cl} {a b : Nat} (ha : a < 256) (h : ∀ y ∈ lineB T T.length ((a : Int) - 16), subD T b (tyD y) = false) : (lineB T T.length ((a : Int) - 16)).find? (fun c => subD T b (16 + c)) = none := by
  rw [List.find?_eq_none]
  intro y hy
  have := h y hy
  rw [tyD_eq (line_240 ha hy)] at this
  simpa using this
theorem find_some {T : List Cl} {a b : Nat} {pre : List Nat} {y : Nat} (ha : a < 256) (hp : (pre ++ [y]) <+: lineB T T.length ((a : Int) - 16)) (hn : ∀ z ∈ pre, subD T b (tyD z) = false) (hy : subD T b (tyD y) = true) : (lineB T T.length ((a : Int) - 16)).find? (fun c => subD T b (16 + c)) = some y := by
  have h240 : ∀ z ∈ pre ++ [y], z < 240 := fun z hz => line_240 ha (hp.subset hz)
  obtain ⟨rest, hr⟩ := hp
  rw [List.find?_eq_some_iff_append]
  refine ⟨?_, pre, rest, by rw [← hr]; simp, fun z hz => ?_⟩
  · rw [← tyD_eq (h240 y (by simp))]; exact hy
  · have := hn z hz
    rw [tyD_eq (h240 z (by simp [hz]))] at this
    simpa using this

/-- A statement that cannot leave but ahead, and ends in one state. -/
theorem wpIn_same {F : Fence} {n : Nat} {P : Program} {c : Code} {K : Act → World → Prop} {Q : Exit → Act → World → Prop} {a : Act} {w : World} {A : Act} {W : World}
    (h : c.wpIn F n P (Exit.then (fun a' w' => a' = A ∧ w' = W) (fun _ _ _ => False)) a w) (rest : K A W) : c.wpIn F n P (Exit.then K Q) a w := by
  refine wpIn_mono h ?_
  intro e a' w' hq
  cases e with
  | normal =>
    obtain ⟨h1, h2⟩ : a' = A ∧ w' = W := hq
    rw [h1, h2]
    exact rest
  | exit id => exact False.elim hq
  | goto l => exact False.elim hq
  | ret => exact False.elim hq
  | panic ch => exact False.elim hq
  | outgrown => exact False.elim hq
/-- The same, where the world is known by a relation. -/
theorem wpIn_rel {F : Fence} {n : Nat} {P : Program} {c : Code} {K : Act → World → Prop} {Q : Exit → Act → World → Prop} {a : Act} {w : World} {A : Act} (R : World → Prop)
    (h : c.wpIn F n P (Exit.then (fun a' w' => a' = A ∧ R w') (fun _ _ _ => False)) a w) (rest : ∀ W, R W → K A W) : c.wpIn F n P (Exit.then K Q) a w := by
  refine wpIn_mono h ?_
  intro e a' w' hq
  cases e with
  | normal =>
    obtain ⟨h1, h2⟩ : a' = A ∧ R w' := hq
    rw [h1]
    exact rest _ h2
  | exit id => exact False.elim hq
  | goto l => exact False.elim hq
  | ret => exact False.elim hq
  | panic ch => exact False.elim hq
  | outgrown => exact False.elim hq

/-- The boxes of a call. -/
structure MB (w W : World) (ao : Option Addr) (cap : Nat) (T : List Cl) (b : Nat) : Prop where
  l : W.cell? ⟨w.heap.size, 0, none⟩ = some (.slice ao T.length cap)
  b : W.cell? ⟨w.heap.size + 1, 0, none⟩ = some (.int .u8 (b : Int))
  r : W.cell? ⟨w.heap.size + 1 + 1, 0, none⟩ = some (.int .u8 0)
  f : W.frozen? ⟨w.heap.size + 1 + 1, 0, none⟩ = false
  bel : Below w.heap.size w W
theorem MB.below {w W W' : World} {ao : Option Addr} {cap : Nat} {T : List Cl} {b : Nat} (h : MB w W ao cap T b) (hb : Below W.heap.size W W') : MB w W' ao cap T b := by
  have h1 := World.block_lt_of_cell? W _ h.l
  have h2 := World.block_lt_of_cell? W _ h.b
  have h3 := World.block_lt_of_cell? W _ h.r
  exact ⟨(hb.cell (p := ⟨w.heap.size, 0, none⟩) h1).trans h.l, (hb.cell (p := ⟨w.heap.size + 1, 0, none⟩) h2).trans h.b, (hb.cell (p := ⟨w.heap.size + 1 + 1, 0, none⟩) h3).trans h.r, (hb.frozen (p := ⟨w.heap.size + 1 + 1, 0, none⟩) h3).trans h.f, h.bel.trans (hb.mono h.bel.size)⟩
theorem MB.tab {w W : World} {ao : Option Addr} {cap : Nat} {T : List Cl} {b : Nat} (h : MB w W ao cap T b) (hT : TabAt w ao T) : TabAt W ao T := hT.below h.bel
theorem MB.start (w : World) (ao : Option Addr) (cap : Nat) (T : List Cl) (b : Nat) : MB w (((w.alloc (Obj.cells #[Value.slice ao T.length cap] 22)).alloc (Obj.cells #[Value.int IntKind.u8 (b : Int)] 39)).alloc (Obj.cells #[Value.int IntKind.u8 0] 39)) ao cap T b := by
  have c0 := cellNew w (.slice ao T.length cap) 22
  have c1 := cellNew (w.alloc (.cells #[.slice ao T.length cap] 22)) (.int .u8 (b : Int)) 39
  have c2 := cellNew ((w.alloc (.cells #[.slice ao T.length cap] 22)).alloc (.cells #[.int .u8 (b : Int)] 39)) (.int .u8 0) 39
  simp only [World.size_alloc] at c1 c2
  exact ⟨cellAlloc _ (cellAlloc _ c0.1), cellAlloc _ c1.1, c2.1, c2.2, (((Below.refl _ w).alloc (Nat.le_refl _) _).alloc (by simp) _).alloc (by simp; omega) _⟩

theorem merge_0 {T : List Cl} {a b : Nat} (h : (!validD T.length a || !validD T.length b) = true) : mergeD T a b = 0 := by unfold mergeD; rw [if_pos h]
theorem merge_1 {T : List Cl} {a b : Nat} (h : ¬ (!validD T.length a || !validD T.length b) = true) (h1 : subD T a b = true) : mergeD T a b = b := by unfold mergeD; rw [if_neg h, if_pos h1]
theorem merge_2 {T : List Cl} {a b : Nat} (h : ¬ (!validD T.length a || !validD T.length b) = true) (h1 : ¬ subD T a b = true) (h2 : subD T b a = true) : mergeD T a b = a := by unfold mergeD; rw [if_neg h, if_neg h1, if_pos h2]
theorem merge_3 {T : List Cl} {a b : Nat} (h : ¬ (!validD T.length a || !validD T.length b) = true) (h1 : ¬ subD T a b = true) (h2 : ¬ subD T b a = true) (h3 : (!isRefD a || !isRefD b) = true) : mergeD T a b = 0 := by unfold mergeD; rw [if_neg h, if_neg h1, if_neg h2, if_pos h3]
theorem merge_4 {T : List Cl} {a b : Nat} (h : ¬ (!validD T.length a || !validD T.length b) = true) (h1 : ¬ subD T a b = true) (h2 : ¬ subD T b a = true) (h3 : ¬ (!isRefD a || !isRefD b) = true) : mergeD T a b = match (lineB T T.length ((a : Int) - 16)).find? (fun c => subD T b (16 + c)) with | some c => 16 + c | none => 5 := by unfold mergeD; rw [if_neg h, if_neg h1, if_neg h2, if_neg h3] <;> rfl

end Go.Proofs.YtbiofkgdbdjdnaaDoor
