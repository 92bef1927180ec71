/-
  The contract of types.lineSize: how many fields stand along a class's line. All that lay lies unturned. Conditions: the table fits, and there are at most a million.
-/
import Derived.Test.YtjccomjgmejnhaaKChkL
namespace Go.Proofs.Ytjccomjgmejnhaa
open Go.RowKit Go.Shelf
attribute [local go_sem] Oper.semAt_some

theorem wpIn_relB {F : Fence} {n : Nat} {P : Program} {c : Code} {Q : Exit → Act → World → Prop} {a : Act} {w : World} {A : Act} (R : World → Prop)
    (h : c.wpIn F n P (Exit.then (fun a' w' => a' = A ∧ R w') (fun _ _ _ => False)) a w) (rest : ∀ W, R W → Q .normal A W) : c.wpIn F n P Q a w := by
  refine wpIn_mono h ?_
  intro e a' w' hq
  cases e with
  | normal =>
    obtain ⟨rfl, h2⟩ := hq
    exact rest _ h2
  | _ => exact hq.elim

def szD (T : List Cl) (pre : List {x : Nat // x < T.length}) : Int := ((pre.map fun x => (fsD T x.1).length).sum : Nat)
/-- That number, or what is left of it, if it is too great. -/
def zD (T : List Cl) (pre : List {x : Nat // x < T.length}) : Int := pre.foldl (fun z x => IntKind.wrap .i64 (z + (fsD T x.1).length)) 0
theorem zD_snoc (T : List Cl) (pre : List {x : Nat // x < T.length}) (x : {x : Nat // x < T.length}) : zD T (pre ++ [x]) = IntKind.wrap .i64 (zD T pre + (fsD T x.1).length) := by
  unfold zD
  rw [List.foldl_append]
  rfl
theorem szD_snoc (T : List Cl) (pre : List {x : Nat // x < T.length}) (x : {x : Nat // x < T.length}) : szD T (pre ++ [x]) = szD T pre + (fsD T x.1).length := by
  unfold szD
  rw [List.map_append, List.sum_append]
  simp
theorem szD_nonneg (T : List Cl) (pre : List {x : Nat // x < T.length}) : 0 ≤ szD T pre := by unfold szD; omega
theorem zD_from {T : List Cl} : ∀ (pre : List {x : Nat // x < T.length}) (z : Int), 0 ≤ z → z + szD T pre ≤ 1000000 → pre.foldl (fun z x => IntKind.wrap .i64 (z + (fsD T x.1).length)) z = z + szD T pre
  | [], z, _, _ => by simp [szD]
  | x :: pre, z, h0, h => by
    have e : szD T (x :: pre) = (fsD T x.1).length + szD T pre := by unfold szD; simp
    have h1 := szD_nonneg T pre
    rw [e] at h ⊢
    rw [List.foldl_cons, IntWalk.i64_in _ (by omega), zD_from pre _ (by omega) (by omega)]
    omega
theorem zD_small {T : List Cl} {pre : List {x : Nat // x < T.length}} (h : szD T pre ≤ 1000000) : zD T pre = szD T pre := by
  unfold zD
  rw [zD_from pre 0 (by omega) (by omega)]
  omega
theorem szD_le {T : List Cl} {c : Int} {pre : List {x : Nat // x < T.length}} (h : pre.map Subtype.val <+: lineB T T.length c) : szD T pre ≤ (fieldsB T c).length := by
  obtain ⟨r, hr⟩ := h
  have e : (fieldsB T c).length = ((lineB T T.length c).map fun k => (fsD T k).length).sum := by
    unfold fieldsB
    rw [List.length_flatMap, List.map_reverse, List.sum_reverse]
  rw [e, ← hr, List.map_append, List.sum_append, List.map_map]
  unfold szD
  simp only [Function.comp_def]
  omega
theorem szD_all {T : List Cl} {c : Int} {ys : List {x : Nat // x < T.length}} (h : ys.map Subtype.val = lineB T T.length c) : szD T ys = (fieldsB T c).length := by
  unfold fieldsB szD
  rw [List.length_flatMap, List.map_reverse, List.sum_reverse, ← h, List.map_map]
  rfl

end Go.Proofs.Ytjccomjgmejnhaa
