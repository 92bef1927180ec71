/-
  flow.Check.
-/
import Derived.Test.YtdpfinnclnapbaaDoorSc3
namespace Go.Proofs.YtdpfinnclnapbaaDoor
open Go.RowKit Go.Maps
set_option maxRecDepth 20000

theorem grownX {w w' : World} (h : Below w.heap.size w w') : w.grownBy w' none := ⟨h.os, h.tape, h.output, h.size, fun k hk _ => h.block k hk⟩
theorem zeroX (w : World) : (zeroValue 3).run Tryd.prog w = .ok (.int .i64 0) w := by kernel_rfl
theorem dA_bd (op : Nat) (t : List UInt8) (h : op < 34) : -9223372036854775808 ≤ dA op t ∧ dA op t ≤ 9223372036854775807 := by
  have h1 := beNI_lt (t.take (wA op))
  have h2 := wA_le op h
  have h3 : (t.take (wA op)).length ≤ 4 := by rw [List.length_take]; omega
  have h4 : 256 ^ (t.take (wA op)).length ≤ 256 ^ 4 := Nat.pow_le_pow_right (by omega) h3
  have h5 : beNI (t.take (wA op)) < 4294967296 := Nat.lt_of_lt_of_le h1 h4
  unfold dA s32I
  split
  · split <;> omega
  · omega
theorem ixD_bd {k : Nat} {l : List UInt8} (h : dE l = 0) : -9223372036854775808 ≤ (ixD k l).a ∧ (ixD k l).a ≤ 9223372036854775807 := by
  have ho := (ixD_ok (k := k) h).1
  cases l with
  | nil => simp [dE] at h
  | cons x t => exact dA_bd _ _ ho
theorem sc_bd (L : List UInt8) : ∀ f k, ∀ x ∈ (scD L f k).1, -9223372036854775808 ≤ x.a ∧ x.a ≤ 9223372036854775807 := by
  intro f
  induction f with
  | zero => intro k x hx; cases hx
  | succ f ih =>
    intro k x hx
    by_cases h : k < L.length
    · by_cases he : dE (L.drop k) = 0
      · rw [sc_good h he] at hx
        rcases List.mem_cons.1 hx with hx | hx
        · rw [hx]; exact ixD_bd he
        · exact ih _ x hx
      · rw [sc_bad h he] at hx; cases hx
    · rw [sc_end h] at hx; cases hx
theorem scR_bd (L : List UInt8) : ∀ x ∈ (scR L).1, -9223372036854775808 ≤ x.a ∧ x.a ≤ 9223372036854775807 := by
  intro x hx
  unfold scR at hx
  by_cases h : 4096 < L.length
  · rw [if_pos h] at hx; cases hx
  · rw [if_neg h] at hx
    split at hx
    · exact sc_bd L _ _ x hx
    · cases hx
theorem has_fold2 (a : Int) : ∀ (acc : List (Ix × Nat)) (m : DataW Unit), IsMap m → Maps.has (acc.foldl (fun m y => m.put (.int .i64 y.1.p) (.lit (.int .i64 (y.2 : Int)))) m) (Lit.int .i64 a) = (Maps.has m (Lit.int .i64 a) || acc.any (fun y => decide (y.1.p = a))) := by
  intro acc
  induction acc with
  | nil => intro m _; simp
  | cons y t ih =>
    intro m hm
    rw [List.foldl_cons, ih _ (IsMap.put hm _ _), List.any_cons]
    by_cases h : y.1.p = a
    · rw [← h, has_put_same hm (show WideAt.IsKeyLit (Lit.int .i64 y.1.p) from trivial)]; simp
    · rw [has_put_other (fun e => by injection e with _ e; exact h e.symm)]; simp [h]
theorem has_fMap (l : List Ix) (a : Int) : Maps.has (fMap (bks l)) (Lit.int .i64 a) = hasP l a := by
  unfold fMap
  rw [has_fold2 _ _ _ isMap_empty]
  have e0 : Maps.has (DataW.map ([] : List (Lit × DataW Unit))) (Lit.int .i64 a) = false := rfl
  rw [e0, Bool.false_or]
  unfold bks hasP
  rw [List.any_reverse]
  have e1 : (l.zipIdx.any (fun y => decide (y.1.p = a))) = ((l.zipIdx.map Prod.fst).any (fun y => decide (y.p = a))) := by
    rw [List.any_map]; rfl
  rw [e1, List.zipIdx_map_fst]

end Go.Proofs.YtdpfinnclnapbaaDoor
