/-
  Contracts of provisoref02's Rank, all, Merge and Print: what the plain functions say; nothing old is turned. Conditions: types are bytes; the table may be.
-/
import Derived.Test.YtnkhkppddlpcmaaDoorKRefSub
import Derived.Test.YtnkhkppddlpcmaaDoorJTY
namespace Go.Proofs.YtnkhkppddlpcmaaDoor
open Go.RowKit
set_option maxRecDepth 20000

theorem wordE_any (t : Nat) (w : World) (ht : 5 < t) (ht2 : t < 256) :
    Calls Tryd.prog 95 #[.int .u8 (t : Int)] w fun e w' => e = .returned (.string ⟨#[]⟩) ∧ w' = w := by
  have b0 : (((t : Nat) : Int) == 0) = false := beq_f (by omega)
  have b1 : (((t : Nat) : Int) == 1) = false := beq_f (by omega)
  have b2 : (((t : Nat) : Int) == 2) = false := beq_f (by omega)
  have b3 : (((t : Nat) : Int) == 3) = false := beq_f (by omega)
  have b4 : (((t : Nat) : Int) == 4) = false := beq_f (by omega)
  have b5 : (((t : Nat) : Int) == 5) = false := beq_f (by omega)
  clear ht ht2
  go_enter Tryd.func95, Tryd.ntmps95
  go_wp2
  go_ret
  exact ⟨rfl, rfl⟩

/-! ### The valid types, in a row -/
def allD (n : Nat) : List Nat := (List.range 256).filter (validD n)
def tvals (l : List Nat) : List Value := l.map fun (x : Nat) => Value.int .u8 (x : Int)
def OwnT (w : World) (base : Nat) (v : Value) (l : List Nat) : Prop := w.ownsRow base 39 1 v l.length (tvals l)
theorem infoT : (Tryd.prog.info? 39).map (fun i => (i.zero, i.size, i.bytes)) = some (some (.int .u8 0), 1, 1) := by kernel_rfl
theorem OwnT.slice {w : World} {base : Nat} {v : Value} {l : List Nat} (h : OwnT w base v l) : ∃ ao cap, v = .slice ao l.length cap ∧ ∀ (i x : Nat), l[i]? = some x → ∃ g, ao = some ⟨g, 0, none⟩ ∧ w.cell? ⟨g, i, none⟩ = some (.int .u8 (x : Int)) := by
  rcases h.2 with ⟨h1, h2⟩ | ⟨g, cap, cur, rfl, hb, hh, hn, hm, hs, ht⟩
  · obtain rfl := List.eq_nil_of_length_eq_zero h2
    exact ⟨none, 0, h1, fun i x hx => by simp at hx⟩
  · refine ⟨_, cap, rfl, fun i x hx => ⟨g, rfl, ?_⟩⟩
    have hi := (List.getElem?_eq_some_iff.1 hx).1
    rw [World.ownsRow.cellAt h i (by omega)]
    unfold tvals
    rw [List.getElem?_map, hx]
    rfl
def allK (n k : Nat) : List Nat := (List.range k).filter (validD n)
theorem allK_succ (n k : Nat) : allK n (k + 1) = if validD n k = true then allK n k ++ [k] else allK n k := by
  unfold allK
  rw [List.range_succ, List.filter_append]
  by_cases h : validD n k = true
  · rw [if_pos h]; simp [h]
  · rw [if_neg h]; simp [h]
theorem allK_length (n k : Nat) : (allK n k).length ≤ k := by
  unfold allK
  have := List.length_filter_le (validD n) (List.range k)
  simpa using this

/-! ### The best of some types -/
def stepB (T : List Cl) (a b best t : Nat) : Nat := if (subD T a t && subD T b t && subD T t best) = true then t else best
theorem best_lub {T : List Cl} {a b m : Nat} (hl : IsLub T a b m) : ∀ (l : List Nat) (best : Nat), Le T a best → Le T b best → (m ∈ l ∨ best = m) → l.foldl (stepB T a b) best = m
  | [], best, _, _, h => by
    rcases h with h | h
    · simp at h
    · exact h
  | t :: l, best, h1, h2, h => by
    rw [List.foldl_cons]
    by_cases hc : (subD T a t && subD T b t && subD T t best) = true
    · have hs : stepB T a b best t = t := by unfold stepB; rw [if_pos hc]
      rw [hs]
      simp only [Bool.and_eq_true] at hc
      refine best_lub hl l t (subD_iff.1 hc.1.1) (subD_iff.1 hc.1.2) ?_
      rcases h with h | h
      · rcases List.mem_cons.1 h with h | h
        · exact .inr h.symm
        · exact .inl h
      · right
        exact (h ▸ subD_iff.1 hc.2).antisymm (hl.least t (subD_iff.1 hc.1.1) (subD_iff.1 hc.1.2))
    · have hs : stepB T a b best t = best := by unfold stepB; rw [if_neg hc]
      rw [hs]
      refine best_lub hl l best h1 h2 ?_
      rcases h with h | h
      · rcases List.mem_cons.1 h with h | h
        · exfalso
          subst h
          apply hc
          rw [subD_iff.2 hl.left, subD_iff.2 hl.right, subD_iff.2 (hl.least best h1 h2)]
          rfl
        · exact .inl h
      · exact .inr h
theorem best_bad {T : List Cl} {a b : Nat} (h : ¬ (validD T.length a = true ∧ validD T.length b = true)) : ∀ (l : List Nat) (best : Nat), l.foldl (stepB T a b) best = best
  | [], best => rfl
  | t :: l, best => by
    rw [List.foldl_cons]
    have hs : stepB T a b best t = best := by
      unfold stepB
      rw [if_neg]
      intro hc
      simp only [Bool.and_eq_true] at hc
      exact h ⟨validD_iff.2 (subD_iff.1 hc.1.1).1, validD_iff.2 (subD_iff.1 hc.1.2).1⟩
    rw [hs]
    exact best_bad h l best
theorem best_eq {T : List Cl} {a b : Nat} (ha : a < 256) (hb : b < 256) : (allD T.length).foldl (stepB T a b) 0 = mergeD T a b := by
  by_cases hv : validD T.length a = true ∧ validD T.length b = true
  · refine best_lub (mergeD_lub hv.1 hv.2) _ 0 (Le.top (validD_iff.1 hv.1)) (Le.top (validD_iff.1 hv.2)) (.inl ?_)
    unfold allD
    rw [List.mem_filter]
    exact ⟨List.mem_range.2 (merge_lt ha hb), merge_valid hv.1 hv.2⟩
  · rw [best_bad hv, merge_0 (by
      rw [Bool.or_eq_true]
      by_cases h : validD T.length a = true
      · right
        have : ¬ validD T.length b = true := fun h' => hv ⟨h, h'⟩
        simpa using this
      · left
        simpa using h)]

end Go.Proofs.YtnkhkppddlpcmaaDoor
