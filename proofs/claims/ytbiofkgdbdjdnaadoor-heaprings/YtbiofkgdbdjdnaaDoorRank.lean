/-
  Contracts of types.Rank and highestRef: what the plain functions say; nothing old is turned. Conditions: types are bytes; the table fits.
-/
import Derived.Test.YtbiofkgdbdjdnaaDoorMerge
namespace Go.Proofs.YtbiofkgdbdjdnaaDoor
open Go.RowKit Go.Shelf
set_option maxRecDepth 20000
attribute [local go_sem] Oper.semAt_some

theorem lineB_length (T : List Cl) : ∀ (n bel : Nat) (c : Int), bel ≤ n → (lineB T bel c).length ≤ bel
  | 0, bel, c, hn => by rw [lineB_out (by omega)]; simp
  | n + 1, bel, c, hn => by
    by_cases hc : 0 ≤ c ∧ c < (bel : Int)
    · obtain ⟨k, rfl⟩ : ∃ k : Nat, c = (k : Int) := ⟨c.toNat, by omega⟩
      rw [lineB_in (by omega), List.length_cons]
      have := lineB_length T n k (parD T k) (by omega)
      omega
    · rw [lineB_out hc]; simp

/-- The rank of what is neither null nor a row of numbers. -/
def rankP (T : List Cl) (t : Nat) : Nat := if (!validD T.length t || t == 0) = true then 0 else 1 + (lineB T T.length ((t : Int) - 16)).length

theorem rankP_5 (T : List Cl) : rankP T 5 = 1 := by
  unfold rankP
  rw [if_neg (by rw [validD_lo (by omega)]; simp), lineB_out (by omega)]
  rfl
theorem rankP_class {T : List Cl} {c : Nat} (h : c < T.length) : rankP T (16 + c) = 1 + (lineB T T.length (c : Int)).length := by
  unfold rankP
  rw [if_neg (by rw [validD_hi (by omega) (by omega)]; simp), show ((16 + c : Nat) : Int) - 16 = (c : Int) from by omega]

/-- The highest rank of the first classes, and of a row of numbers. -/
def highN (T : List Cl) : Nat → Nat
  | 0 => 2
  | k + 1 => max (highN T k) (1 + (lineB T T.length (k : Int)).length)
theorem highN_le {T : List Cl} {b : Nat} (hb : 2 ≤ b) : ∀ (k : Nat), (∀ (j : Nat), j < k → 1 + (lineB T T.length (j : Int)).length ≤ b) → highN T k ≤ b
  | 0, _ => hb
  | k + 1, h => by
    unfold highN
    have := highN_le hb k (fun j hj => h j (by omega))
    have := h k (by omega)
    omega
theorem highN_ge {T : List Cl} : ∀ {k j : Nat}, j < k → 1 + (lineB T T.length (j : Int)).length ≤ highN T k
  | k + 1, j, h => by
    unfold highN
    by_cases e : j = k
    · subst e; omega
    · have := highN_ge (T := T) (show j < k by omega); omega
theorem highN_two {T : List Cl} : ∀ (k : Nat), 2 ≤ highN T k
  | 0 => Nat.le_refl _
  | k + 1 => by unfold highN; have := highN_two (T := T) k; omega

theorem highN_fit {T : List Cl} (hz : T.length * 48 ≤ 140737488351232) (k : Nat) : highN T k ≤ 4000000000000 := highN_le (by omega) k (fun j _ => by have := lineB_length T _ T.length (j : Int) (Nat.le_refl _); omega)
def rankD (T : List Cl) (t : Nat) : Nat := if t = 3 then 1 + highN T (min T.length 32) else if t = 4 then 2 else rankP T t
/-! ### Ranks fall as the order rises -/
theorem line_pos {T : List Cl} {c : Nat} (h : c < T.length) : 1 ≤ (lineB T T.length (c : Int)).length := by rw [lineB_in h]; simp
theorem rank_class {T : List Cl} {t : Nat} (h : 16 ≤ t) (h2 : t - 16 < T.length) : rankD T t = 1 + (lineB T T.length ((t - 16 : Nat) : Int)).length := by
  unfold rankD
  rw [if_neg (by omega), if_neg (by omega)]
  have := rankP_class h2
  rw [show 16 + (t - 16) = t from by omega] at this
  exact this
theorem rank_small {T : List Cl} {t : Nat} (h : t = 1 ∨ t = 2 ∨ t = 5) : rankD T t = 1 := by
  unfold rankD rankP
  rw [if_neg (by omega), if_neg (by omega), if_neg (by rw [validD_lo (by omega)]; simp; omega), lineB_out (by omega)]
  rfl
theorem rank_0 {T : List Cl} : rankD T 0 = 0 := by
  unfold rankD rankP
  rw [if_neg (by omega), if_neg (by omega), if_pos (by simp)]
theorem rank_4 {T : List Cl} : rankD T 4 = 2 := by unfold rankD; rw [if_neg (by omega), if_pos rfl]
theorem rank_3 {T : List Cl} : rankD T 3 = 1 + highN T (min T.length 32) := by unfold rankD; rw [if_pos rfl]
theorem rank_bad {T : List Cl} {t : Nat} (h : ¬ (t ≤ 5 ∨ (16 ≤ t ∧ t - 16 < T.length))) : rankD T t = 0 := by
  unfold rankD rankP
  rw [if_neg (by omega), if_neg (by omega), if_pos]
  have : validD T.length t = false := by
    cases hv : validD T.length t with
    | false => rfl
    | true => exact absurd (validD_iff.1 hv) h
  rw [this]
  rfl
theorem rank_le {T : List Cl} (hT : T.length ≤ 32) (t : Nat) : rankD T t ≤ 34 := by
  by_cases hv : t ≤ 5 ∨ (16 ≤ t ∧ t - 16 < T.length)
  · rcases hv with hv | ⟨h1, h2⟩
    · rcases (show t = 0 ∨ t = 3 ∨ t = 4 ∨ (t = 1 ∨ t = 2 ∨ t = 5) by omega) with rfl | rfl | rfl | h
      · rw [rank_0]; omega
      · rw [rank_3]
        have := highN_le (T := T) (b := 33) (by omega) (min T.length 32) (fun j _ => by have := lineB_length T _ T.length (j : Int) (Nat.le_refl _); omega)
        omega
      · rw [rank_4]; omega
      · rw [rank_small h]; omega
    · rw [rank_class h1 h2]
      have := lineB_length T _ T.length ((t - 16 : Nat) : Int) (Nat.le_refl _)
      omega
  · rw [rank_bad hv]; omega
theorem rank_lt {T : List Cl} (hT : T.length ≤ 32) {a b : Nat} (h : Le T a b) (hne : a ≠ b) : rankD T b < rankD T a := by
  obtain ⟨va, vb, h⟩ := h
  have pos : ∀ t, (t ≤ 5 ∨ (16 ≤ t ∧ t - 16 < T.length)) → t ≠ 0 → 1 ≤ rankD T t := by
    intro t hv h0
    rcases hv with hv | ⟨h1, h2⟩
    · rcases (show t = 3 ∨ t = 4 ∨ (t = 1 ∨ t = 2 ∨ t = 5) by omega) with rfl | rfl | h
      · rw [rank_3]; omega
      · rw [rank_4]; omega
      · rw [rank_small h]; omega
    · rw [rank_class h1 h2]; omega
  rcases h with e | e | ⟨e, e'⟩ | ⟨e, e'⟩ | ⟨e1, e2, e3⟩
  · exact absurd e hne
  · subst e
    rw [rank_0]
    exact pos a va hne
  · subst e
    rw [rank_3]
    have := highN_two (T := T) (min T.length 32)
    rcases e' with e' | e' | e' | e'
    · omega
    · subst e'; rw [rank_4]; omega
    · subst e'; rw [rank_small (by omega)]; omega
    · rw [rank_class e' (by omega)]
      have := highN_ge (T := T) (k := min T.length 32) (j := b - 16) (by omega)
      omega
  · subst e
    rw [rank_small (t := 5) (by omega)]
    rcases e' with e' | e' | e' | e'
    · subst e'; rw [rank_3]; have := highN_two (T := T) (min T.length 32); omega
    · subst e'; rw [rank_4]; omega
    · omega
    · rw [rank_class e' (by omega)]
      have := line_pos (T := T) (c := a - 16) (by omega)
      omega
  · rw [rank_class e1 (by omega), rank_class e2 (by omega)]
    have hs := lineB_tail T _ _ _ (Nat.le_refl _) _ e3
    rw [lineB_in (show a - 16 < T.length by omega)] at hs e3 ⊢
    rw [lineB_in (show b - 16 < T.length by omega)]
    rcases List.suffix_cons_iff.1 hs with h | h
    · injection h with h1 _
      omega
    · have := h.length_le
      simp at this ⊢
      omega
end Go.Proofs.YtbiofkgdbdjdnaaDoor
