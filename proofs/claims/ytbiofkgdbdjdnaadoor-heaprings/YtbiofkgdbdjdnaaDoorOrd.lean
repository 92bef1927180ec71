/-
  The order of types, plainly: it is one. No Go in it.
-/
import Derived.Test.YtbiofkgdbdjdnaaDoorTy
namespace Go.Proofs.YtbiofkgdbdjdnaaDoor
set_option maxRecDepth 20000

def subD (T : List Cl) (a b : Nat) : Bool :=
  if (!validD T.length a || !validD T.length b) = true then false
  else if a = b ∨ b = 0 then true
  else if a = 3 then isRefD b
  else if b = 5 then isRefD a
  else inLineD T ((a : Int) - 16) ((b : Int) - 16)

/-- The same, said at once. -/
def Le (T : List Cl) (a b : Nat) : Prop :=
  (a ≤ 5 ∨ (16 ≤ a ∧ a - 16 < T.length)) ∧ (b ≤ 5 ∨ (16 ≤ b ∧ b - 16 < T.length)) ∧
  (a = b ∨ b = 0 ∨ (a = 3 ∧ (b = 3 ∨ b = 4 ∨ b = 5 ∨ 16 ≤ b)) ∨ (b = 5 ∧ (a = 3 ∨ a = 4 ∨ a = 5 ∨ 16 ≤ a)) ∨ (16 ≤ a ∧ 16 ≤ b ∧ (b - 16) ∈ lineB T T.length ((a - 16 : Nat) : Int)))

theorem lineB_lt (T : List Cl) : ∀ (n bel : Nat) (c : Int), bel ≤ n → ∀ x ∈ lineB T bel c, x < bel
  | 0, bel, c, hn, x, hx => by
    rw [lineB_out (by omega)] at hx
    simp at hx
  | n + 1, bel, c, hn, x, hx => by
    by_cases hc : 0 ≤ c ∧ c < (bel : Int)
    · obtain ⟨k, rfl⟩ : ∃ k : Nat, c = (k : Int) := ⟨c.toNat, by omega⟩
      rw [lineB_in (by omega), List.mem_cons] at hx
      rcases hx with rfl | hx
      · omega
      · have := lineB_lt T n k _ (by omega) x hx
        omega
    · rw [lineB_out hc] at hx
      simp at hx
/-- What stands in a line has its own line behind it. -/
theorem lineB_tail (T : List Cl) : ∀ (n bel : Nat) (c : Int), bel ≤ n → ∀ x ∈ lineB T bel c, (x :: lineB T x (parD T x)) <:+ lineB T bel c
  | 0, bel, c, hn, x, hx => by
    rw [lineB_out (by omega)] at hx
    simp at hx
  | n + 1, bel, c, hn, x, hx => by
    by_cases hc : 0 ≤ c ∧ c < (bel : Int)
    · obtain ⟨k, rfl⟩ : ∃ k : Nat, c = (k : Int) := ⟨c.toNat, by omega⟩
      rw [lineB_in (by omega)] at hx ⊢
      rw [List.mem_cons] at hx
      rcases hx with rfl | hx
      · exact List.suffix_refl _
      · exact (lineB_tail T n k _ (by omega) x hx).trans (List.suffix_cons _ _)
    · rw [lineB_out hc] at hx
      simp at hx
theorem line_refl {T : List Cl} {x : Nat} (h : x < T.length) : x ∈ lineB T T.length (x : Int) := by rw [lineB_in h]; simp
theorem line_le {T : List Cl} {x y : Nat} (h : y ∈ lineB T T.length (x : Int)) : y ≤ x := by
  by_cases hx : x < T.length
  · rw [lineB_in hx, List.mem_cons] at h
    rcases h with rfl | h
    · exact Nat.le_refl _
    · exact Nat.le_of_lt (lineB_lt T _ _ _ (Nat.le_refl _) y h)
  · rw [lineB_out (by omega)] at h
    simp at h
theorem line_trans {T : List Cl} {x y z : Nat} (h : y ∈ lineB T T.length (x : Int)) (k : z ∈ lineB T T.length (y : Int)) : z ∈ lineB T T.length (x : Int) := by
  have hy : y < T.length := lineB_lt T _ _ _ (Nat.le_refl _) y h
  rw [lineB_in hy] at k
  exact (lineB_tail T _ _ _ (Nat.le_refl _) y h).subset k

theorem inLineD_iff {T : List Cl} {a b : Nat} : inLineD T ((a : Int) - 16) ((b : Int) - 16) = true ↔ 16 ≤ a ∧ 16 ≤ b ∧ (b - 16) ∈ lineB T T.length ((a - 16 : Nat) : Int) := by
  unfold inLineD
  rw [List.any_eq_true]
  constructor
  · rintro ⟨x, hx, e⟩
    have e' : (x : Int) = (b : Int) - 16 := eq_of_beq e
    have ha : 16 ≤ a := by
      by_cases h : 16 ≤ a
      · exact h
      · rw [lineB_out (by omega)] at hx
        simp at hx
    refine ⟨ha, by omega, ?_⟩
    rw [show ((a - 16 : Nat) : Int) = (a : Int) - 16 from by omega, show b - 16 = x from by omega]
    exact hx
  · rintro ⟨ha, hb, hx⟩
    rw [show ((a - 16 : Nat) : Int) = (a : Int) - 16 from by omega] at hx
    exact ⟨b - 16, hx, beq_t (by omega)⟩

theorem validD_iff {n t : Nat} : validD n t = true ↔ (t ≤ 5 ∨ (16 ≤ t ∧ t - 16 < n)) := by unfold validD; exact decide_eq_true_iff
theorem isRefD_iff {t : Nat} : isRefD t = true ↔ (t = 3 ∨ t = 4 ∨ t = 5 ∨ 16 ≤ t) := by unfold isRefD; exact decide_eq_true_iff

theorem subD_iff {T : List Cl} {a b : Nat} : subD T a b = true ↔ Le T a b := by
  unfold subD
  by_cases h1 : validD T.length a = true
  · by_cases h2 : validD T.length b = true
    · rw [if_neg (by rw [h1, h2]; simp)]
      have v1 := validD_iff.1 h1
      have v2 := validD_iff.1 h2
      by_cases e1 : a = b ∨ b = 0
      · rw [if_pos e1]
        exact ⟨fun _ => ⟨v1, v2, by rcases e1 with e | e <;> simp [e]⟩, fun _ => rfl⟩
      · rw [if_neg e1]
        by_cases e2 : a = 3
        · rw [if_pos e2, isRefD_iff]
          refine ⟨fun h => ⟨v1, v2, .inr (.inr (.inl ⟨e2, h⟩))⟩, ?_⟩
          rintro ⟨_, _, h | h | ⟨_, h⟩ | ⟨h, _⟩ | ⟨h, _⟩⟩ <;> omega
        · rw [if_neg e2]
          by_cases e3 : b = 5
          · rw [if_pos e3, isRefD_iff]
            refine ⟨fun h => ⟨v1, v2, .inr (.inr (.inr (.inl ⟨e3, h⟩)))⟩, ?_⟩
            rintro ⟨_, _, h | h | ⟨h, _⟩ | ⟨_, h⟩ | ⟨_, h, _⟩⟩ <;> omega
          · rw [if_neg e3, inLineD_iff]
            refine ⟨fun h => ⟨v1, v2, .inr (.inr (.inr (.inr h)))⟩, ?_⟩
            rintro ⟨_, _, h | h | ⟨h, _⟩ | ⟨h, _⟩ | h⟩
            · exact absurd (.inl h) e1
            · exact absurd (.inr h) e1
            · exact absurd h e2
            · exact absurd h e3
            · exact h
    · rw [if_pos (by simp at h2; simp [h2])]
      refine ⟨fun h => (by cases h), fun h => absurd (validD_iff.2 h.2.1) h2⟩
  · rw [if_pos (by simp at h1; simp [h1])]
    refine ⟨fun h => (by cases h), fun h => absurd (validD_iff.2 h.1) h1⟩

theorem Le.refl {T : List Cl} {a : Nat} (h : validD T.length a = true) : Le T a a := ⟨validD_iff.1 h, validD_iff.1 h, .inl rfl⟩
theorem Le.antisymm {T : List Cl} {a b : Nat} (h : Le T a b) (k : Le T b a) : a = b := by
  obtain ⟨h1, h2, h3⟩ := h
  obtain ⟨_, _, k3⟩ := k
  rcases h3 with e | e | ⟨e, e'⟩ | ⟨e, e'⟩ | ⟨e1, e2, e3⟩
  · exact e
  · rcases k3 with f | f | ⟨f, f'⟩ | ⟨f, f'⟩ | ⟨f1, f2, f3⟩ <;> omega
  · rcases k3 with f | f | ⟨f, f'⟩ | ⟨f, f'⟩ | ⟨f1, f2, f3⟩ <;> omega
  · rcases k3 with f | f | ⟨f, f'⟩ | ⟨f, f'⟩ | ⟨f1, f2, f3⟩ <;> omega
  · rcases k3 with f | f | ⟨f, f'⟩ | ⟨f, f'⟩ | ⟨f1, f2, f3⟩
    · omega
    · omega
    · omega
    · omega
    · have := line_le e3
      have := line_le f3
      omega
theorem Le.trans {T : List Cl} {a b c : Nat} (h : Le T a b) (k : Le T b c) : Le T a c := by
  obtain ⟨h1, h2, h3⟩ := h
  obtain ⟨_, k2, k3⟩ := k
  refine ⟨h1, k2, ?_⟩
  rcases h3 with e | e | ⟨e, e'⟩ | ⟨e, e'⟩ | ⟨e1, e2, e3⟩
  · rw [e]; exact k3
  · rcases k3 with f | f | ⟨f, f'⟩ | ⟨f, f'⟩ | ⟨f1, f2, f3⟩ <;> omega
  · rcases k3 with f | f | ⟨f, f'⟩ | ⟨f, f'⟩ | ⟨f1, f2, f3⟩ <;> omega
  · rcases k3 with f | f | ⟨f, f'⟩ | ⟨f, f'⟩ | ⟨f1, f2, f3⟩ <;> omega
  · rcases k3 with f | f | ⟨f, f'⟩ | ⟨f, f'⟩ | ⟨f1, f2, f3⟩
    · rw [← f]; exact .inr (.inr (.inr (.inr ⟨e1, e2, e3⟩)))
    · omega
    · omega
    · omega
    · exact .inr (.inr (.inr (.inr ⟨e1, f2, line_trans e3 f3⟩)))
end Go.Proofs.YtbiofkgdbdjdnaaDoor
