/-
  The least type above two, plainly: it is above both and below whatever is above both. No Go in it.
-/
import Derived.Test.YtbiofkgdbdjdnaaDoorSub
namespace Go.Proofs.YtbiofkgdbdjdnaaDoor
set_option maxRecDepth 20000

def mergeD (T : List Cl) (a b : Nat) : Nat :=
  if (!validD T.length a || !validD T.length b) = true then 0
  else if subD T a b = true then b
  else if subD T b a = true then a
  else if (!isRefD a || !isRefD b) = true then 0
  else match (lineB T T.length ((a : Int) - 16)).find? (fun c => subD T b (16 + c)) with
    | some c => 16 + c
    | none => 5

theorem lineB_sorted (T : List Cl) : ∀ (n bel : Nat) (c : Int), bel ≤ n → (lineB T bel c).Pairwise (· > ·)
  | 0, bel, c, hn => by rw [lineB_out (by omega)]; exact List.Pairwise.nil
  | n + 1, bel, c, hn => by
    by_cases hc : 0 ≤ c ∧ c < (bel : Int)
    · obtain ⟨k, rfl⟩ : ∃ k : Nat, c = (k : Int) := ⟨c.toNat, by omega⟩
      rw [lineB_in (by omega), List.pairwise_cons]
      exact ⟨fun x hx => lineB_lt T _ _ _ (Nat.le_refl _) x hx, lineB_sorted T n k _ (by omega)⟩
    · rw [lineB_out hc]; exact List.Pairwise.nil

/-- Of two that stand in one line the lower one has the higher one in its line. -/
theorem line_chain {T : List Cl} {c : Int} {x y : Nat} (hx : x ∈ lineB T T.length c) (hy : y ∈ lineB T T.length c) (hle : y ≤ x) : y ∈ lineB T T.length (x : Int) := by
  have h1 := lineB_tail T _ _ _ (Nat.le_refl _) x hx
  have h2 := lineB_tail T _ _ _ (Nat.le_refl _) y hy
  have lx : x < T.length := lineB_lt T _ _ _ (Nat.le_refl _) x hx
  have ly : y < T.length := lineB_lt T _ _ _ (Nat.le_refl _) y hy
  rw [lineB_in lx]
  rcases List.suffix_or_suffix_of_suffix h1 h2 with h | h
  · have : x ∈ y :: lineB T y (parD T y) := h.subset (by simp)
    rw [← lineB_in ly] at this
    have := line_le this
    have : x = y := by omega
    subst this
    simp
  · exact h.subset (by simp)

theorem Le.top {T : List Cl} {a : Nat} (h : a ≤ 5 ∨ (16 ≤ a ∧ a - 16 < T.length)) : Le T a 0 := ⟨h, .inl (by omega), .inr (.inl rfl)⟩
theorem Le.any {T : List Cl} {a : Nat} (h : a ≤ 5 ∨ (16 ≤ a ∧ a - 16 < T.length)) (hr : a = 3 ∨ a = 4 ∨ a = 5 ∨ 16 ≤ a) : Le T a 5 := ⟨h, .inl (by omega), .inr (.inr (.inr (.inl ⟨rfl, hr⟩)))⟩

/-- Above both, and below whatever is above both. -/
structure IsLub (T : List Cl) (a b m : Nat) : Prop where
  left : Le T a m
  right : Le T b m
  least : ∀ c, Le T a c → Le T b c → Le T m c

theorem mergeD_lub {T : List Cl} {a b : Nat} (ha : validD T.length a = true) (hb : validD T.length b = true) : IsLub T a b (mergeD T a b) := by
  have va := validD_iff.1 ha
  have vb := validD_iff.1 hb
  unfold mergeD
  rw [if_neg (by rw [ha, hb]; simp)]
  by_cases h1 : subD T a b = true
  · rw [if_pos h1]
    exact ⟨subD_iff.1 h1, Le.refl hb, fun c _ h => h⟩
  · rw [if_neg h1]
    by_cases h2 : subD T b a = true
    · rw [if_pos h2]
      exact ⟨Le.refl ha, subD_iff.1 h2, fun c h _ => h⟩
    · rw [if_neg h2]
      have n1 : ¬ Le T a b := fun h => h1 (subD_iff.2 h)
      have n2 : ¬ Le T b a := fun h => h2 (subD_iff.2 h)
      by_cases h3 : (!isRefD a || !isRefD b) = true
      · rw [if_pos h3]
        refine ⟨Le.top va, Le.top vb, fun c hac hbc => ?_⟩
        have hr : ¬ (a = 3 ∨ a = 4 ∨ a = 5 ∨ 16 ≤ a) ∨ ¬ (b = 3 ∨ b = 4 ∨ b = 5 ∨ 16 ≤ b) := by
          rw [Bool.or_eq_true] at h3
          rcases h3 with h | h
          · exact .inl (fun h' => by rw [isRefD_iff.2 h'] at h; simp at h)
          · exact .inr (fun h' => by rw [isRefD_iff.2 h'] at h; simp at h)
        rcases hr with hr | hr
        · obtain ⟨_, _, h⟩ := hac
          rcases h with e | e | ⟨e, _⟩ | ⟨_, e⟩ | ⟨e, _⟩
          · exact absurd (e ▸ hbc) n2
          · subst e; exact Le.top (.inl (by omega))
          · omega
          · omega
          · omega
        · obtain ⟨_, _, h⟩ := hbc
          rcases h with e | e | ⟨e, _⟩ | ⟨_, e⟩ | ⟨e, _⟩
          · exact absurd (e ▸ hac) n1
          · subst e; exact Le.top (.inl (by omega))
          · omega
          · omega
          · omega
      · rw [if_neg h3]
        have ra : a = 3 ∨ a = 4 ∨ a = 5 ∨ 16 ≤ a := isRefD_iff.1 (by simp at h3; exact h3.1)
        have rb : b = 3 ∨ b = 4 ∨ b = 5 ∨ 16 ≤ b := isRefD_iff.1 (by simp at h3; exact h3.2)
        have a3 : a ≠ 3 := fun e => n1 ⟨va, vb, .inr (.inr (.inl ⟨e, rb⟩))⟩
        have b3 : b ≠ 3 := fun e => n2 ⟨vb, va, .inr (.inr (.inl ⟨e, ra⟩))⟩
        have a5 : a ≠ 5 := fun e => n2 ⟨vb, va, .inr (.inr (.inr (.inl ⟨e, rb⟩)))⟩
        have b5 : b ≠ 5 := fun e => n1 ⟨va, vb, .inr (.inr (.inr (.inl ⟨e, ra⟩)))⟩
        have up : ∀ c, Le T a c → Le T b c → c = 0 ∨ c = 5 ∨ (16 ≤ a ∧ 16 ≤ c ∧ (c - 16) ∈ lineB T T.length ((a : Int) - 16)) := by
          intro c hac hbc
          obtain ⟨_, _, h⟩ := hac
          rcases h with e | e | ⟨e, _⟩ | ⟨e, _⟩ | ⟨e1, e2, e3⟩
          · exact absurd (e ▸ hbc) n2
          · exact .inl e
          · exact absurd e a3
          · exact .inr (.inl e)
          · rw [show ((a - 16 : Nat) : Int) = (a : Int) - 16 from by omega] at e3
            exact .inr (.inr ⟨e1, e2, e3⟩)
        cases hf : (lineB T T.length ((a : Int) - 16)).find? (fun c => subD T b (16 + c)) with
        | some x =>
          simp only
          have hx : x ∈ lineB T T.length ((a : Int) - 16) := List.mem_of_find?_eq_some hf
          have hbx : Le T b (16 + x) := subD_iff.1 (by have := List.find?_some hf; simpa using this)
          have a16 : 16 ≤ a := by
            by_cases h : 16 ≤ a
            · exact h
            · rw [lineB_out (by omega)] at hx; simp at hx
          have lx : x < T.length := lineB_lt T _ _ _ (Nat.le_refl _) x hx
          refine ⟨⟨va, .inr ⟨by omega, by omega⟩, .inr (.inr (.inr (.inr ⟨a16, by omega, ?_⟩)))⟩, hbx, fun c hac hbc => ?_⟩
          · rw [show 16 + x - 16 = x from by omega, show ((a - 16 : Nat) : Int) = (a : Int) - 16 from by omega]
            exact hx
          · have vc := hac.2.1
            rcases up c hac hbc with e | e | ⟨_, e2, e3⟩
            · subst e; exact Le.top (.inr ⟨by omega, by omega⟩)
            · subst e; exact Le.any (.inr ⟨by omega, by omega⟩) (by omega)
            · obtain ⟨_, fs, bs, hl, hn⟩ := List.find?_eq_some_iff_append.1 hf
              have hle : c - 16 ≤ x := by
                rw [hl] at e3
                have hs := lineB_sorted T _ _ ((a : Int) - 16) (Nat.le_refl T.length)
                rw [hl, List.pairwise_append, List.pairwise_cons] at hs
                rcases List.mem_append.1 e3 with h | h
                · have := hn _ h
                  rw [show 16 + (c - 16) = c from by omega, subD_iff.2 hbc] at this
                  simp at this
                · rcases List.mem_cons.1 h with h | h
                  · omega
                  · have := hs.2.1.1 _ h
                    omega
              refine ⟨.inr ⟨by omega, by omega⟩, vc, .inr (.inr (.inr (.inr ⟨by omega, e2, ?_⟩)))⟩
              rw [show 16 + x - 16 = x from by omega]
              exact line_chain hx e3 hle
        | none =>
          simp only
          refine ⟨Le.any va ra, Le.any vb rb, fun c hac hbc => ?_⟩
          rcases up c hac hbc with e | e | ⟨_, e2, e3⟩
          · subst e; exact Le.top (.inl (by omega))
          · subst e; exact Le.any (.inl (by omega)) (by omega)
          · have := List.find?_eq_none.1 hf _ e3
            rw [show 16 + (c - 16) = c from by omega, subD_iff.2 hbc] at this
            simp at this

theorem IsLub.uniq {T : List Cl} {a b m m' : Nat} (h : IsLub T a b m) (h' : IsLub T a b m') : m = m' := (h.least _ h'.left h'.right).antisymm (h'.least _ h.left h.right)
theorem IsLub.symm {T : List Cl} {a b m : Nat} (h : IsLub T a b m) : IsLub T b a m := ⟨h.right, h.left, fun c h1 h2 => h.least c h2 h1⟩
theorem merge_comm {T : List Cl} {a b : Nat} (ha : validD T.length a = true) (hb : validD T.length b = true) : mergeD T a b = mergeD T b a := (mergeD_lub ha hb).uniq (mergeD_lub hb ha).symm
theorem merge_idem {T : List Cl} {a : Nat} (ha : validD T.length a = true) : mergeD T a a = a := (mergeD_lub ha ha).uniq ⟨Le.refl ha, Le.refl ha, fun _ h _ => h⟩
theorem merge_valid {T : List Cl} {a b : Nat} (ha : validD T.length a = true) (hb : validD T.length b = true) : validD T.length (mergeD T a b) = true := validD_iff.2 (mergeD_lub ha hb).left.2.1
theorem merge_sub {T : List Cl} {a b : Nat} (ha : validD T.length a = true) (hb : validD T.length b = true) : subD T a b = decide (mergeD T a b = b) := by
  have h := mergeD_lub ha hb
  by_cases e : mergeD T a b = b
  · rw [decide_eq_true e]
    exact subD_iff.2 (e ▸ h.left)
  · rw [decide_eq_false e]
    cases hs : subD T a b with
    | false => rfl
    | true => exact absurd (h.uniq ⟨subD_iff.1 hs, Le.refl hb, fun _ _ h => h⟩) e
theorem merge_assoc {T : List Cl} {a b c : Nat} (ha : validD T.length a = true) (hb : validD T.length b = true) (hc : validD T.length c = true) : mergeD T a (mergeD T b c) = mergeD T (mergeD T a b) c := by
  have h1 := mergeD_lub hb hc
  have h2 := mergeD_lub ha (merge_valid hb hc)
  have h3 := mergeD_lub ha hb
  have h4 := mergeD_lub (merge_valid ha hb) hc
  refine Le.antisymm (h2.least _ (h3.left.trans h4.left) (h1.least _ (h3.right.trans h4.left) h4.right)) (h4.least _ (h3.least _ h2.left (h1.left.trans h2.right)) (h1.right.trans h2.right))
theorem merge_lt {T : List Cl} {a b : Nat} (ha : a < 256) (hb : b < 256) : mergeD T a b < 256 := by
  unfold mergeD
  split
  · omega
  · split
    · exact hb
    · split
      · exact ha
      · split
        · omega
        · cases hf : (lineB T T.length ((a : Int) - 16)).find? (fun c => subD T b (16 + c)) with
          | none => simp
          | some x =>
            simp only
            have hx : x ∈ lineB T T.length ((a : Int) - 16) := List.mem_of_find?_eq_some hf
            by_cases h : 16 ≤ a
            · rw [show (a : Int) - 16 = ((a - 16 : Nat) : Int) from by omega] at hx
              have := line_le hx
              omega
            · rw [lineB_out (by omega)] at hx; simp at hx
end Go.Proofs.YtbiofkgdbdjdnaaDoor
