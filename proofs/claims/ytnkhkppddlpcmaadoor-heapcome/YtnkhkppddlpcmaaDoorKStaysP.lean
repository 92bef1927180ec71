/-
  What holds of the fields of a table that may be: a parent's are the beginning of its children's, and no name stands twice. No Go in it.
-/
import Derived.Test.YtnkhkppddlpcmaaDoorKFieldsT
import Derived.Test.YtnkhkppddlpcmaaDoorKT02d
namespace Go.Proofs.YtnkhkppddlpcmaaDoor
open Go.RowKit
set_option maxRecDepth 20000

theorem lineB_bel {T : List Cl} {b b' : Nat} {c : Int} (h : c < (b : Int)) (h' : c < (b' : Int)) : lineB T b c = lineB T b' c := by
  by_cases h0 : 0 ≤ c
  · obtain ⟨k, rfl⟩ : ∃ k : Nat, c = (k : Int) := ⟨c.toNat, by omega⟩
    rw [lineB_in (by omega), lineB_in (by omega)]
  · rw [lineB_out (by omega), lineB_out (by omega)]

theorem made_par {T : List Cl} (h : madeD T = true) : ∀ k, k < T.length → parD T k < (k : Int) := prev_par (Nat.le_refl _) (madeD_all h)
theorem lineB_step {T : List Cl} (h : madeD T = true) {c : Nat} (hc : c < T.length) : lineB T T.length (c : Int) = c :: lineB T T.length (parD T c) := by
  rw [lineB_in hc]
  congr 1
  have := made_par h c hc
  exact lineB_bel this (by omega)
theorem line_same {T : List Cl} (h : madeD T = true) : ∀ (n : Nat) (c : Int), c < (T.length : Int) → c.toNat ≤ n → lineD T c = lineB T T.length c := by
  intro n
  induction n with
  | zero =>
    intro c hc hn
    by_cases h0 : 0 ≤ c
    · obtain ⟨k, rfl⟩ : ∃ k : Nat, c = (k : Int) := ⟨c.toNat, by omega⟩
      have := made_par h k (by omega)
      rw [lineD_step (made_par h) (by omega) (by omega), lineB_step h (by omega)]
      congr 1
      unfold lineD
      rw [lineR_out _ (by omega), lineB_out (by omega)]
    · unfold lineD
      rw [lineR_out _ (by omega), lineB_out (by omega)]
  | succ n ih =>
    intro c hc hn
    by_cases h0 : 0 ≤ c
    · obtain ⟨k, rfl⟩ : ∃ k : Nat, c = (k : Int) := ⟨c.toNat, by omega⟩
      have := made_par h k (by omega)
      rw [lineD_step (made_par h) (by omega) (by omega), lineB_step h (by omega), ih _ (by omega) (by omega)]
    · unfold lineD
      rw [lineR_out _ (by omega), lineB_out (by omega)]
theorem fields_same {T : List Cl} (h : madeD T = true) {c : Int} (hc : c < (T.length : Int)) : fieldsD T c = fieldsB T c := by
  unfold fieldsD fieldsB
  rw [line_same h _ c hc (Nat.le_refl _)]
theorem fieldsB_le {T : List Cl} (h : madeD T = true) {c : Int} (hc : c < (T.length : Int)) : (fieldsB T c).length ≤ 32 := by
  rw [← fields_same h hc]
  exact fieldsD_le (Nat.le_refl _) (madeD_all h) c hc
theorem fieldsB_step {T : List Cl} (h : madeD T = true) {c : Nat} (hc : c < T.length) : fieldsB T (c : Int) = fieldsB T (parD T c) ++ fsD T c := by
  unfold fieldsB
  rw [lineB_step h hc, List.reverse_cons, List.flatMap_append]
  simp

/-- No name stands twice. -/
def Names (l : List Fl) : Prop := ∀ (i j : Nat) f g, l[i]? = some f → l[j]? = some g → i < j → (f.nm.toList == g.nm.toList) = false
theorem Names.snoc {l : List Fl} {f : Fl} (h : Names l) (hf : hasD l f.nm = false) : Names (l ++ [f]) := by
  intro i j a b ha hb hij
  have hj := (List.getElem?_eq_some_iff.1 hb).1
  simp at hj
  rw [List.getElem?_append_left (by omega)] at ha
  by_cases e : j < l.length
  · rw [List.getElem?_append_left e] at hb
    exact h i j a b ha hb hij
  · rw [List.getElem?_append_right (by omega)] at hb
    have e2 : j - l.length = 0 := by omega
    rw [e2] at hb
    simp at hb
    subst hb
    unfold hasD at hf
    rw [List.any_eq_false] at hf
    simpa using hf a (List.mem_of_getElem? ha)
theorem hasD_append (l m : List Fl) (s : ByteArray) : hasD (l ++ m) s = (hasD l s || hasD m s) := by unfold hasD; rw [List.any_append]
theorem scan_names (n : Nat) (all : List Fl) : ∀ (rest pre : List Fl), scanD n all pre rest = 0 → Names (all ++ pre) → Names (all ++ pre ++ rest)
  | [], pre, _, h => by rw [List.append_nil]; exact h
  | f :: rest, pre, hs, h => by
    unfold scanD at hs
    by_cases e1 : nameB f.nm = false
    · rw [if_pos e1] at hs; omega
    · rw [if_neg e1] at hs
      by_cases e2 : (hasD all f.nm || hasD pre f.nm) = true
      · rw [if_pos e2] at hs; omega
      · rw [if_neg e2] at hs
        by_cases e3 : storedD n f.ty = false
        · rw [if_pos e3] at hs; omega
        · rw [if_neg e3] at hs
          have := scan_names n all rest (pre ++ [f]) hs (by rw [← List.append_assoc]; exact h.snoc (by rw [hasD_append]; simpa using e2))
          simpa using this
theorem names_nil : Names [] := fun i j f g h => by simp at h
theorem made_names {T : List Cl} (h : madeD T = true) : ∀ (n : Nat) (c : Int), c < (T.length : Int) → c.toNat ≤ n → Names (fieldsB T c) := by
  intro n
  have neg : ∀ c : Int, c < 0 → Names (fieldsB T c) := fun c hc => by
    unfold fieldsB
    rw [lineB_out (by omega)]
    exact names_nil
  have one : ∀ k : Nat, k < T.length → Names (fieldsB T (parD T k)) → Names (fieldsB T (k : Int)) := fun k hk hn => by
    have hx := List.getElem?_eq_getElem hk
    have hg := faultD_zero hx (madeD_all h k hk)
    rw [fieldsB_step h hk, fsD_at hx]
    have hs := hg.scan
    rw [fields_same h (by have := hg.hi; omega), ← parD_at hx] at hs
    have := scan_names _ _ _ _ hs (by rw [List.append_nil]; exact hn)
    rw [List.append_nil] at this
    exact this
  induction n with
  | zero =>
    intro c hc hn
    by_cases h0 : 0 ≤ c
    · obtain ⟨k, rfl⟩ : ∃ k : Nat, c = (k : Int) := ⟨c.toNat, by omega⟩
      have := made_par h k (by omega)
      exact one k (by omega) (neg _ (by omega))
    · exact neg c (by omega)
  | succ n ih =>
    intro c hc hn
    by_cases h0 : 0 ≤ c
    · obtain ⟨k, rfl⟩ : ∃ k : Nat, c = (k : Int) := ⟨c.toNat, by omega⟩
      have := made_par h k (by omega)
      exact one k (by omega) (ih _ (by omega) (by omega))
    · exact neg c (by omega)
theorem findD_at : ∀ (fs : List Fl) (i k : Nat) (x : Fl), fs[i]? = some x → (∀ j, j < i → ∀ g, fs[j]? = some g → (g.nm.toList == x.nm.toList) = false) → findD fs x.nm k = some (k + i, x.ty)
  | [], i, k, x, h, _ => by simp at h
  | f :: fs, 0, k, x, h, _ => by
    simp at h
    subst h
    unfold findD
    rw [if_pos (by simp)]
    rfl
  | f :: fs, i + 1, k, x, h, hn => by
    unfold findD
    have h0 := hn 0 (by omega) f rfl
    rw [if_neg (by rw [h0]; simp)]
    have := findD_at fs i (k + 1) x (by simpa using h) (fun j hj g hg => hn (j + 1) (by omega) g (by simpa using hg))
    rw [this]
    congr 2
    omega
theorem fields_prefix {T : List Cl} {p c : Nat} (h : p ∈ lineB T T.length (c : Int)) : ∃ rest, fieldsB T (c : Int) = fieldsB T (p : Int) ++ rest := by
  have hp : p < T.length := lineB_lt T _ _ _ (Nat.le_refl _) p h
  obtain ⟨pre, hpre⟩ := lineB_tail T _ _ _ (Nat.le_refl _) p h
  rw [← lineB_in hp] at hpre
  refine ⟨pre.reverse.flatMap (fsD T), ?_⟩
  unfold fieldsB
  rw [← hpre, List.reverse_append, List.flatMap_append]

end Go.Proofs.YtnkhkppddlpcmaaDoor
