/-
  Blocks gone through deep first: each is left once; what is come to is closed; without rings each is left behind those to which it leads. Plain.
-/
import Derived.Test.YtdpfinnclnapbaaOd1
namespace Go.Proofs.Ytdpfinnclnapbaa

structure LvP (S : Nat → List (Option Nat)) (B B' : List Bool) (s : List Nat) : Prop where
  len : B'.length = B.length
  nd : s.Nodup
  fr : ∀ x ∈ s, B[x]? = some false
  bt : ∀ x, B'[x]? = some true ↔ (B[x]? = some true ∨ x ∈ s)
  cl : ∀ x ∈ s, ∀ k, some k ∈ S x → k < B.length → B'[k]? = some true
theorem LvP.refl (S : Nat → List (Option Nat)) (B : List Bool) : LvP S B B [] := ⟨rfl, List.nodup_nil, (fun x hx => by cases hx), (fun x => by simp), (fun x hx => by cases hx)⟩
theorem LvP.trans {S : Nat → List (Option Nat)} {A B C : List Bool} {s t : List Nat} (h : LvP S A B s) (k : LvP S B C t) : LvP S A C (s ++ t) := by
  refine ⟨k.len.trans h.len, ?_, ?_, ?_, ?_⟩
  · refine List.nodup_append.2 ⟨h.nd, k.nd, fun a ha b hb e => ?_⟩
    subst e
    have h1 := k.fr a hb
    have h2 := (h.bt a).2 (.inr ha)
    rw [h1] at h2
    cases h2
  · intro x hx
    rcases List.mem_append.1 hx with hx | hx
    · exact h.fr x hx
    · have h1 := k.fr x hx
      have hl : x < A.length := by rw [← h.len]; exact (List.getElem?_eq_some_iff.1 h1).1
      rw [List.getElem?_eq_getElem hl]
      cases hb : A[x] with
      | false => rfl
      | true =>
        have := (h.bt x).2 (.inl (by rw [List.getElem?_eq_getElem hl, hb]))
        rw [h1] at this
        cases this
  · intro x
    rw [k.bt, h.bt, List.mem_append, or_assoc]
  · intro x hx q hq hl
    rcases List.mem_append.1 hx with hx | hx
    · exact (k.bt q).2 (.inl (h.cl x hx q hq hl))
    · exact k.cl x hx q hq (by rw [h.len]; exact hl)
theorem set_true {B : List Bool} {i x : Nat} (hi : i < B.length) : (B.set i true)[x]? = some true ↔ (x = i ∨ B[x]? = some true) := by
  rw [List.getElem?_set]
  by_cases e : i = x
  · subst e; simp [hi]
  · rw [if_neg e]
    constructor
    · exact fun h => .inr h
    · rintro (h | h)
      · exact absurd h.symm e
      · exact h
theorem lvL_P {S : Nat → List (Option Nat)} {f : Nat} (hr : ∀ i B, B[i]? = some false → fls B ≤ f → LvP S B (lvF S f i B).1 (lvF S f i B).2 ∧ (lvF S f i B).1[i]? = some true) : ∀ (t : List (Option Nat)) (B : List Bool), fls B ≤ f → LvP S B (lvL (lvF S f) t B).1 (lvL (lvF S f) t B).2 ∧ ∀ k, some k ∈ t → k < B.length → (lvL (lvF S f) t B).1[k]? = some true
  | [], B, _ => ⟨LvP.refl S B, fun k hk => by cases hk⟩
  | none :: t, B, h => by
    obtain ⟨h1, h2⟩ := lvL_P hr t B h
    exact ⟨h1, fun k hk => h2 k (by simpa using hk)⟩
  | some k :: t, B, h => by
    by_cases hk : B[k]? = some false
    · obtain ⟨h1, h1k⟩ := hr k B hk h
      obtain ⟨h2, h3⟩ := lvL_P hr t (lvF S f k B).1 (Nat.le_trans (lvF_len S f k B).2 h)
      have e : lvL (lvF S f) (some k :: t) B = ((lvL (lvF S f) t (lvF S f k B).1).1, (lvF S f k B).2 ++ (lvL (lvF S f) t (lvF S f k B).1).2) := by rw [lvL, if_pos hk]
      rw [e]
      refine ⟨h1.trans h2, fun j hj hl => ?_⟩
      rcases List.mem_cons.1 hj with hj | hj
      · injection hj with hj
        subst hj
        exact (h2.bt j).2 (.inl h1k)
      · exact h3 j hj (by rw [h1.len]; exact hl)
    · have e : lvL (lvF S f) (some k :: t) B = lvL (lvF S f) t B := by rw [lvL, if_neg hk]
      rw [e]
      obtain ⟨h1, h2⟩ := lvL_P hr t B h
      refine ⟨h1, fun j hj hl => ?_⟩
      rcases List.mem_cons.1 hj with hj | hj
      · injection hj with hj
        subst hj
        refine (h1.bt j).2 (.inl ?_)
        rw [List.getElem?_eq_getElem hl] at hk ⊢
        cases hb : B[j] with
        | false => rw [hb] at hk; exact absurd rfl hk
        | true => rfl
      · exact h2 j hj hl
theorem lvF_P (S : Nat → List (Option Nat)) : ∀ (f i : Nat) (B : List Bool), B[i]? = some false → fls B ≤ f → LvP S B (lvF S f i B).1 (lvF S f i B).2 ∧ (lvF S f i B).1[i]? = some true
  | 0, i, B, hi, hf => by have := fls_set hi; omega
  | f + 1, i, B, hi, hf => by
    have hs := fls_set hi
    have hil := (List.getElem?_eq_some_iff.1 hi).1
    obtain ⟨h1, h2⟩ := lvL_P (lvF_P S f) (S i) (B.set i true) (by omega)
    have e : lvF S (f + 1) i B = ((lvL (lvF S f) (S i) (B.set i true)).1, (lvL (lvF S f) (S i) (B.set i true)).2 ++ [i]) := rfl
    rw [e]
    generalize lvL (lvF S f) (S i) (B.set i true) = r at h1 h2
    obtain ⟨B2, s⟩ := r
    simp only at h1 h2 ⊢
    have hb : ∀ x, B2[x]? = some true ↔ (B[x]? = some true ∨ x ∈ s ++ [i]) := fun x => by
      rw [h1.bt, set_true hil, List.mem_append, List.mem_singleton]
      constructor
      · rintro ((h | h) | h)
        · exact .inr (.inr h)
        · exact .inl h
        · exact .inr (.inl h)
      · rintro (h | h | h)
        · exact .inl (.inr h)
        · exact .inr h
        · exact .inl (.inl h)
    have his : i ∉ s := fun hm => by
      have h3 := h1.fr i hm
      have h4 := (set_true (B := B) (x := i) hil).2 (.inl rfl)
      rw [h3] at h4
      cases h4
    refine ⟨⟨by rw [h1.len, List.length_set], ?_, ?_, hb, ?_⟩, (hb i).2 (.inr (by simp))⟩
    · refine List.nodup_append.2 ⟨h1.nd, by simp, fun a ha b hb e => ?_⟩
      rw [List.mem_singleton.1 hb] at e
      subst e
      exact his ha
    · intro x hx
      rcases List.mem_append.1 hx with hx | hx
      · have h3 := h1.fr x hx
        rw [List.getElem?_set] at h3
        by_cases e : i = x
        · subst e; exact absurd hx his
        · rwa [if_neg e] at h3
      · rw [List.mem_singleton.1 hx]; exact hi
    · intro x hx k hk hl
      rcases List.mem_append.1 hx with hx | hx
      · exact h1.cl x hx k hk (by rw [List.length_set]; exact hl)
      · rw [List.mem_singleton.1 hx] at hk
        exact h2 k hk (by rw [List.length_set]; exact hl)

/-- A way from one to another, of any length. -/
inductive Str (S : Nat → List (Option Nat)) : Nat → Nat → Prop
  | refl (x : Nat) : Str S x x
  | step {x y z : Nat} (h : Str S x y) (e : some z ∈ S y) : Str S x z
theorem Str.trans {S : Nat → List (Option Nat)} {x y z : Nat} (h : Str S x y) (k : Str S y z) : Str S x z := by
  induction k with
  | refl => exact h
  | step _ e ih => exact ih.step e
/-- No way leads from one back to itself. -/
def Acy (S : Nat → List (Option Nat)) : Prop := ∀ x k, some k ∈ S x → ¬ Str S k x
/-- Each stands behind those to which it leads, or these stand in F. -/
def TopO (S : Nat → List (Option Nat)) (n : Nat) (F s : List Nat) : Prop := ∀ s1 x s2, s = s1 ++ x :: s2 → ∀ k, some k ∈ S x → k < n → k ∈ F ∨ k ∈ s1
theorem TopO.nil (S : Nat → List (Option Nat)) (n : Nat) (F : List Nat) : TopO S n F [] := fun s1 x s2 h => by simp at h
theorem split_app {s t s1 s2 : List Nat} {x : Nat} (h : s ++ t = s1 ++ x :: s2) : (∃ r, s = s1 ++ x :: r) ∨ (∃ r, s1 = s ++ r ∧ t = r ++ x :: s2) := by
  rcases List.append_eq_append_iff.1 h with ⟨r, h1, h2⟩ | ⟨r, h1, h2⟩
  · exact .inr ⟨r, h1, h2⟩
  · cases r with
    | nil =>
      rw [List.append_nil] at h1
      exact .inr ⟨[], by rw [List.append_nil]; exact h1.symm, by simpa using h2.symm⟩
    | cons y r =>
      simp only [List.cons_append, List.cons.injEq] at h2
      obtain ⟨h2, _⟩ := h2
      subst h2
      exact .inl ⟨r, h1⟩
theorem TopO.app {S : Nat → List (Option Nat)} {n : Nat} {F s t : List Nat} (h : TopO S n F s) (k : TopO S n (F ++ s) t) : TopO S n F (s ++ t) := by
  intro s1 x s2 e q hq hl
  rcases split_app e with ⟨r, e1⟩ | ⟨r, e1, e2⟩
  · exact h s1 x r e1 q hq hl
  · rcases k r x s2 e2 q hq hl with h1 | h1
    · rcases List.mem_append.1 h1 with h1 | h1
      · exact .inl h1
      · exact .inr (by rw [e1]; exact List.mem_append_left _ h1)
    · exact .inr (by rw [e1]; exact List.mem_append_right _ h1)
theorem lvL_T {S : Nat → List (Option Nat)} {f i : Nat} (hr : ∀ k B F, (∀ x, B[x]? = some true → Str S x k ∨ x ∈ F) → B[k]? = some false → fls B ≤ f → TopO S B.length F (lvF S f k B).2) : ∀ (t : List (Option Nat)) (B : List Bool) (F : List Nat), (∀ k, some k ∈ t → some k ∈ S i) → (∀ x, B[x]? = some true → Str S x i ∨ x ∈ F) → fls B ≤ f → TopO S B.length F (lvL (lvF S f) t B).2
  | [], B, F, _, _, _ => TopO.nil _ _ _
  | none :: t, B, F, ht, hK, h => lvL_T hr t B F (fun k hk => ht k (by simp [hk])) hK h
  | some k :: t, B, F, ht, hK, h => by
    by_cases hk : B[k]? = some false
    · have e : lvL (lvF S f) (some k :: t) B = ((lvL (lvF S f) t (lvF S f k B).1).1, (lvF S f k B).2 ++ (lvL (lvF S f) t (lvF S f k B).1).2) := by rw [lvL, if_pos hk]
      rw [e]
      have hp := (lvF_P S f k B hk h).1
      have h1 := hr k B F (fun x hx => by
        rcases hK x hx with h1 | h1
        · exact .inl (h1.step (ht k (by simp)))
        · exact .inr h1) hk h
      have h2 := lvL_T hr t (lvF S f k B).1 (F ++ (lvF S f k B).2) (fun k hk => ht k (by simp [hk])) (fun x hx => by
        rcases (hp.bt x).1 hx with h1 | h1
        · rcases hK x h1 with h1 | h1
          · exact .inl h1
          · exact .inr (List.mem_append_left _ h1)
        · exact .inr (List.mem_append_right _ h1)) (Nat.le_trans (lvF_len S f k B).2 h)
      rw [hp.len] at h2
      exact h1.app h2
    · have e : lvL (lvF S f) (some k :: t) B = lvL (lvF S f) t B := by rw [lvL, if_neg hk]
      rw [e]
      exact lvL_T hr t B F (fun k hk => ht k (by simp [hk])) hK h
theorem lvF_T {S : Nat → List (Option Nat)} (hA : Acy S) : ∀ (f i : Nat) (B : List Bool) (F : List Nat), (∀ x, B[x]? = some true → Str S x i ∨ x ∈ F) → B[i]? = some false → fls B ≤ f → TopO S B.length F (lvF S f i B).2
  | 0, i, B, F, _, hi, hf => by have := fls_set hi; omega
  | f + 1, i, B, F, hK, hi, hf => by
    have hs := fls_set hi
    have hil := (List.getElem?_eq_some_iff.1 hi).1
    have hK1 : ∀ x, (B.set i true)[x]? = some true → Str S x i ∨ x ∈ F := fun x hx => by
      rcases (set_true hil).1 hx with h | h
      · rw [h]; exact .inl (.refl _)
      · exact hK x h
    have h1 := lvL_T (i := i) (fun k B F => lvF_T hA f k B F) (S i) (B.set i true) F (fun k hk => hk) hK1 (by omega)
    obtain ⟨hp, hall⟩ := lvL_P (lvF_P S f) (S i) (B.set i true) (by omega)
    rw [List.length_set] at h1
    have e : (lvF S (f + 1) i B).2 = (lvL (lvF S f) (S i) (B.set i true)).2 ++ [i] := rfl
    rw [e]
    refine h1.app (fun s1 x s2 e2 k hk hl => ?_)
    have hx : s1 = [] ∧ x = i := by
      cases s1 with
      | nil => simp at e2; exact ⟨rfl, e2.1.symm⟩
      | cons y t => simp at e2
    obtain ⟨rfl, rfl⟩ := hx
    have hv := hall k hk (by rw [List.length_set]; exact hl)
    rcases (hp.bt k).1 hv with h2 | h2
    · rcases hK1 k h2 with h3 | h3
      · exact absurd h3 (hA x k hk)
      · exact .inl (List.mem_append_left _ h3)
    · exact .inl (List.mem_append_right _ h2)
end Go.Proofs.Ytdpfinnclnapbaa
