/-
  What is come to from an address: plain; the map of firsts as a function.
-/
import Derived.Test.YtdpfinnclnapbaaDoorSc4
namespace Go.Proofs.YtdpfinnclnapbaaDoor
open Go.RowKit Go.Maps
set_option maxRecDepth 20000

/-- Where the first instruction at an address stands. -/
def pI (l : List Ix) (a : Int) : Option Nat := l.findIdx? (fun y => decide (y.p = a))
theorem pI_some {l : List Ix} {a : Int} {i : Nat} (h : pI l a = some i) : ∃ x, l[i]? = some x ∧ x.p = a := by
  obtain ⟨hi, hp, _⟩ := List.findIdx?_eq_some_iff_getElem.1 h
  exact ⟨l[i], List.getElem?_eq_getElem hi, by simpa using hp⟩
theorem pI_has (l : List Ix) (a : Int) : hasP l a = (pI l a).isSome := by
  unfold hasP pI
  rw [List.findIdx?_isSome]
theorem at_fold (a : Int) (z : DataW Unit) : ∀ (l : List Ix) (k i : Nat), pI l a = some i →
    ((l.zipIdx k).foldr (fun y m => DataW.put m (.int .i64 y.1.p) (.lit (.int .i64 (y.2 : Int)))) (.map [] : DataW Unit)).atKey (.int .i64 a) z = .lit (.int .i64 ((k + i : Nat) : Int)) := by
  intro l
  induction l with
  | nil => intro k i h; simp [pI] at h
  | cons x t ih =>
    intro k i h
    rw [List.zipIdx_cons, List.foldr_cons]
    have hm : IsMap ((t.zipIdx (k + 1)).foldr (fun y m => DataW.put m (.int .i64 y.1.p) (.lit (.int .i64 (y.2 : Int)))) (.map [] : DataW Unit)) := by
      generalize t.zipIdx (k + 1) = r
      induction r with
      | nil => exact isMap_empty
      | cons y r ihr => rw [List.foldr_cons]; exact IsMap.put ihr _ _
    by_cases hx : x.p = a
    · have h0 : i = 0 := by
        unfold pI at h
        rw [List.findIdx?_cons] at h
        simp [hx] at h
        exact h.symm
      subst h0
      rw [← hx, atKey_put_same hm (show WideAt.IsKeyLit (Lit.int .i64 x.p) from trivial)]
      rfl
    · unfold pI at h
      rw [List.findIdx?_cons] at h
      simp only [hx, decide_false, Bool.false_eq_true, if_false] at h
      obtain ⟨j, hj, rfl⟩ := Option.map_eq_some_iff.1 h
      rw [atKey_put_other (fun e => by injection e with _ e; exact hx e.symm), ih (k + 1) j hj]
      congr 3
      omega
theorem at_fMap {l : List Ix} {a : Int} {i : Nat} (h : pI l a = some i) (z : DataW Unit) : (fMap (bks l)).atKey (.int .i64 a) z = .lit (.int .i64 (i : Int)) := by
  have := at_fold a z l 0 i h
  rw [Nat.zero_add] at this
  unfold fMap bks
  rw [List.foldl_reverse]
  exact this

/-- What is come to. -/
inductive Rch (l : List Ix) (s : Int) : Int → Prop
  | here (h : hasP l s = true) : Rch l s s
  | next {a b : Int} {i : Nat} {x : Ix} (ha : Rch l s a) (hi : pI l a = some i) (hx : l[i]? = some x) (hb : b ∈ nextD x.p x.op x.a) (h : hasP l b = true) : Rch l s b
/-- A search under way: what was come to, what lies ahead. -/
structure Srch (l : List Ix) (s : Int) (cm ah : List Int) : Prop where
  in1 : ∀ a ∈ cm, Rch l s a
  in2 : ∀ a ∈ ah, hasP l a = true → Rch l s a
  all : ∀ a ∈ cm, ∀ i x, pI l a = some i → l[i]? = some x → ∀ b ∈ nextD x.p x.op x.a, hasP l b = true → b ∈ cm ∨ b ∈ ah
  st : hasP l s = true → s ∈ cm ∨ s ∈ ah
theorem Srch.start (l : List Ix) (s : Int) : Srch l s [] [s] := ⟨fun a h => (by cases h), fun a h hp => (by rw [List.mem_singleton.1 h] at hp ⊢; exact .here hp), fun a h => (by cases h), fun _ => .inr (List.mem_singleton.2 rfl)⟩
theorem Srch.skip {l : List Ix} {s : Int} {cm ah : List Int} {a : Int} (h : Srch l s cm (ah ++ [a])) (ha : a ∈ cm ∨ hasP l a = false) : Srch l s cm ah := by
  have key : ∀ b, hasP l b = true → b ∈ cm ∨ b ∈ ah ++ [a] → b ∈ cm ∨ b ∈ ah := by
    intro b hb hm
    rcases hm with hm | hm
    · exact .inl hm
    · rcases List.mem_append.1 hm with hm | hm
      · exact .inr hm
      · rw [List.mem_singleton.1 hm] at hb ⊢
        rcases ha with ha | ha
        · exact .inl ha
        · rw [ha] at hb; cases hb
  exact ⟨h.in1, fun b hb => h.in2 b (List.mem_append_left _ hb), fun b hb i x hi hx y hy hp => key y hp (h.all b hb i x hi hx y hy hp), fun hp => key s hp (h.st hp)⟩
theorem Srch.come {l : List Ix} {s : Int} {cm ah : List Int} {a : Int} {i : Nat} {x : Ix} (h : Srch l s cm (ah ++ [a])) (hi : pI l a = some i) (hx : l[i]? = some x) : Srch l s (cm ++ [a]) (ah ++ nextD x.p x.op x.a) := by
  have hp : hasP l a = true := by rw [pI_has, hi]; rfl
  have hr := h.in2 a (by simp) hp
  refine ⟨?_, ?_, ?_, ?_⟩
  · intro b hb
    rcases List.mem_append.1 hb with hb | hb
    · exact h.in1 b hb
    · rw [List.mem_singleton.1 hb]; exact hr
  · intro b hb hbp
    rcases List.mem_append.1 hb with hb | hb
    · exact h.in2 b (List.mem_append_left _ hb) hbp
    · exact .next hr hi hx hb hbp
  · intro b hb j y hj hy e he hep
    rcases List.mem_append.1 hb with hb | hb
    · rcases h.all b hb j y hj hy e he hep with h1 | h1
      · exact .inl (List.mem_append_left _ h1)
      · rcases List.mem_append.1 h1 with h1 | h1
        · exact .inr (List.mem_append_left _ h1)
        · exact .inl (List.mem_append_right _ h1)
    · rw [List.mem_singleton.1 hb] at hj
      rw [hi] at hj
      injection hj with hj
      subst hj
      rw [hx] at hy
      injection hy with hy
      subst hy
      exact .inr (List.mem_append_right _ he)
  · intro hs
    rcases h.st hs with h1 | h1
    · exact .inl (List.mem_append_left _ h1)
    · rcases List.mem_append.1 h1 with h1 | h1
      · exact .inr (List.mem_append_left _ h1)
      · exact .inl (List.mem_append_right _ h1)
theorem Srch.done {l : List Ix} {s : Int} {cm : List Int} (h : Srch l s cm []) (a : Int) : a ∈ cm ↔ Rch l s a := by
  refine ⟨h.in1 a, fun hr => ?_⟩
  induction hr with
  | here hs => rcases h.st hs with h1 | h1 <;> first | exact h1 | cases h1
  | next _ hi hx hb hp ih => rcases h.all _ ih _ _ hi hx _ hb hp with h1 | h1 <;> first | exact h1 | cases h1
end Go.Proofs.YtdpfinnclnapbaaDoor
