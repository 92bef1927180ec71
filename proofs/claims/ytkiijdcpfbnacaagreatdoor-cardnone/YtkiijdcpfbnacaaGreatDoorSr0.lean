/-
  Names and their order, lists by rising names: where a name stands in one, what comes of putting and of dropping. No Go in it.
-/
import Derived.Test.YtkiijdcpfbnacaaGreatDoorMem
import Derived.Lib.Bytealg
namespace Go.Proofs.YtkiijdcpfbnacaaGreatDoor
open Go.RowKit
set_option maxRecDepth 20000

/-! ### the order of bytes -/
theorem bl_cmp : ∀ x y : List UInt8, (Lib.compareBytes x y < 0 ↔ Op.bytesLess x y = true) ∧ (Lib.compareBytes x y = 0 ↔ x = y) ∧ -1 ≤ Lib.compareBytes x y ∧ Lib.compareBytes x y ≤ 1
  | [], [] => by simp [Lib.compareBytes, Op.bytesLess]
  | [], _ :: _ => by simp [Lib.compareBytes, Op.bytesLess]
  | _ :: _, [] => by simp [Lib.compareBytes, Op.bytesLess]
  | a :: x, b :: y => by
    obtain ⟨h1, h2, h3, h4⟩ := bl_cmp x y
    unfold Lib.compareBytes Op.bytesLess
    by_cases hab : a < b
    · have hne : a ≠ b := fun e => by subst e; exact absurd hab (UInt8.lt_irrefl _)
      simp [hab, hne]
    · by_cases hba : b < a
      · have hne : a ≠ b := fun e => by subst e; exact absurd hba (UInt8.lt_irrefl _)
        simp [hab, hba, hne]
      · have he : a = b := UInt8.le_antisymm (UInt8.not_lt.1 hba) (UInt8.not_lt.1 hab)
        subst he
        simp only [hab, if_false, decide_false, Bool.false_or, beq_self_eq_true, Bool.true_and, List.cons.injEq, true_and]
        exact ⟨h1, h2, h3, h4⟩
theorem bl_irrefl : ∀ x : List UInt8, Op.bytesLess x x = false
  | [] => by simp [Op.bytesLess]
  | a :: x => by unfold Op.bytesLess; rw [bl_irrefl x]; simp [UInt8.lt_irrefl]
theorem bl_trans : ∀ x y z : List UInt8, Op.bytesLess x y = true → Op.bytesLess y z = true → Op.bytesLess x z = true
  | x, y, [], _, h2 => by cases y <;> simp [Op.bytesLess] at h2
  | [], _, _ :: _, _, _ => by simp [Op.bytesLess]
  | a :: x, [], _ :: _, h1, _ => by simp [Op.bytesLess] at h1
  | a :: x, b :: y, c :: z, h1, h2 => by
    unfold Op.bytesLess at h1 h2 ⊢
    simp only [Bool.or_eq_true, Bool.and_eq_true, beq_iff_eq, decide_eq_true_eq] at h1 h2 ⊢
    rcases h1 with h1 | ⟨rfl, h1⟩
    · rcases h2 with h2 | ⟨rfl, _⟩
      · exact Or.inl (UInt8.lt_trans h1 h2)
      · exact Or.inl h1
    · rcases h2 with h2 | ⟨rfl, h2⟩
      · exact Or.inl h2
      · exact Or.inr ⟨rfl, bl_trans x y z h1 h2⟩
/-- A name ahead of another one. -/
def ltS (a b : ByteArray) : Bool := Op.bytesLess a.data.toList b.data.toList
def cmS (a b : ByteArray) : Int := Lib.compareBytes a.data.toList b.data.toList
theorem ba_ext {a b : ByteArray} (h : a.data.toList = b.data.toList) : a = b := by
  cases a; cases b; simp only [ByteArray.mk.injEq]; exact Array.toList_inj.1 h
theorem cm_lt {a b : ByteArray} : cmS a b < 0 ↔ ltS a b = true := (bl_cmp _ _).1
theorem cm_eq {a b : ByteArray} : cmS a b = 0 ↔ a = b := ⟨fun h => ba_ext ((bl_cmp _ _).2.1.1 h), fun h => by subst h; exact (bl_cmp _ _).2.1.2 rfl⟩
theorem cm_in (a b : ByteArray) : -1 ≤ cmS a b ∧ cmS a b ≤ 1 := (bl_cmp _ _).2.2
theorem lt_irr (a : ByteArray) : ltS a a = false := bl_irrefl _
theorem lt_tr {a b c : ByteArray} (h1 : ltS a b = true) (h2 : ltS b c = true) : ltS a c = true := bl_trans _ _ _ h1 h2
theorem cm_anti : ∀ x y : List UInt8, Lib.compareBytes y x = - Lib.compareBytes x y
  | [], [] => by simp [Lib.compareBytes]
  | [], _ :: _ => by simp [Lib.compareBytes]
  | _ :: _, [] => by simp [Lib.compareBytes]
  | a :: x, b :: y => by
    unfold Lib.compareBytes
    by_cases hab : a < b
    · have hba : ¬ b < a := fun h => absurd (UInt8.lt_trans hab h) (UInt8.lt_irrefl _)
      simp [hab, hba]
    · by_cases hba : b < a
      · simp [hab, hba]
      · simp only [hab, hba, if_false]; exact cm_anti x y
theorem lt_tot {a b : ByteArray} (h1 : ltS a b = false) (h2 : a ≠ b) : ltS b a = true := by
  have e := cm_anti a.data.toList b.data.toList
  have := cm_in a b
  have n0 : cmS a b ≠ 0 := fun h => h2 (cm_eq.1 h)
  have n1 : ¬ cmS a b < 0 := fun h => by rw [cm_lt.1 h] at h1; cases h1
  exact cm_lt.1 (show cmS b a < 0 by unfold cmS at n0 n1 ⊢; omega)

/-! ### where a name stands -/
/-- Names, rising. -/
def Asc (N : List ByteArray) : Prop := N.Pairwise (fun a b => ltS a b = true)
/-- How many stand ahead of a name. -/
def posN : List ByteArray → ByteArray → Nat
  | [], _ => 0
  | x :: r, s => if ltS x s = true then posN r s + 1 else 0
def hasN (N : List ByteArray) (s : ByteArray) : Bool := decide (N[posN N s]? = some s)
theorem pos_le : ∀ (N : List ByteArray) (s : ByteArray), posN N s ≤ N.length
  | [], _ => Nat.le_refl _
  | x :: r, s => by
    unfold posN
    have := pos_le r s
    split <;> simp <;> omega
theorem pos_lt : ∀ {N : List ByteArray} {s : ByteArray} {i : Nat} {x : ByteArray}, N[i]? = some x → i < posN N s → ltS x s = true
  | [], _, _, _, h, _ => by simp at h
  | y :: r, s, i, x, h, hi => by
    unfold posN at hi
    by_cases hy : ltS y s = true
    · rw [if_pos hy] at hi
      cases i with
      | zero => simp at h; subst h; exact hy
      | succ i => exact pos_lt (N := r) (by simpa using h) (by omega)
    · rw [if_neg hy] at hi; omega
theorem pos_at : ∀ {N : List ByteArray} {s : ByteArray} {x : ByteArray}, N[posN N s]? = some x → ltS x s = false
  | [], _, _, h => by simp at h
  | y :: r, s, x, h => by
    unfold posN at h
    by_cases hy : ltS y s = true
    · rw [if_pos hy] at h
      exact pos_at (N := r) (by simpa using h)
    · rw [if_neg hy] at h
      simp at h
      subst h
      simpa using hy
/-- The place that a search comes to is the one. -/
theorem pos_uniq {N : List ByteArray} {s : ByteArray} {k : Nat} (hk : k ≤ N.length) (h1 : ∀ i x, i < k → N[i]? = some x → ltS x s = true) (h2 : ∀ x, N[k]? = some x → ltS x s = false) : posN N s = k := by
  rcases Nat.lt_trichotomy (posN N s) k with h | h | h
  · have hp : posN N s < N.length := by omega
    have e := List.getElem?_eq_getElem hp
    have a := pos_at e
    rw [h1 _ _ h e] at a
    cases a
  · exact h
  · have hp : k < N.length := by have := pos_le N s; omega
    have e := List.getElem?_eq_getElem hp
    have a := pos_lt e h
    rw [h2 _ e] at a
    cases a
theorem asc_ge {N : List ByteArray} (h : Asc N) {s : ByteArray} {k i : Nat} {x y : ByteArray} (hk : N[k]? = some y) (hy : ltS y s = false) (hi : N[i]? = some x) (hki : k ≤ i) : ltS x s = false := by
  obtain ⟨a1, a2⟩ := List.getElem?_eq_some_iff.1 hk
  obtain ⟨b1, b2⟩ := List.getElem?_eq_some_iff.1 hi
  rcases Nat.lt_or_eq_of_le hki with hlt | rfl
  · have := List.pairwise_iff_getElem.1 h k i a1 b1 hlt
    rw [a2, b2] at this
    cases hx : ltS x s
    · rfl
    · rw [lt_tr this hx] at hy; cases hy
  · rw [hk] at hi; injection hi with hi; subst hi; exact hy
theorem has_mem {N : List ByteArray} (h : Asc N) {s : ByteArray} : hasN N s = true ↔ s ∈ N := by
  unfold hasN
  rw [decide_eq_true_eq]
  refine ⟨fun e => List.mem_of_getElem? e, fun hm => ?_⟩
  obtain ⟨i, hi, e⟩ := List.mem_iff_getElem.1 hm
  have ei := List.getElem?_eq_getElem hi
  rw [e] at ei
  have : posN N s = i := pos_uniq (by omega) (fun j x hj hx => by
      obtain ⟨b1, b2⟩ := List.getElem?_eq_some_iff.1 hx
      have := List.pairwise_iff_getElem.1 h j i b1 hi hj
      rw [b2, e] at this
      exact this) (fun x hx => by rw [ei] at hx; injection hx with hx; subst hx; exact lt_irr _)
  rw [this]
  exact ei
/-- What comes of putting one at a place, in the place of the one there or ahead of it; of dropping the one there. -/
def putN {α : Type} (k : Nat) (b : Bool) (L : List α) (x : α) : List α := L.take k ++ x :: L.drop (k + if b then 1 else 0)
def cutN {α : Type} (k : Nat) (b : Bool) (L : List α) : List α := L.take k ++ L.drop (k + if b then 1 else 0)
theorem putN_map {α β : Type} (f : α → β) (k : Nat) (b : Bool) (L : List α) (x : α) : (putN k b L x).map f = putN k b (L.map f) (f x) := by unfold putN; simp [List.map_take, List.map_drop]
theorem cutN_map {α β : Type} (f : α → β) (k : Nat) (b : Bool) (L : List α) : (cutN k b L).map f = cutN k b (L.map f) := by unfold cutN; simp [List.map_take, List.map_drop]
theorem putN_set {α : Type} {k : Nat} {L : List α} (x : α) (h : k < L.length) : putN k true L x = L.set k x := by
  unfold putN
  rw [List.set_eq_take_append_cons_drop, if_pos h]
  rfl
theorem putN_mem {α : Type} {k : Nat} {b : Bool} {L : List α} {x y : α} (h : y ∈ putN k b L x) : y = x ∨ y ∈ L := by
  unfold putN at h
  rcases List.mem_append.1 h with h | h
  · exact Or.inr (List.mem_of_mem_take h)
  · rcases List.mem_cons.1 h with h | h
    · exact Or.inl h
    · exact Or.inr (List.mem_of_mem_drop h)
theorem cutN_mem {α : Type} {k : Nat} {b : Bool} {L : List α} {y : α} (h : y ∈ cutN k b L) : y ∈ L := by
  unfold cutN at h
  rcases List.mem_append.1 h with h | h
  · exact List.mem_of_mem_take h
  · exact List.mem_of_mem_drop h
theorem putN_len {α : Type} {k : Nat} {b : Bool} {L : List α} (x : α) (hk : k ≤ L.length) (hb : b = true → k < L.length) : (putN k b L x).length = L.length + (if b then 0 else 1) := by
  unfold putN
  rw [List.length_append, List.length_take, List.length_cons, List.length_drop]
  cases b
  · simp; omega
  · have := hb rfl
    simp; omega
theorem cutN_len {α : Type} {k : Nat} {L : List α} (hk : k < L.length) : (cutN k true L).length + 1 = L.length := by
  unfold cutN
  rw [List.length_append, List.length_take, List.length_drop]
  simp; omega
theorem has_lt {N : List ByteArray} {s : ByteArray} (h : hasN N s = true) : posN N s < N.length := by
  unfold hasN at h
  rw [decide_eq_true_eq] at h
  exact (List.getElem?_eq_some_iff.1 h).1
theorem has_at {N : List ByteArray} {s : ByteArray} (h : hasN N s = true) : N[posN N s]? = some s := by
  unfold hasN at h
  rw [decide_eq_true_eq] at h
  exact h
theorem asc_cut {N : List ByteArray} (h : Asc N) (k : Nat) (b : Bool) : Asc (cutN k b N) := by
  unfold cutN
  refine List.Pairwise.sublist ?_ h
  have h1 : (N.take k ++ N.drop (k + if b then 1 else 0)).Sublist (N.take k ++ N.drop k) := List.Sublist.append (List.Sublist.refl _) (by
    rw [← List.drop_drop]
    exact List.drop_sublist _ _)
  rw [List.take_append_drop] at h1
  exact h1
theorem asc_put {N : List ByteArray} (h : Asc N) (s : ByteArray) : Asc (putN (posN N s) (hasN N s) N s) := by
  have hd : ∀ i x, posN N s + (if hasN N s then 1 else 0) ≤ i → N[i]? = some x → ltS s x = true := by
    intro i x hi hx
    have hl := (List.getElem?_eq_some_iff.1 hx).1
    have hp : posN N s < N.length := by omega
    have e := List.getElem?_eq_getElem hp
    generalize N[posN N s] = y at e
    have hy := pos_at e
    have hxs := asc_ge h e hy hx (by omega)
    refine lt_tot hxs (fun he => ?_)
    subst he
    have hm : hasN N x = true := (has_mem h).2 (List.mem_of_getElem? hx)
    rw [hm] at hi
    have ea := has_at hm
    have hlt : posN N x < i := by
      have h9 : posN N x + 1 ≤ i := by simpa using hi
      omega
    obtain ⟨b1, b2⟩ := List.getElem?_eq_some_iff.1 hx
    obtain ⟨c1, c2⟩ := List.getElem?_eq_some_iff.1 ea
    have := List.pairwise_iff_getElem.1 h _ i c1 b1 hlt
    rw [c2, b2, lt_irr] at this
    cases this
  unfold putN Asc
  rw [List.pairwise_append]
  refine ⟨List.Pairwise.sublist (List.take_sublist _ _) h, ?_, ?_⟩
  · rw [List.pairwise_cons]
    refine ⟨fun x hx => ?_, List.Pairwise.sublist (List.drop_sublist _ _) h⟩
    obtain ⟨i, hi, e⟩ := List.mem_iff_getElem.1 hx
    have ei := List.getElem?_eq_getElem hi
    rw [e, List.getElem?_drop] at ei
    exact hd _ x (by omega) ei
  · intro a ha c hc
    obtain ⟨i, hi, e⟩ := List.mem_iff_getElem.1 ha
    have ei := List.getElem?_eq_getElem hi
    rw [e] at ei
    rw [List.length_take] at hi
    rw [List.getElem?_take, if_pos (by omega)] at ei
    have has : ltS a s = true := pos_lt ei (by omega)
    rcases List.mem_cons.1 hc with rfl | hc
    · exact has
    · obtain ⟨j, hj, e2⟩ := List.mem_iff_getElem.1 hc
      have ej := List.getElem?_eq_getElem hj
      rw [e2, List.getElem?_drop] at ej
      exact lt_tr has (hd _ c (by omega) ej)
end Go.Proofs.YtkiijdcpfbnacaaGreatDoor
