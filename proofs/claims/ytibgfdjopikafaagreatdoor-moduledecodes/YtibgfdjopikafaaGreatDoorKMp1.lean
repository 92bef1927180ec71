/-
  A module's file, whole, plain: what is read is the file of what it is read as; one byte that is another one, a beginning, more behind: none of them is a file. No Go in it.
-/
import Derived.Test.YtibgfdjopikafaaGreatDoorKMp0
import Derived.Test.YtibgfdjopikafaaGreatDoorCrcS
import Derived.Test.YtibgfdjopikafaaGreatDoorJTK
namespace Go.Proofs.YtibgfdjopikafaaGreatDoor
open Go.RowKit
set_option maxRecDepth 20000
set_option linter.unusedVariables false

theorem be4_inj {a b : Nat} (h : be (a : Int) 4 = be (b : Int) 4) (ha : a < 4294967296) (hb : b < 4294967296) : a = b := by
  rw [← beN_be a ha, ← beN_be b hb, h]
/-- What a file begins with. -/
def magB : List UInt8 := [112, 118, 109, 1]
def bodyB (m : Mc) : List UInt8 := magB ++ mdB m
def fileB (m : Mc) : List UInt8 := tsum (bodyB m)
/-- The first place at which a file begins otherwise. -/
def magR (b : List UInt8) : List UInt8 → Nat → Option (Nat × Int)
  | [], _ => none
  | x :: l, i => if i = b.length then some (b.length, 2) else if b.getD i 0 ≠ x then some (i, 160) else magR b l (i + 1)
def magE (b : List UInt8) : Option (Nat × Int) := magR b magB 0
def bodP (L : List UInt8) : Except (Nat × Int) Mc := match mdP L 4 with
  | .error e => .error e
  | .ok (m, k) => if k < L.length then .error (k, 3) else .ok m
/-- What a file is read as; not yet held against what may be. -/
def decD (b : List UInt8) : Except (Nat × Int) Mc :=
  if 1048576 < b.length then .error (0, 4) else match magE b with
    | some e => .error e
    | none => if b.length < 8 then .error (b.length, 2) else if tsum (b.take (b.length - 4)) ≠ b then .error (b.length - 4, 161) else bodP (b.take (b.length - 4))

theorem magR_none : ∀ (l : List UInt8) (b : List UInt8) (i : Nat), i ≤ b.length → (magR b l i = none ↔ ∃ r, b.drop i = l ++ r)
  | [], b, i, _ => ⟨fun _ => ⟨b.drop i, rfl⟩, fun _ => rfl⟩
  | x :: l, b, i, hi => by
    unfold magR
    constructor
    · intro h
      by_cases h1 : i = b.length
      · rw [if_pos h1] at h; cases h
      rw [if_neg h1] at h
      by_cases h2 : b.getD i 0 ≠ x
      · rw [if_pos h2] at h; cases h
      rw [if_neg h2] at h
      obtain ⟨r, hr⟩ := (magR_none l b (i + 1) (by omega)).1 h
      exact ⟨r, by rw [drop_cons (by omega), hr, Decidable.not_not.1 h2]; rfl⟩
    · rintro ⟨r, hr⟩
      have hl := congrArg List.length hr
      rw [List.length_drop] at hl
      simp at hl
      have hd : b.drop (i + 1) = l ++ r := by rw [← List.drop_drop, hr]; rfl
      rw [if_neg (by omega), getD_drop hr, if_neg (by simp)]
      exact (magR_none l b (i + 1) (by omega)).2 ⟨r, hd⟩
theorem magE_none {b : List UInt8} : magE b = none ↔ ∃ r, b = magB ++ r := by
  have := magR_none magB b 0 (Nat.zero_le _)
  rw [List.drop_zero] at this
  exact this
theorem body_len (m : Mc) : 4 ≤ (bodyB m).length := by unfold bodyB magB; simp
theorem file_len (m : Mc) : (fileB m).length = (bodyB m).length + 4 := tsum_len _
theorem bodP_iff {L : List UInt8} {m : Mc} (hL : ∃ r, L = magB ++ r) : bodP L = .ok m ↔ McV m ∧ L = bodyB m := by
  obtain ⟨r, rfl⟩ := hL
  have h4 : 4 ≤ (magB ++ r).length := by unfold magB; simp
  have hd : (magB ++ r).drop 4 = r := by unfold magB; simp
  unfold bodP
  constructor
  · intro h
    cases hp : mdP (magB ++ r) 4 with
    | error e => rw [hp] at h; cases h
    | ok y =>
      obtain ⟨m', k⟩ := y
      rw [hp] at h
      have h : (if k < (magB ++ r).length then .error (k, 3) else .ok m' : Except (Nat × Int) Mc) = .ok m := h
      by_cases h1 : k < (magB ++ r).length
      · rw [if_pos h1] at h; cases h
      rw [if_neg h1] at h
      injection h with h
      subst h
      obtain ⟨v, rfl, q, hq⟩ := (Co.md _ 4 m' k h4).1 hp
      refine ⟨v, ?_⟩
      rw [hd] at hq
      have hl : (magB ++ r).length = 4 + r.length := by unfold magB; simp; omega
      have hl2 := congrArg List.length hq
      rw [List.length_append] at hl2
      have : q = [] := List.eq_nil_of_length_eq_zero (by omega)
      subst this
      rw [List.append_nil] at hq
      unfold bodyB
      rw [hq]
  · rintro ⟨v, h⟩
    have h5 : r = mdB m := List.append_cancel_left h
    subst h5
    have hp := (Co.md (magB ++ mdB m) 4 m (4 + (mdB m).length) h4).2 ⟨v, rfl, [], by rw [hd, List.append_nil]⟩
    rw [hp]
    show (if _ then _ else _) = _
    rw [if_neg (by unfold magB; simp; omega)]
/-- A file that is read is the file of what it is read as. -/
theorem dec_iff {b : List UInt8} {m : Mc} : decD b = .ok m ↔ McV m ∧ b = fileB m ∧ b.length ≤ 1048576 := by
  unfold decD
  constructor
  · intro h
    by_cases h1 : 1048576 < b.length
    · rw [if_pos h1] at h; cases h
    rw [if_neg h1] at h
    cases hm : magE b with
    | some e => rw [hm] at h; cases h
    | none =>
      rw [hm] at h
      have h : (if b.length < 8 then .error (b.length, 2) else if tsum (b.take (b.length - 4)) ≠ b then .error (b.length - 4, 161) else bodP (b.take (b.length - 4)) : Except (Nat × Int) Mc) = .ok m := h
      by_cases h2 : b.length < 8
      · rw [if_pos h2] at h; cases h
      rw [if_neg h2] at h
      by_cases h3 : tsum (b.take (b.length - 4)) ≠ b
      · rw [if_pos h3] at h; cases h
      rw [if_neg h3] at h
      obtain ⟨r, hr⟩ := magE_none.1 hm
      have hp : ∃ q, b.take (b.length - 4) = magB ++ q := by
        refine ⟨r.take (b.length - 8), ?_⟩
        rw [hr]
        unfold magB
        simp
        have hb := congrArg List.length hr
        unfold magB at hb
        simp at hb
        have hc : r.length = (r.length - 4) + 1 + 1 + 1 + 1 := by omega
        rw [hc]
        simp
      obtain ⟨v, hb⟩ := (bodP_iff hp).1 h
      refine ⟨v, ?_, by omega⟩
      unfold fileB
      rw [← hb]
      exact (Decidable.not_not.1 h3).symm
  · rintro ⟨v, rfl, hl⟩
    have hf := file_len m
    have hb := body_len m
    have hmag : magE (fileB m) = none := magE_none.2 ⟨mdB m ++ be (sumOf (bodyB m) : Int) 4, by unfold fileB tsum bodyB; simp⟩
    have ht : (fileB m).take ((fileB m).length - 4) = bodyB m := by
      rw [hf, Nat.add_sub_cancel]
      unfold fileB tsum
      exact List.take_left
    rw [if_neg (by omega), hmag]
    show (if _ then _ else _) = _
    rw [if_neg (by omega), ht, if_neg (by unfold fileB; simp)]
    exact (bodP_iff ⟨mdB m, rfl⟩).2 ⟨v, rfl⟩
/-- No file is the beginning of another one. -/
theorem md_one {x y : Mc} {r q : List UInt8} (hx : McV x) (hy : McV y) (h : mdB x ++ r = mdB y ++ q) : x = y := by
  have h1 := (Co.md (mdB x ++ r) 0 x _ (Nat.zero_le _)).2 ⟨hx, rfl, r, rfl⟩
  have h2 := (Co.md (mdB x ++ r) 0 y _ (Nat.zero_le _)).2 ⟨hy, rfl, q, h⟩
  rw [h1] at h2
  injection h2 with h2
  injection h2
theorem file_one {x y : Mc} {r : List UInt8} (hx : McV x) (hy : McV y) (h : fileB x = fileB y ++ r) : x = y ∧ r = [] := by
  have e : x = y := by
    refine md_one (r := be (sumOf (bodyB x) : Int) 4) (q := be (sumOf (bodyB y) : Int) 4 ++ r) hx hy ?_
    have h' : magB ++ (mdB x ++ be (sumOf (bodyB x) : Int) 4) = magB ++ (mdB y ++ (be (sumOf (bodyB y) : Int) 4 ++ r)) := by
      have := h
      unfold fileB tsum at this
      unfold bodyB at this ⊢
      simpa using this
    exact List.append_cancel_left h'
  subst e
  refine ⟨rfl, ?_⟩
  have := congrArg List.length h
  rw [List.length_append] at this
  exact List.eq_nil_of_length_eq_zero (by omega)
theorem dec_take {m : Mc} (hv : McV m) {k : Nat} (hk : k < (fileB m).length) (c : Mc) : decD ((fileB m).take k) ≠ .ok c := fun h => by
  obtain ⟨v, e, _⟩ := dec_iff.1 h
  have h2 : fileB m = fileB c ++ (fileB m).drop k := by rw [← e, List.take_append_drop]
  obtain ⟨_, h3⟩ := file_one hv v h2
  have := congrArg List.length h3
  rw [List.length_drop] at this
  simp at this
  omega
theorem dec_more {m : Mc} (hv : McV m) {r : List UInt8} {c : Mc} (h : decD (fileB m ++ r) = .ok c) : r = [] := by
  obtain ⟨v, e, _⟩ := dec_iff.1 h
  obtain ⟨h1, h2⟩ := file_one (x := c) (y := m) v hv e.symm
  exact h2
theorem tsum_set {L : List UInt8} {k : Nat} {x : UInt8} (hk : k < (tsum L).length) (h : tsum (((tsum L).set k x).take L.length) = (tsum L).set k x) : x = (tsum L).getD k 0 := by
  have hl := tsum_len L
  by_cases h1 : k < L.length
  · have e1 : (tsum L).set k x = L.set k x ++ be (sumOf L : Int) 4 := by unfold tsum; rw [List.set_append_left _ _ h1]
    have e2 : ((tsum L).set k x).take L.length = L.set k x := by
      rw [e1, List.take_append_of_le_length (by rw [List.length_set]; omega), List.take_of_length_le (by rw [List.length_set]; omega)]
    rw [e2, e1] at h
    have h3 : be (sumOf (L.set k x) : Int) 4 = be (sumOf L : Int) 4 := by
      unfold tsum at h
      exact List.append_cancel_left h
    have := sum_set h1 (be4_inj h3 (sumOf_lt _) (sumOf_lt _))
    rw [this]
    unfold tsum
    rw [List.getD_eq_getElem?_getD, List.getD_eq_getElem?_getD, List.getElem?_append_left h1]
  · have e2 : ((tsum L).set k x).take L.length = L := by
      unfold tsum
      rw [List.set_append_right _ _ (by omega), List.take_left]
    rw [e2] at h
    have h4 : ((tsum L).set k x).getD k 0 = x := by
      rw [List.getD_eq_getElem?_getD, List.getElem?_set_self hk]; rfl
    rw [← h, ] at h4
    exact h4.symm
theorem dec_set {m : Mc} {k : Nat} {x : UInt8} (hk : k < (fileB m).length) {c : Mc} (h : decD ((fileB m).set k x) = .ok c) : x = (fileB m).getD k 0 := by
  obtain ⟨v, e, _⟩ := dec_iff.1 h
  have hl : (bodyB m).length = (bodyB c).length := by
    have := congrArg List.length e
    rw [List.length_set, file_len, file_len] at this
    omega
  refine tsum_set hk ?_
  show tsum (((fileB m).set k x).take _) = (fileB m).set k x
  rw [e, hl]
  unfold fileB
  congr 1
  unfold tsum
  rw [List.take_left]
end Go.Proofs.YtibgfdjopikafaaGreatDoor
