/-
  The document's Reach, plainly: what is come to, its marks, the list of it; and that it is the program's. No Go in it.
-/
import Derived.Test.YtbbfnampjbdnbaaDoorKHr6
import Derived.Test.YtbbfnampjbdnbaaDoorKHq9
namespace Go.Proofs.YtbbfnampjbdnbaaDoor
open Go.RowKit
set_option maxRecDepth 20000
set_option linter.unusedVariables false
set_option linter.unusedSimpArgs false

inductive RchR (T : List Cl) (R : List Rb) (Q : List Int) : Int → Prop where
  | root {r : Int} : r ∈ Q → (thrD R r).isSome = true → RchR T R Q r
  | step {r v : Int} : RchR T R Q r → v ∈ leadsR T R r → RchR T R Q v
theorem leads_there {T : List Cl} {R : List Rb} {r v : Int} (h : v ∈ leadsR T R r) : (thrD R v).isSome = true := by
  unfold leadsR at h
  cases hx : thrD R r with
  | none => rw [hx] at h; cases h
  | some x =>
    rw [hx] at h
    have h : v ∈ (if x.c = -1 then [] else goL R (ldsD T x.c.toNat) x.ps) := h
    split at h
    · cases h
    · exact (goL_mem.1 h).1
theorem RchR.there {T : List Cl} {R : List Rb} {Q : List Int} {r : Int} (h : RchR T R Q r) : (thrD R r).isSome = true := by
  cases h with
  | root _ h => exact h
  | step _ h => exact leads_there h
theorem thr_range {R : List Rb} {r : Int} (h : (thrD R r).isSome = true) : 1 ≤ r ∧ r ≤ (R.length : Int) := by
  cases hx : thrD R r with
  | none => rw [hx] at h; cases h
  | some x =>
    obtain ⟨h1, h2, _⟩ := thr_some.1 hx
    have := (List.getElem?_eq_some_iff.1 h2).1
    exact ⟨h1, by omega⟩
structure RIv (T : List Cl) (R : List Rb) (Q R0 : List Int) (C : List Bool) (N : List Int) : Prop where
  len : C.length = R.length + 1
  nin : ∀ v ∈ N, C[v.toNat]? = some true ∧ RchR T R Q v
  cin : ∀ i : Nat, C[i]? = some true → (i : Int) ∈ N
  rts : ∀ r ∈ R0, r ≠ 0 → r ∈ N
  bnd : N.length + C.count false ≤ R.length + 1
theorem RIv.start (T : List Cl) (R : List Rb) (Q : List Int) : RIv T R Q [] (List.replicate (R.length + 1) false) [] :=
  ⟨by simp, fun v hv => (by cases hv), fun i hi => (by rw [List.getElem?_replicate] at hi; split at hi <;> simp at hi), fun r hr => (by cases hr), by simp⟩
theorem RIv.root {T : List Cl} {R : List Rb} {Q R0 : List Int} {C : List Bool} {N : List Int} (I : RIv T R Q R0 C N) {r : Int} (h : r ≠ 0 → r ∈ N) : RIv T R Q (R0 ++ [r]) C N :=
  ⟨I.len, I.nin, I.cin, fun x hx h0 => by
    rcases List.mem_append.1 hx with hx | hx
    · exact I.rts x hx h0
    · rw [List.mem_singleton] at hx; subst hx; exact h h0, I.bnd⟩
theorem RIv.mark {T : List Cl} {R : List Rb} {Q R0 : List Int} {C : List Bool} {N : List Int} (I : RIv T R Q R0 C N) {k : Nat} (hc : C[k]? = some false) (hr : RchR T R Q (k : Int)) : RIv T R Q R0 (C.set k true) (N ++ [(k : Int)]) := by
  have hk := (List.getElem?_eq_some_iff.1 hc).1
  have hcnt := set_count hc
  refine ⟨by rw [List.length_set]; exact I.len, ?_, ?_, fun r h1 h2 => List.mem_append.2 (Or.inl (I.rts r h1 h2)), ?_⟩
  · intro v hv
    rcases List.mem_append.1 hv with hv | hv
    · exact ⟨set_true (I.nin v hv).1, (I.nin v hv).2⟩
    · rw [List.mem_singleton] at hv
      subst hv
      exact ⟨by rw [Int.toNat_natCast]; simp [hk], hr⟩
  · intro i hi
    by_cases e : i = k
    · subst e; simp
    · rw [List.getElem?_set_ne (fun e2 => e e2.symm)] at hi
      exact List.mem_append.2 (Or.inl (I.cin i hi))
  · have := I.bnd
    rw [List.length_append, List.length_singleton]
    omega
/-- The first so many have been gone through. -/
def GoneT (T : List Cl) (R : List Rb) (N : List Int) (m : Nat) : Prop := ∀ (j : Nat) (x : Int), j < m → N[j]? = some x → ∀ v ∈ leadsR T R x, v ∈ N
theorem GoneT.more {T : List Cl} {R : List Rb} {N S : List Int} {m : Nat} (h : GoneT T R N m) (hm : m ≤ N.length) : GoneT T R (N ++ S) m := fun j x hj hx v hv => by
  rw [List.getElem?_append_left (by omega)] at hx
  exact List.mem_append.2 (Or.inl (h j x hj hx v hv))
theorem GoneT.next {T : List Cl} {R : List Rb} {N S : List Int} {m : Nat} {x : Int} (h : GoneT T R N m) (hx : N[m]? = some x) (hl : ∀ v ∈ leadsR T R x, v ∈ N ++ S) : GoneT T R (N ++ S) (m + 1) := fun j y hj hy v hv => by
  have hm := (List.getElem?_eq_some_iff.1 hx).1
  rw [List.getElem?_append_left (by omega)] at hy
  by_cases e : j = m
  · subst e
    rw [hx] at hy
    injection hy with hy
    subst hy
    exact hl v hv
  · exact List.mem_append.2 (Or.inl (h j y (by omega) hy v hv))
/-- Just what is come to is marked. -/
def MrkR (T : List Cl) (R : List Rb) (Q : List Int) (C : List Bool) : Prop := C.length = R.length + 1 ∧ ∀ i : Nat, C[i]? = some true ↔ RchR T R Q (i : Int)
def badRR (R : List Rb) (Q : List Int) : Prop := ∃ r ∈ Q, r ≠ 0 ∧ thrD R r = none
theorem RIv.fin {T : List Cl} {R : List Rb} {Q : List Int} {C : List Bool} {N : List Int} (I : RIv T R Q Q C N) (G : GoneT T R N N.length) : MrkR T R Q C := by
  have key : ∀ r, RchR T R Q r → r ∈ N := by
    intro r h
    induction h with
    | root h1 h2 => exact I.rts _ h1 (by have := (thr_range h2).1; omega)
    | step h1 h2 ih =>
      obtain ⟨j, hj, e⟩ := List.mem_iff_getElem.1 ih
      exact G j _ hj (by rw [← e]; exact List.getElem?_eq_getElem hj) _ h2
  refine ⟨I.len, fun i => ⟨fun h => (I.nin _ (I.cin i h)).2, fun h => ?_⟩⟩
  have := (I.nin _ (key _ h)).1
  rwa [Int.toNat_natCast] at this
/-- The marked references below a number. -/
def outT (C : List Bool) (k : Nat) : List Int := ((List.range k).filter (fun i => decide (1 ≤ i) && (C[i]? == some true))).map (fun i : Nat => (i : Int))
theorem outT_one (C : List Bool) : outT C 1 = [] := by
  unfold outT
  simp [List.range_succ]
theorem outT_step {C : List Bool} {k : Nat} {b : Bool} (h1 : 1 ≤ k) (h : C[k]? = some b) : outT C (k + 1) = outT C k ++ (if b = true then [(k : Int)] else []) := by
  unfold outT
  rw [List.range_succ, List.filter_append, List.map_append]
  congr 1
  cases b <;> simp [h, h1]
theorem outT_len (C : List Bool) (k : Nat) : (outT C k).length ≤ k := by
  unfold outT
  rw [List.length_map]
  exact Nat.le_trans (List.length_filter_le _ _) (by simp)
theorem outT_mem {C : List Bool} {k : Nat} {r : Int} : r ∈ outT C k ↔ ∃ i : Nat, r = (i : Int) ∧ 1 ≤ i ∧ i < k ∧ C[i]? = some true := by
  unfold outT
  rw [List.mem_map]
  constructor
  · rintro ⟨i, h, rfl⟩
    rw [List.mem_filter, List.mem_range] at h
    simp at h
    exact ⟨i, rfl, h.2.1, h.1, h.2.2⟩
  · rintro ⟨i, rfl, h1, h2, h3⟩
    refine ⟨i, ?_, rfl⟩
    rw [List.mem_filter, List.mem_range]
    simp [h1, h2, h3]
theorem outT_asc (C : List Bool) (k : Nat) : (outT C k).Pairwise (· < ·) := by
  unfold outT
  rw [List.pairwise_map]
  refine List.Pairwise.filter _ ?_
  refine List.Pairwise.imp ?_ List.pairwise_lt_range
  intro a b h
  omega
theorem asc_same : ∀ {a b : List Int}, a.Pairwise (· < ·) → b.Pairwise (· < ·) → (∀ x, x ∈ a ↔ x ∈ b) → a = b
  | [], [], _, _, _ => rfl
  | [], y :: b, _, _, h => by have := (h y).2 (by simp); cases this
  | x :: a, [], _, _, h => by have := (h x).1 (by simp); cases this
  | x :: a, y :: b, ha, hb, h => by
    obtain ⟨ha1, ha2⟩ := List.pairwise_cons.1 ha
    obtain ⟨hb1, hb2⟩ := List.pairwise_cons.1 hb
    have e : x = y := by
      have h1 := (h x).1 (by simp)
      have h2 := (h y).2 (by simp)
      rcases List.mem_cons.1 h1 with e | h1
      · exact e
      · rcases List.mem_cons.1 h2 with e | h2
        · exact e.symm
        · have := hb1 x h1; have := ha1 y h2; omega
    subst e
    congr 1
    refine asc_same ha2 hb2 (fun z => ⟨fun hz => ?_, fun hz => ?_⟩)
    · rcases List.mem_cons.1 ((h z).1 (List.mem_cons_of_mem _ hz)) with e | h1
      · subst e; have := ha1 z hz; omega
      · exact h1
    · rcases List.mem_cons.1 ((h z).2 (List.mem_cons_of_mem _ hz)) with e | h1
      · subst e; have := hb1 z hz; omega
      · exact h1
/-! ### Both ways of coming are one -/
/-- What both heaps keep of the table. -/
structure Both (T : List Cl) (h : Hm) (R : List Rb) : Prop where
  tw : Twn h R
  ok : HmOk h
  len : h.L.length = T.length
  lds : ∀ (c : Nat) (x : Ld), h.L[c]? = some x → x.bs = ldsD T c
theorem ldsD_len (T : List Cl) (c : Nat) : (ldsD T c).length = (fieldsB T (c : Int)).length := by unfold ldsD; rw [List.length_map]
theorem Both.obj_rb {T : List Cl} {h : Hm} {R : List Rb} (H : Both T h R) {o : Ob} (ho : o ∈ h.O) : ∃ x, thrD R o.ref = some x ∧ o.cls = x.c ∧ o.ps = x.ps := by
  cases hx : thrD R o.ref with
  | none =>
    have := (H.tw.obj H.ok o.ref).2 hx
    obtain ⟨i, hi, rfl⟩ := List.mem_iff_getElem.1 ho
    rw [obj_at H.ok.asc (List.getElem?_eq_getElem hi)] at this
    cases this
  | some x =>
    obtain ⟨o', h1, h2, h3⟩ := (H.tw.obj H.ok o.ref).1 x hx
    obtain ⟨i, hi, rfl⟩ := List.mem_iff_getElem.1 ho
    rw [obj_at H.ok.asc (List.getElem?_eq_getElem hi)] at h1
    injection h1 with h1
    subst h1
    exact ⟨x, rfl, h2, h3⟩
theorem Both.rb_obj {T : List Cl} {h : Hm} {R : List Rb} (H : Both T h R) {r : Int} {x : Rb} (hx : thrD R r = some x) : ∃ (k : Nat) (o : Ob), h.O[k]? = some o ∧ o.ref = r ∧ o.cls = x.c ∧ o.ps = x.ps := by
  obtain ⟨o, h1, h2, h3⟩ := (H.tw.obj H.ok r).1 x hx
  obtain ⟨h4, h5⟩ := obj_mem h1
  obtain ⟨k, hk, e⟩ := List.mem_iff_getElem.1 h4
  exact ⟨k, o, by rw [← e]; exact List.getElem?_eq_getElem hk, h5, h2, h3⟩
theorem Both.cls {T : List Cl} {h : Hm} {R : List Rb} (H : Both T h R) : RpCls T R := fun x hx ht => by
  obtain ⟨i, hi, e⟩ := List.mem_iff_getElem.1 hx
  have h1 : R[i]? = some x := by rw [← e]; exact List.getElem?_eq_getElem hi
  have h2 : thrD R ((i : Int) + 1) = some x := by rw [thr_at h1, ht, if_pos rfl]
  obtain ⟨k, o, h3, h4, h5, h6⟩ := H.rb_obj h2
  rcases H.ok.cls o (List.mem_of_getElem? h3) with e1 | ⟨c, e1, y, hy, hyl⟩
  · left; rw [← h5]; exact e1
  · right
    have hc := (List.getElem?_eq_some_iff.1 hy).1
    refine ⟨c, by rw [← h5]; exact e1, by rw [← H.len]; exact hc, ?_⟩
    rw [← ldsD_len, ← H.lds c y hy, hyl, h6]
theorem Both.lds_of {T : List Cl} {h : Hm} {R : List Rb} (H : Both T h R) {o : Ob} (ho : o ∈ h.O) : (o.cls = -1 ∧ (ldOf h o.cls).bs = []) ∨ (o.cls ≠ -1 ∧ (ldOf h o.cls).bs = ldsD T o.cls.toNat) := by
  rcases H.ok.cls o ho with e1 | ⟨c, e1, y, hy, hyl⟩
  · left
    refine ⟨e1, ?_⟩
    unfold ldOf
    rw [if_pos e1]
  · right
    refine ⟨by omega, ?_⟩
    unfold ldOf
    rw [if_neg (by omega), e1, Int.toNat_natCast, hy]
    exact H.lds c y hy
/-- What an object of one heap leads to. -/
theorem Both.lead {T : List Cl} {h : Hm} {R : List Rb} (H : Both T h R) {o : Ob} (ho : o ∈ h.O) {v : Int} : v ∈ leadsR T R o.ref ↔ (thrD R v).isSome = true ∧ ∃ j : Nat, (ldOf h o.cls).bs[j]? = some true ∧ o.ps[j]? = some v := by
  obtain ⟨x, h1, h2, h3⟩ := H.obj_rb ho
  unfold leadsR
  rw [h1]
  show v ∈ (if x.c = -1 then [] else goL R (ldsD T x.c.toNat) x.ps) ↔ _
  rcases H.lds_of ho with ⟨e1, e2⟩ | ⟨e1, e2⟩
  · rw [if_pos (by rw [← h2]; exact e1), e2]
    simp
  · rw [if_neg (by rw [← h2]; exact e1), goL_mem, e2, h3, h2]
theorem Both.to {T : List Cl} {h : Hm} {R : List Rb} {Q : List Int} (H : Both T h R) {k : Nat} (hr : Rch h Q k) : ∀ o, h.O[k]? = some o → RchR T R Q o.ref := by
  induction hr with
  | root h1 h2 =>
    intro o ho
    rw [h1] at ho
    injection ho with ho
    subst ho
    obtain ⟨x, hx, _⟩ := H.obj_rb (List.mem_of_getElem? h1)
    exact .root h2 (by rw [hx]; rfl)
  | step _ h1 h2 h3 h4 h5 ih =>
    intro o ho
    rw [h4] at ho
    injection ho with ho
    subst ho
    obtain ⟨x, hx, _⟩ := H.obj_rb (List.mem_of_getElem? h4)
    refine .step (ih _ h1) ((H.lead (List.mem_of_getElem? h1)).2 ⟨by rw [hx]; rfl, _, h2, by rw [h5]; exact h3⟩)
theorem Both.fro {T : List Cl} {h : Hm} {R : List Rb} {Q : List Int} (H : Both T h R) {r : Int} (hr : RchR T R Q r) : ∃ (k : Nat) (o : Ob), h.O[k]? = some o ∧ o.ref = r ∧ Rch h Q k := by
  induction hr with
  | root h1 h2 =>
    rename_i r
    cases hx : thrD R r with
    | none => rw [hx] at h2; cases h2
    | some x =>
      obtain ⟨k, o, h3, h4, _⟩ := H.rb_obj hx
      exact ⟨k, o, h3, h4, .root h3 (by rw [h4]; exact h1)⟩
  | step _ h2 ih =>
    rename_i r v _
    obtain ⟨k, o, h3, h4, h5⟩ := ih
    rw [← h4] at h2
    obtain ⟨h6, j, h7, h8⟩ := (H.lead (List.mem_of_getElem? h3)).1 h2
    cases hx : thrD R v with
    | none => rw [hx] at h6; cases h6
    | some x =>
      obtain ⟨t, o', h9, h10, _⟩ := H.rb_obj hx
      exact ⟨t, o', h9, h10, .step h5 h3 h7 h8 h9 h10⟩
theorem Both.bad {T : List Cl} {h : Hm} {R : List Rb} (H : Both T h R) (Q : List Int) : badR h Q ↔ badRR R Q := by
  constructor
  · rintro ⟨r, h1, h2, h3⟩
    refine ⟨r, h1, h2, ?_⟩
    cases hx : thrD R r with
    | none => rfl
    | some x =>
      obtain ⟨k, o, h4, h5, _⟩ := H.rb_obj hx
      exact absurd h5 (h3 o (List.mem_of_getElem? h4))
  · rintro ⟨r, h1, h2, h3⟩
    refine ⟨r, h1, h2, fun o ho e => ?_⟩
    obtain ⟨x, hx, _⟩ := H.obj_rb ho
    rw [e, h3] at hx
    cases hx
/-- Both lists of what is come to are one. -/
theorem Both.out {T : List Cl} {h : Hm} {R : List Rb} {Q : List Int} (H : Both T h R) {C D : List Bool} (hC : ComIs h Q C) (hD : MrkR T R Q D) : sel h.O C = outT D (R.length + 1) := by
  refine asc_same (sel_asc H.ok.asc C) (outT_asc _ _) (fun r => ?_)
  rw [mem_sel, outT_mem]
  constructor
  · rintro ⟨k, o, h1, h2, rfl⟩
    have h3 := H.to ((hC.2 k).1 h2) o h1
    have h4 := thr_range h3.there
    refine ⟨o.ref.toNat, by omega, by omega, by omega, ?_⟩
    rw [hD.2, show ((o.ref.toNat : Nat) : Int) = o.ref by omega]
    exact h3
  · rintro ⟨i, rfl, h1, h2, h3⟩
    obtain ⟨k, o, h4, h5, h6⟩ := H.fro ((hD.2 i).1 h3)
    exact ⟨k, o, h4, (hC.2 k).2 h6, h5⟩
end Go.Proofs.YtbbfnampjbdnbaaDoor
