/-
  Where the reference's Blocks lays its marks: just there where blocks begin. No Go in it.
  What the reference's Blocks lays out, instruction by instruction, is what Blocks tells. No Go in it.
-/
import Derived.Test.YtdpfinnclnapbaaBk1
namespace Go.Proofs.Ytdpfinnclnapbaa
open Go.RowKit Go.Maps

/-- One instruction's marks. -/
def stpM (l : List Ix) (k : Nat) (B : List Bool) : List Bool := match l[k]? with
  | none => B
  | some x =>
    let B1 := if k = 0 then B.set 0 true else B
    let B2 := if prtD x.op = true ∧ k + 1 < l.length then B1.set (k + 1) true else B1
    match (if jmpD x.op = true then pI l x.a else none) with | some i => B2.set i true | none => B2
def mkL (l : List Ix) : Nat → List Bool
  | 0 => List.replicate l.length false
  | k + 1 => stpM l k (mkL l k)
theorem stpM_len (l : List Ix) (k : Nat) (B : List Bool) : (stpM l k B).length = B.length := by
  unfold stpM
  cases l[k]? with
  | none => rfl
  | some x =>
    simp only
    split <;> split <;> split <;> simp
theorem mkL_len (l : List Ix) : ∀ k, (mkL l k).length = l.length
  | 0 => by unfold mkL; simp
  | k + 1 => by unfold mkL; rw [stpM_len, mkL_len l k]
def Tr (B : List Bool) (j : Nat) : Prop := B[j]? = some true
theorem tr_set {B : List Bool} {i j : Nat} (hj : j < B.length) : Tr (B.set i true) j ↔ (i = j ∨ Tr B j) := by
  unfold Tr
  rw [List.getElem?_set]
  by_cases e : i = j
  · subst e
    simp [hj]
  · simp [e]
theorem tr_stp {l : List Ix} {k : Nat} {B : List Bool} {x : Ix} {j : Nat} (hx : l[k]? = some x) (hj : j < B.length) :
    Tr (stpM l k B) j ↔ ((k = 0 ∧ j = 0) ∨ (prtD x.op = true ∧ k + 1 < l.length ∧ j = k + 1) ∨ (jmpD x.op = true ∧ pI l x.a = some j) ∨ Tr B j) := by
  unfold stpM
  rw [hx]
  simp only
  have h1 : Tr (if k = 0 then B.set 0 true else B) j ↔ ((k = 0 ∧ j = 0) ∨ Tr B j) := by
    split
    · rename_i e
      rw [tr_set hj]
      simp [e, eq_comm]
    · rename_i e
      simp [e]
  have l1 : (if k = 0 then B.set 0 true else B).length = B.length := by split <;> simp
  generalize (if k = 0 then B.set 0 true else B) = B1 at h1 l1
  have h2 : Tr (if prtD x.op = true ∧ k + 1 < l.length then B1.set (k + 1) true else B1) j ↔ ((prtD x.op = true ∧ k + 1 < l.length ∧ j = k + 1) ∨ Tr B1 j) := by
    split
    · rename_i e
      rw [tr_set (by omega)]
      simp [e, eq_comm]
    · rename_i e
      constructor
      · exact fun h => .inr h
      · rintro (⟨a, b, _⟩ | h)
        · exact absurd ⟨a, b⟩ e
        · exact h
  have l2 : (if prtD x.op = true ∧ k + 1 < l.length then B1.set (k + 1) true else B1).length = B.length := by split <;> simp [l1]
  generalize (if prtD x.op = true ∧ k + 1 < l.length then B1.set (k + 1) true else B1) = B2 at h2 l2
  by_cases hjm : jmpD x.op = true
  · rw [if_pos hjm]
    cases hp : pI l x.a with
    | none =>
      simp only
      rw [h2, h1]
      constructor
      · rintro (h | h | h)
        · exact .inr (.inl h)
        · exact .inl h
        · exact .inr (.inr (.inr h))
      · rintro (h | h | ⟨_, h⟩ | h)
        · exact .inr (.inl h)
        · exact .inl h
        · cases h
        · exact .inr (.inr h)
    | some i =>
      simp only
      rw [tr_set (by omega), h2, h1]
      constructor
      · rintro (h | h | h | h)
        · exact .inr (.inr (.inl ⟨hjm, by rw [h]⟩))
        · exact .inr (.inl h)
        · exact .inl h
        · exact .inr (.inr (.inr h))
      · rintro (h | h | ⟨_, h⟩ | h)
        · exact .inr (.inr (.inl h))
        · exact .inr (.inl h)
        · injection h with h; exact .inl h
        · exact .inr (.inr (.inr h))
  · rw [if_neg hjm]
    simp only
    rw [h2, h1]
    constructor
    · rintro (h | h | h)
      · exact .inr (.inl h)
      · exact .inl h
      · exact .inr (.inr (.inr h))
    · rintro (h | h | ⟨h, _⟩ | h)
      · exact .inr (.inl h)
      · exact .inl h
      · exact absurd h hjm
      · exact .inr (.inr h)
theorem tr_mk {l : List Ix} {j : Nat} (hj : j < l.length) : ∀ k, k ≤ l.length → (Tr (mkL l k) j ↔ ((j = 0 ∧ 0 < k) ∨ (∃ (i : Nat) (x : Ix), i < k ∧ l[i]? = some x ∧ prtD x.op = true ∧ j = i + 1) ∨ ∃ (i : Nat) (x : Ix), i < k ∧ l[i]? = some x ∧ jmpD x.op = true ∧ pI l x.a = some j))
  | 0, _ => by
    unfold mkL Tr
    rw [List.getElem?_replicate]
    simp [hj]
  | k + 1, hk => by
    have hx := List.getElem?_eq_getElem (show k < l.length by omega)
    rw [show mkL l (k + 1) = stpM l k (mkL l k) from rfl, tr_stp hx (by rw [mkL_len]; exact hj), tr_mk hj k (by omega)]
    constructor
    · rintro (⟨a, b⟩ | ⟨a, b, e⟩ | ⟨a, b⟩ | ⟨a, b⟩ | ⟨i, x, h1, h2, h3, h4⟩ | ⟨i, x, h1, h2, h3, h4⟩)
      · exact .inl ⟨b, by omega⟩
      · exact .inr (.inl ⟨k, _, by omega, hx, a, e⟩)
      · exact .inr (.inr ⟨k, _, by omega, hx, a, b⟩)
      · exact .inl ⟨a, by omega⟩
      · exact .inr (.inl ⟨i, x, by omega, h2, h3, h4⟩)
      · exact .inr (.inr ⟨i, x, by omega, h2, h3, h4⟩)
    · rintro (⟨a, b⟩ | ⟨i, x, h1, h2, h3, h4⟩ | ⟨i, x, h1, h2, h3, h4⟩)
      · by_cases e : k = 0
        · exact .inl ⟨e, a⟩
        · exact .inr (.inr (.inr (.inl ⟨a, by omega⟩)))
      · by_cases e : i = k
        · subst e
          rw [hx] at h2
          injection h2 with h2
          subst h2
          exact .inr (.inl ⟨h3, by omega, h4⟩)
        · exact .inr (.inr (.inr (.inr (.inl ⟨i, x, by omega, h2, h3, h4⟩))))
      · by_cases e : i = k
        · subst e
          rw [hx] at h2
          injection h2 with h2
          subst h2
          exact .inr (.inr (.inl ⟨h3, h4⟩))
        · exact .inr (.inr (.inr (.inr (.inr ⟨i, x, by omega, h2, h3, h4⟩))))

/-! ### Rising places -/
theorem rs_lt {l : List Ix} (h : rsP l) : ∀ (d i : Nat) (x y : Ix), l[i]? = some x → l[i + 1 + d]? = some y → x.p < y.p
  | 0, i, x, y, hx, hy => h i x y hx hy
  | d + 1, i, x, y, hx, hy => by
    have hl := (List.getElem?_eq_some_iff.1 hy).1
    have hz := List.getElem?_eq_getElem (show i + 1 + d < l.length by omega)
    have h1 := rs_lt h d i x _ hx hz
    have h2 := h (i + 1 + d) _ y hz (by rw [show i + 1 + d + 1 = i + 1 + (d + 1) from by omega]; exact hy)
    omega
theorem rs_inj {l : List Ix} (h : rsP l) {i j : Nat} {x y : Ix} (hx : l[i]? = some x) (hy : l[j]? = some y) (e : x.p = y.p) : i = j := by
  rcases Nat.lt_trichotomy i j with g | g | g
  · have := rs_lt h (j - i - 1) i x y hx (by rw [show i + 1 + (j - i - 1) = j from by omega]; exact hy)
    omega
  · exact g
  · have := rs_lt h (i - j - 1) j y x hy (by rw [show j + 1 + (i - j - 1) = i from by omega]; exact hx)
    omega
theorem pI_rs {l : List Ix} (h : rsP l) {j : Nat} {y : Ix} (hy : l[j]? = some y) (a : Int) : pI l a = some j ↔ y.p = a := by
  constructor
  · intro e
    obtain ⟨x, hx, hp⟩ := pI_some e
    rw [hy] at hx
    injection hx with hx
    rw [hx]; exact hp
  · intro e
    have hs : (pI l a).isSome = true := by
      rw [← pI_has]
      unfold hasP
      rw [List.any_eq_true]
      exact ⟨y, List.mem_of_getElem? hy, by simp [e]⟩
    obtain ⟨i, hi⟩ := Option.isSome_iff_exists.1 hs
    obtain ⟨x, hx, hp⟩ := pI_some hi
    rw [hi, rs_inj h hx hy (by rw [hp, e])]
/-- The marks stand just where blocks begin. -/
theorem mk_ld {l : List Ix} (h : rsP l) {j : Nat} (hj : j < l.length) : (mkL l l.length)[j]? = some (ldB l j) := by
  have hy := List.getElem?_eq_getElem hj
  have hlen : j < (mkL l l.length).length := by rw [mkL_len]; exact hj
  have key : Tr (mkL l l.length) j ↔ ldB l j = true := by
    rw [tr_mk hj l.length (Nat.le_refl _)]
    unfold ldB
    rw [hy]
    simp only [Bool.or_eq_true, decide_eq_true_eq]
    constructor
    · rintro (⟨a, _⟩ | ⟨i, x, h1, h2, h3, h4⟩ | ⟨i, x, h1, h2, h3, h4⟩)
      · exact .inl (.inr a)
      · right
        rw [show j - 1 = i from by omega, h2]
        exact h3
      · left; left
        unfold tgs
        rw [List.mem_map]
        exact ⟨x, List.mem_filter.2 ⟨List.mem_of_getElem? h2, h3⟩, ((pI_rs h hy x.a).1 h4).symm⟩
    · rintro ((a | a) | a)
      · unfold tgs at a
        obtain ⟨x, hx, e⟩ := List.mem_map.1 a
        obtain ⟨hm, hp⟩ := List.mem_filter.1 hx
        obtain ⟨i, hi, rfl⟩ := List.getElem_of_mem hm
        exact .inr (.inr ⟨i, _, hi, List.getElem?_eq_getElem hi, hp, (pI_rs h hy _).2 e.symm⟩)
      · exact .inl ⟨a, by omega⟩
      · by_cases e : j = 0
        · exact .inl ⟨e, by omega⟩
        · have hz := List.getElem?_eq_getElem (show j - 1 < l.length by omega)
          rw [hz] at a
          exact .inr (.inl ⟨j - 1, _, by omega, hz, a, by omega⟩)
  unfold Tr at key
  rw [List.getElem?_eq_getElem hlen] at key ⊢
  cases hb : (mkL l l.length)[j] <;> cases hc : ldB l j <;> simp_all
/-- Does a block end with an instruction? -/
def edB (l : List Ix) (k : Nat) : Bool := decide (k + 1 = l.length) || ldB l (k + 1)
def updD (l : List Ix) (k : Nat) (o : List (Int × Int × List Int)) : List (Int × Int × List Int) := match o.getLast? with
  | none => o
  | some z => o.dropLast ++ [(z.1, pD l k, if edB l k = true then nxD l k else [])]
def outD (l : List Ix) : Nat → List (Int × Int × List Int)
  | 0 => []
  | k + 1 => updD l k (if ldB l k = true then outD l k ++ [(pD l k, 0, [])] else outD l k)
theorem updD_snoc (l : List Ix) (k : Nat) (A : List (Int × Int × List Int)) (z : Int × Int × List Int) : updD l k (A ++ [z]) = A ++ [(z.1, pD l k, if edB l k = true then nxD l k else [])] := by
  unfold updD
  simp
def enN (k : Nat) (ls : List Nat) (i : Nat) : Nat := if i + 1 < ls.length then ls.getD (i + 1) 0 else k
def elD (l : List Ix) (k : Nat) (ls : List Nat) (i : Nat) : Int × Int × List Int :=
  (pD l (ls.getD i 0), pD l (enN k ls i - 1), if i + 1 < ls.length ∨ k = l.length ∨ ldB l k = true then nxD l (enN k ls i - 1) else [])
theorem ld_zero {l : List Ix} (h : 0 < l.length) : ldB l 0 = true := by
  unfold ldB
  rw [List.getElem?_eq_getElem h]
  simp
theorem ldN_ne {l : List Ix} (h : 0 < l.length) : ∀ k, 0 < k → ldN l k ≠ []
  | 0, h0 => by omega
  | k + 1, _ => by
    by_cases hk : ldB l k = true
    · rw [ldN_yes hk]; simp
    · have hk' : ldB l k = false := by simpa using hk
      rw [ldN_no hk']
      have : k ≠ 0 := fun e => by rw [e, ld_zero h] at hk'; cases hk'
      exact ldN_ne h k (by omega)
theorem out_el {l : List Ix} : ∀ k, k ≤ l.length → outD l k = (List.range (ldN l k).length).map (elD l k (ldN l k))
  | 0, _ => by unfold outD ldN; simp
  | k + 1, hk => by
    have ih := out_el (l := l) k (by omega)
    have hl : 0 < l.length := by omega
    show updD l k (if ldB l k = true then outD l k ++ [(pD l k, 0, [])] else outD l k) = _
    have hed : (k + 1 = l.length ∨ ldB l (k + 1) = true) ↔ edB l k = true := by unfold edB; simp
    by_cases hb : ldB l k = true
    · rw [if_pos hb, updD_snoc, ldN_yes hb, ih, List.length_append, List.length_singleton, List.range_succ, List.map_append]
      congr 1
      · apply List.map_congr_left
        intro i hi
        have hi' : i < (ldN l k).length := by simpa using hi
        unfold elD enN
        rw [List.length_append, List.length_singleton]
        have g0 : (ldN l k ++ [k]).getD i 0 = (ldN l k).getD i 0 := by
          rw [List.getD_eq_getElem?_getD, List.getD_eq_getElem?_getD, List.getElem?_append_left hi']
        rw [g0]
        by_cases h2 : i + 1 < (ldN l k).length
        · have g1 : (ldN l k ++ [k]).getD (i + 1) 0 = (ldN l k).getD (i + 1) 0 := by
            rw [List.getD_eq_getElem?_getD, List.getD_eq_getElem?_getD, List.getElem?_append_left h2]
          rw [if_pos h2, if_pos (show i + 1 < (ldN l k).length + 1 by omega), g1, if_pos (.inl h2), if_pos (.inl (show i + 1 < (ldN l k).length + 1 by omega))]
        · have g1 : (ldN l k ++ [k]).getD (i + 1) 0 = k := by
            rw [List.getD_eq_getElem?_getD, List.getElem?_append_right (by omega), show i + 1 - (ldN l k).length = 0 from by omega]
            rfl
          rw [if_neg h2, if_pos (show i + 1 < (ldN l k).length + 1 by omega), g1, if_pos (.inr (.inr hb)), if_pos (.inl (show i + 1 < (ldN l k).length + 1 by omega))]
      · unfold elD enN
        rw [List.length_append, List.length_singleton]
        have g0 : (ldN l k ++ [k]).getD (ldN l k).length 0 = k := by
          rw [List.getD_eq_getElem?_getD, List.getElem?_append_right (Nat.le_refl _)]
          simp
        simp only [List.map_cons, List.map_nil, g0, Nat.lt_irrefl, if_false, Nat.add_sub_cancel, false_or]
        by_cases he : edB l k = true
        · rw [if_pos he, if_pos (hed.2 he)]
        · rw [if_neg he, if_neg (fun h => he (hed.1 h))]
    · have hb' : ldB l k = false := by simpa using hb
      have hk0 : k ≠ 0 := fun e => by rw [e, ld_zero hl] at hb'; cases hb'
      rw [if_neg hb, ldN_no hb', ih]
      obtain ⟨d, hd⟩ : ∃ d, (ldN l k).length = d + 1 := ⟨(ldN l k).length - 1, by
        have := List.length_pos_iff.2 (ldN_ne hl k (by omega))
        omega⟩
      generalize ldN l k = ls at hd
      rw [hd, List.range_succ, List.map_append, List.map_append]
      simp only [List.map_cons, List.map_nil]
      rw [updD_snoc]
      congr 1
      · apply List.map_congr_left
        intro i hi
        have hi' : i < d := by simpa using hi
        unfold elD enN
        rw [if_pos (show i + 1 < ls.length by omega), if_pos (show i + 1 < ls.length by omega), if_pos (.inl (show i + 1 < ls.length by omega)), if_pos (.inl (show i + 1 < ls.length by omega))]
      · unfold elD enN
        rw [if_neg (show ¬ d + 1 < ls.length by omega), if_neg (show ¬ d + 1 < ls.length by omega)]
        simp only [Nat.add_sub_cancel]
        by_cases he : edB l k = true
        · rw [if_pos he, if_pos (.inr (hed.2 he))]
        · rw [if_neg he, if_neg (fun h => he (hed.1 (h.resolve_left (by omega))))]
theorem out_bk {l : List Ix} (h : rsB l = true) : outD l l.length = bkD l := by
  rw [out_el l.length (Nat.le_refl _)]
  unfold bkD
  rw [if_pos h]
  apply List.map_congr_left
  intro i _
  unfold elD blkN endN enN
  simp
end Go.Proofs.Ytdpfinnclnapbaa
