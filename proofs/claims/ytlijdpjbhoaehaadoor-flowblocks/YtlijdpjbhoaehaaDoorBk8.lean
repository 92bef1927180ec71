/-
  What the reference's Blocks lays out, instruction by instruction, is what Blocks tells. No Go in it.
-/
import Derived.Test.YtlijdpjbhoaehaaDoorBk7
namespace Go.Proofs.YtlijdpjbhoaehaaDoor
open Go.RowKit Go.Maps
set_option maxRecDepth 20000

/-- Does a block end with an instruction? -/
def edB (l : List Ix) (k : Nat) : Bool := decide (k + 1 = l.length) || ldB l (k + 1)
def updD (l : List Ix) (k : Nat) (o : List (Int × Int × List Int)) : List (Int × Int × List Int) := match o.getLast? with
  | none => o
  | some z => o.dropLast ++ [(z.1, pD l k, if edB l k = true then nxD l k else [])]
def outD (l : List Ix) : Nat → List (Int × Int × List Int)
  | 0 => []
  | k + 1 => updD l k (if ldB l k = true then outD l k ++ [(pD l k, 0, [])] else outD l k)
theorem updD_snoc (l : List Ix) (k : Nat) (A : List (Int × Int × List Int)) (z : Int × Int × List Int) : updD l k (A ++ [z]) = A ++ [(z.1, pD l k, if edB l k = true then nxD l k else [])] := by
  unfold updD
  simp
def enN (k : Nat) (ls : List Nat) (i : Nat) : Nat := if i + 1 < ls.length then ls.getD (i + 1) 0 else k
def elD (l : List Ix) (k : Nat) (ls : List Nat) (i : Nat) : Int × Int × List Int :=
  (pD l (ls.getD i 0), pD l (enN k ls i - 1), if i + 1 < ls.length ∨ k = l.length ∨ ldB l k = true then nxD l (enN k ls i - 1) else [])
theorem ld_zero {l : List Ix} (h : 0 < l.length) : ldB l 0 = true := by
  unfold ldB
  rw [List.getElem?_eq_getElem h]
  simp
theorem ldN_ne {l : List Ix} (h : 0 < l.length) : ∀ k, 0 < k → ldN l k ≠ []
  | 0, h0 => by omega
  | k + 1, _ => by
    by_cases hk : ldB l k = true
    · rw [ldN_yes hk]; simp
    · have hk' : ldB l k = false := by simpa using hk
      rw [ldN_no hk']
      have : k ≠ 0 := fun e => by rw [e, ld_zero h] at hk'; cases hk'
      exact ldN_ne h k (by omega)
theorem out_el {l : List Ix} : ∀ k, k ≤ l.length → outD l k = (List.range (ldN l k).length).map (elD l k (ldN l k))
  | 0, _ => by unfold outD ldN; simp
  | k + 1, hk => by
    have ih := out_el (l := l) k (by omega)
    have hl : 0 < l.length := by omega
    show updD l k (if ldB l k = true then outD l k ++ [(pD l k, 0, [])] else outD l k) = _
    have hed : (k + 1 = l.length ∨ ldB l (k + 1) = true) ↔ edB l k = true := by unfold edB; simp
    by_cases hb : ldB l k = true
    · rw [if_pos hb, updD_snoc, ldN_yes hb, ih, List.length_append, List.length_singleton, List.range_succ, List.map_append]
      congr 1
      · apply List.map_congr_left
        intro i hi
        have hi' : i < (ldN l k).length := by simpa using hi
        unfold elD enN
        rw [List.length_append, List.length_singleton]
        have g0 : (ldN l k ++ [k]).getD i 0 = (ldN l k).getD i 0 := by
          rw [List.getD_eq_getElem?_getD, List.getD_eq_getElem?_getD, List.getElem?_append_left hi']
        rw [g0]
        by_cases h2 : i + 1 < (ldN l k).length
        · have g1 : (ldN l k ++ [k]).getD (i + 1) 0 = (ldN l k).getD (i + 1) 0 := by
            rw [List.getD_eq_getElem?_getD, List.getD_eq_getElem?_getD, List.getElem?_append_left h2]
          rw [if_pos h2, if_pos (show i + 1 < (ldN l k).length + 1 by omega), g1, if_pos (.inl h2), if_pos (.inl (show i + 1 < (ldN l k).length + 1 by omega))]
        · have g1 : (ldN l k ++ [k]).getD (i + 1) 0 = k := by
            rw [List.getD_eq_getElem?_getD, List.getElem?_append_right (by omega), show i + 1 - (ldN l k).length = 0 from by omega]
            rfl
          rw [if_neg h2, if_pos (show i + 1 < (ldN l k).length + 1 by omega), g1, if_pos (.inr (.inr hb)), if_pos (.inl (show i + 1 < (ldN l k).length + 1 by omega))]
      · unfold elD enN
        rw [List.length_append, List.length_singleton]
        have g0 : (ldN l k ++ [k]).getD (ldN l k).length 0 = k := by
          rw [List.getD_eq_getElem?_getD, List.getElem?_append_right (Nat.le_refl _)]
          simp
        simp only [List.map_cons, List.map_nil, g0, Nat.lt_irrefl, if_false, Nat.add_sub_cancel, false_or]
        by_cases he : edB l k = true
        · rw [if_pos he, if_pos (hed.2 he)]
        · rw [if_neg he, if_neg (fun h => he (hed.1 h))]
    · have hb' : ldB l k = false := by simpa using hb
      have hk0 : k ≠ 0 := fun e => by rw [e, ld_zero hl] at hb'; cases hb'
      rw [if_neg hb, ldN_no hb', ih]
      obtain ⟨d, hd⟩ : ∃ d, (ldN l k).length = d + 1 := ⟨(ldN l k).length - 1, by
        have := List.length_pos_iff.2 (ldN_ne hl k (by omega))
        omega⟩
      generalize ldN l k = ls at hd
      rw [hd, List.range_succ, List.map_append, List.map_append]
      simp only [List.map_cons, List.map_nil]
      rw [updD_snoc]
      congr 1
      · apply List.map_congr_left
        intro i hi
        have hi' : i < d := by simpa using hi
        unfold elD enN
        rw [if_pos (show i + 1 < ls.length by omega), if_pos (show i + 1 < ls.length by omega), if_pos (.inl (show i + 1 < ls.length by omega)), if_pos (.inl (show i + 1 < ls.length by omega))]
      · unfold elD enN
        rw [if_neg (show ¬ d + 1 < ls.length by omega), if_neg (show ¬ d + 1 < ls.length by omega)]
        simp only [Nat.add_sub_cancel]
        by_cases he : edB l k = true
        · rw [if_pos he, if_pos (.inr (hed.2 he))]
        · rw [if_neg he, if_neg (fun h => he (hed.1 (h.resolve_left (by omega))))]
theorem out_bk {l : List Ix} (h : rsB l = true) : outD l l.length = bkD l := by
  rw [out_el l.length (Nat.le_refl _)]
  unfold bkD
  rw [if_pos h]
  apply List.map_congr_left
  intro i _
  unfold elD blkN endN enN
  simp
end Go.Proofs.YtlijdpjbhoaehaaDoor
