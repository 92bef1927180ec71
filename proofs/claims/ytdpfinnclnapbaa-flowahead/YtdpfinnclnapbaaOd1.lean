/-
  Blocks gone through deep first, by calls and by a list of the way back: both leave them in one order. Plain.
-/
import Derived.Test.YtdpfinnclnapbaaBk1
namespace Go.Proofs.Ytdpfinnclnapbaa

/-- How many were not come to. -/
def fls (B : List Bool) : Nat := (B.filter (fun b => !b)).length
theorem fls_set : ∀ {B : List Bool} {k : Nat}, B[k]? = some false → fls (B.set k true) + 1 = fls B
  | [], k, h => by simp at h
  | b :: B, 0, h => by
    simp at h
    subst h
    simp [fls]
  | b :: B, k + 1, h => by
    have ih := fls_set (B := B) (k := k) (by simpa using h)
    unfold fls at ih ⊢
    rw [List.set_cons_succ, List.filter_cons, List.filter_cons]
    cases b
    · simp; omega
    · simpa using ih
/-- The ways on, one behind the other. -/
def lvL (rec : Nat → List Bool → List Bool × List Nat) : List (Option Nat) → List Bool → List Bool × List Nat
  | [], B => (B, [])
  | none :: t, B => lvL rec t B
  | some k :: t, B => if B[k]? = some false then ((lvL rec t (rec k B).1).1, (rec k B).2 ++ (lvL rec t (rec k B).1).2) else lvL rec t B
/-- The blocks in the order in which they are left, from one on. -/
def lvF (S : Nat → List (Option Nat)) : Nat → Nat → List Bool → List Bool × List Nat
  | 0, _, B => (B, [])
  | f + 1, i, B => ((lvL (lvF S f) (S i) (B.set i true)).1, (lvL (lvF S f) (S i) (B.set i true)).2 ++ [i])
theorem fls_set_le (B : List Bool) (k : Nat) : fls (B.set k true) ≤ fls B := by
  by_cases h : B[k]? = some false
  · have := fls_set h; omega
  · by_cases hk : k < B.length
    · have h1 : B[k] = true := by
        rw [List.getElem?_eq_getElem hk] at h
        cases hb : B[k]
        · rw [hb] at h; exact absurd rfl h
        · rfl
      have : B.set k true = B := by rw [← h1, List.set_getElem_self]
      rw [this]; exact Nat.le_refl _
    · rw [List.set_eq_of_length_le (by omega)]; exact Nat.le_refl _
theorem lvL_len {rec : Nat → List Bool → List Bool × List Nat} (hr : ∀ i B, (rec i B).1.length = B.length ∧ fls (rec i B).1 ≤ fls B) : ∀ (t : List (Option Nat)) (B : List Bool), (lvL rec t B).1.length = B.length ∧ fls (lvL rec t B).1 ≤ fls B
  | [], B => ⟨rfl, Nat.le_refl _⟩
  | none :: t, B => lvL_len hr t B
  | some k :: t, B => by
    unfold lvL
    split
    · have h1 := lvL_len hr t (rec k B).1
      have h2 := hr k B
      simp only
      omega
    · exact lvL_len hr t B
theorem lvF_len (S : Nat → List (Option Nat)) : ∀ (f i : Nat) (B : List Bool), (lvF S f i B).1.length = B.length ∧ fls (lvF S f i B).1 ≤ fls B
  | 0, i, B => ⟨rfl, Nat.le_refl _⟩
  | f + 1, i, B => by
    unfold lvF
    have h := lvL_len (lvF_len S f) (S i) (B.set i true)
    have := fls_set_le B i
    simp only
    rw [List.length_set] at h
    omega

/-- A step of the going with a list: the way back (its last one first), what was come to, what was left. -/
abbrev Sts := List (Nat × Nat) × List Bool × List Nat
def stpO (S : Nat → List (Option Nat)) : Sts → Sts
  | ([], B, o) => ([], B, o)
  | ((i, t) :: r, B, o) => match (S i)[t]? with
    | none => (r, B, o ++ [i])
    | some none => ((i, t + 1) :: r, B, o)
    | some (some k) => if B[k]? = some false then ((k, 0) :: (i, t + 1) :: r, B.set k true, o) else ((i, t + 1) :: r, B, o)
def itr (S : Nat → List (Option Nat)) : Nat → Sts → Sts
  | 0, s => s
  | n + 1, s => itr S n (stpO S s)
theorem itr_add (S : Nat → List (Option Nat)) : ∀ (m n : Nat) (s : Sts), itr S (m + n) s = itr S n (itr S m s)
  | 0, n, s => by rw [Nat.zero_add]; rfl
  | m + 1, n, s => by
    rw [show m + 1 + n = (m + n) + 1 from by omega]
    show itr S (m + n) (stpO S s) = itr S n (itr S m (stpO S s))
    exact itr_add S m n _
theorem itr_nil (S : Nat → List (Option Nat)) (B : List Bool) (o : List Nat) : ∀ n, itr S n ([], B, o) = ([], B, o)
  | 0 => rfl
  | n + 1 => itr_nil S B o n
theorem itr_lv (S : Nat → List (Option Nat)) : ∀ (f : Nat),
    (∀ (i : Nat) (B : List Bool) (r : List (Nat × Nat)) (o : List Nat), B[i]? = some false → fls B ≤ f → ∃ n, itr S n ((i, 0) :: r, B.set i true, o) = (r, (lvF S f i B).1, o ++ (lvF S f i B).2))
  | 0 => fun i B r o hi hf => by
    have := fls_set hi
    omega
  | f + 1 => fun i B r o hi hf => by
    have ih := itr_lv S f
    have key : ∀ (q : List (Option Nat)) (t : Nat) (B : List Bool) (o : List Nat), (S i).drop t = q → fls B ≤ f → ∃ n, itr S n ((i, t) :: r, B, o) = (r, (lvL (lvF S f) q B).1, o ++ ((lvL (lvF S f) q B).2 ++ [i])) := by
      intro q
      induction q with
      | nil =>
        intro t B o hq hB
        have hn : (S i)[t]? = none := List.getElem?_eq_none (List.drop_eq_nil_iff.1 hq)
        refine ⟨1, ?_⟩
        show stpO S ((i, t) :: r, B, o) = _
        simp only [stpO, hn, lvL, List.nil_append]
      | cons a q ihq =>
        intro t B o hq hB
        have ha : (S i)[t]? = some a := by
          have := congrArg (fun z => z[0]?) hq
          simpa using this
        have hd : (S i).drop (t + 1) = q := by
          have := congrArg (List.drop 1) hq
          rw [List.drop_drop] at this
          simpa using this
        cases a with
        | none =>
          obtain ⟨n, hn⟩ := ihq (t + 1) B o hd hB
          refine ⟨n + 1, ?_⟩
          show itr S n (stpO S ((i, t) :: r, B, o)) = _
          simp only [stpO, ha, lvL]
          exact hn
        | some k =>
          by_cases hk : B[k]? = some false
          · obtain ⟨n1, h1⟩ := ih k B ((i, t + 1) :: r) o hk hB
            have hB2 : fls (lvF S f k B).1 ≤ f := Nat.le_trans (lvF_len S f k B).2 hB
            obtain ⟨n2, h2⟩ := ihq (t + 1) (lvF S f k B).1 (o ++ (lvF S f k B).2) hd hB2
            refine ⟨(n1 + n2) + 1, ?_⟩
            show itr S (n1 + n2) (stpO S ((i, t) :: r, B, o)) = _
            have e : stpO S ((i, t) :: r, B, o) = ((k, 0) :: (i, t + 1) :: r, B.set k true, o) := by
              simp only [stpO, ha]
              rw [if_pos hk]
            rw [e, itr_add, h1, h2]
            simp only [lvL]
            rw [if_pos hk]
            simp [List.append_assoc]
          · obtain ⟨n, hn⟩ := ihq (t + 1) B o hd hB
            refine ⟨n + 1, ?_⟩
            show itr S n (stpO S ((i, t) :: r, B, o)) = _
            have e : stpO S ((i, t) :: r, B, o) = ((i, t + 1) :: r, B, o) := by
              simp only [stpO, ha]
              rw [if_neg hk]
            rw [e, hn]
            simp only [lvL]
            rw [if_neg hk]
    have hs := fls_set hi
    obtain ⟨n, hn⟩ := key (S i) 0 (B.set i true) o rfl (by omega)
    exact ⟨n, by rw [hn]; rfl⟩

/-! ### The least number of such -/
theorem lst_ex {P : Nat → Prop} : ∀ n, P n → ∃ m, P m ∧ ∀ k, P k → m ≤ k := by
  intro n
  induction n using Nat.strongRecOn with
  | _ n ih =>
    intro h
    by_cases hx : ∃ k, k < n ∧ P k
    · obtain ⟨k, hk, hp⟩ := hx
      exact ih k hk hp
    · refine ⟨n, h, fun k hk => ?_⟩
      rcases Nat.lt_or_ge k n with g | g
      · exact absurd ⟨k, g, hk⟩ hx
      · exact g
open scoped Classical in
noncomputable def lst (P : Nat → Prop) : Nat := if h : ∃ m, P m ∧ ∀ k, P k → m ≤ k then Classical.choose h else 0
theorem lst_is {P : Nat → Prop} {n : Nat} (h : P n) : P (lst P) ∧ lst P ≤ n := by
  have hx := lst_ex n h
  unfold lst
  rw [dif_pos hx]
  have := Classical.choose_spec hx
  exact ⟨this.1, this.2 n h⟩
end Go.Proofs.Ytdpfinnclnapbaa
