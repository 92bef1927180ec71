/-
  Rows of tokens; what Scan tells, plainly.
-/
import Derived.Test.YtgnipgcligmpiaaDoorLx7
import Derived.Maps.AppendAt
namespace Go.Proofs.YtgnipgcligmpiaaDoor
open Go.RowKit
set_option maxRecDepth 20000

/-! ### Where tokens end -/
theorem mkS_fits {s : ByteArray} {p : Nat} (hp : p ≤ s.size) : ∀ k, p + (mkS s p k).2 ≤ s.size
  | 0 => by unfold mkS; simpa using hp
  | k + 1 => by
    have ih := mkS_fits hp k
    unfold mkS
    split
    · rename_i h
      have h2 := h.2
      rw [pre_ext, Bool.and_eq_true, decide_eq_true_eq] at h2
      simp only
      omega
    · exact ih
theorem run_gt {p : Int → Bool} {s : ByteArray} {i : Nat} (hi : i < s.size) (h : p (bt s i) = true) : i < enD p s i ∧ enD p s i ≤ s.size := by
  have he := enD_end (p := p) (s := s) (i := i) (by omega)
  refine ⟨?_, he.le⟩
  rcases Nat.eq_or_lt_of_le he.ge with e | e
  · have := he.no (by omega)
    rw [← e, h] at this
    cases this
  · exact e
theorem lt_word {c : Int} (h : ltC c = true) : wdC c = true := by unfold wdC; rw [h]; rfl
theorem on_end {s : ByteArray} {q : Nat} (hq : q < s.size) (h0 : onE s q = 0) : ∃ e : Nat, (onT s q).e = (e : Int) ∧ q < e ∧ e ≤ s.size := by
  unfold onE at h0
  unfold onT
  by_cases hl : ltC (bt s q) = true
  · rw [if_pos hl] at h0 ⊢
    have hr := run_gt hq (lt_word hl)
    unfold woE at h0
    unfold woT
    by_cases h1 : (kdD (s.extract q (enD wdC s q))).2 = true
    · rw [if_pos h1]; exact ⟨_, rfl, hr⟩
    · rw [if_neg h1] at h0 ⊢
      by_cases h2 : nameB (s.extract q (enD wdC s q)) = true
      · rw [if_pos h2]; exact ⟨_, rfl, hr⟩
      · rw [if_neg h2] at h0; cases h0
  · rw [if_neg hl] at h0 ⊢
    by_cases hd : dgC (bt s q) = true
    · rw [if_pos hd] at h0 ⊢
      have hr := run_gt hq hd
      unfold nmE at h0
      unfold nmT
      by_cases h1 : nuB (s.extract q (enD dgC s q)) = true ∧ enD ltC s (enD dgC s q) = enD dgC s q
      · rw [if_pos h1]; exact ⟨_, rfl, hr⟩
      · rw [if_neg h1] at h0; cases h0
    · rw [if_neg hd] at h0 ⊢
      unfold mkE at h0
      unfold mkT
      by_cases h1 : (mkS s q 25).2 = 0
      · rw [if_pos h1] at h0; cases h0
      · rw [if_neg h1]
        exact ⟨_, rfl, by omega, mkS_fits (by omega) 25⟩
theorem blF_ge {s : ByteArray} : ∀ (f i : Nat), i ≤ blF s f i
  | 0, i => Nat.le_refl _
  | f + 1, i => by
    unfold blF
    split
    · split
      · have := blF_ge (s := s) f (i + 1); omega
      · split
        · rename_i h
          have := rem_gt h
          have := blF_ge (s := s) f (enD rmC s i)
          omega
        · exact Nat.le_refl _
    · exact Nat.le_refl _
theorem blD_ge (s : ByteArray) (i : Nat) : i ≤ blD s i := blF_ge _ _

/-! ### What Scan tells -/
def scF (s : ByteArray) : Nat → Nat → List Tk → List Tk × Nat × Int
  | 0, _, l => (l, 0, 0)
  | f + 1, p, l => if blD s p < s.size then (if 16384 ≤ l.length then ([], blD s p, 4) else if onE s (blD s p) = 0 then scF s f (onT s (blD s p)).e.toNat (l ++ [onT s (blD s p)]) else ([], blD s p, onE s (blD s p))) else (l, 0, 0)
theorem scF_fuel {s : ByteArray} : ∀ (f g p : Nat) (l : List Tk), s.size < p + f → s.size < p + g → scF s f p l = scF s g p l
  | 0, 0, _, _, _, _ => rfl
  | 0, g + 1, p, l, h1, h2 => by
    unfold scF
    rw [if_neg (by have := blD_ge s p; omega)]
  | f + 1, 0, p, l, h1, h2 => by
    unfold scF
    rw [if_neg (by have := blD_ge s p; omega)]
  | f + 1, g + 1, p, l, h1, h2 => by
    unfold scF
    by_cases hq : blD s p < s.size
    · rw [if_pos hq, if_pos hq]
      by_cases hl : 16384 ≤ l.length
      · rw [if_pos hl, if_pos hl]
      · rw [if_neg hl, if_neg hl]
        by_cases h0 : onE s (blD s p) = 0
        · rw [if_pos h0, if_pos h0]
          obtain ⟨e, he, hg, _⟩ := on_end hq h0
          have := blD_ge s p
          rw [he]
          exact scF_fuel f g _ _ (by simp; omega) (by simp; omega)
        · rw [if_neg h0, if_neg h0]
    · rw [if_neg hq, if_neg hq]
def scG (s : ByteArray) (p : Nat) (l : List Tk) : List Tk × Nat × Int := scF s (s.size + 1) p l
theorem scG_same {s : ByteArray} {p q : Nat} {l : List Tk} (h : blD s p = blD s q) : scG s p l = scG s q l := by unfold scG scF; rw [h]
theorem scG_end {s : ByteArray} {p : Nat} {l : List Tk} (h : s.size ≤ blD s p) : scG s p l = (l, 0, 0) := by unfold scG scF; rw [if_neg (by omega)]
theorem scG_long {s : ByteArray} {p : Nat} {l : List Tk} (h : blD s p < s.size) (hl : 16384 ≤ l.length) : scG s p l = ([], blD s p, 4) := by unfold scG scF; rw [if_pos h, if_pos hl]
theorem scG_err {s : ByteArray} {p : Nat} {l : List Tk} (h : blD s p < s.size) (hl : ¬ 16384 ≤ l.length) (h0 : onE s (blD s p) ≠ 0) : scG s p l = ([], blD s p, onE s (blD s p)) := by unfold scG scF; rw [if_pos h, if_neg hl, if_neg h0]
theorem scG_tok {s : ByteArray} {p e : Nat} {l : List Tk} (h : blD s p < s.size) (hl : ¬ 16384 ≤ l.length) (h0 : onE s (blD s p) = 0) (he : (onT s (blD s p)).e = (e : Int)) : scG s p l = scG s e (l ++ [onT s (blD s p)]) := by
  have e1 : scG s p l = scF s s.size e (l ++ [onT s (blD s p)]) := by unfold scG; rw [scF, if_pos h, if_neg hl, if_pos h0, he]; rfl
  obtain ⟨e', he', hg, _⟩ := on_end h h0
  rw [e1]
  exact scF_fuel _ _ _ _ (by omega) (by omega)
def scD (s : ByteArray) : List Tk × Nat × Int := if 65536 < s.size then ([], 0, 4) else scG s 0 []

/-! ### Rows of tokens -/
def tcells (x : Tk) : List Value := [.int .i64 x.k, .int .i64 x.a, .int .i64 x.e, .int .i64 x.n, .string x.t]
def tvals (l : List Tk) : List Value := l.flatMap tcells
theorem tvals_length (l : List Tk) : (tvals l).length = l.length * 5 := by
  unfold tvals
  induction l with
  | nil => rfl
  | cons f l ih => rw [List.flatMap_cons, List.length_append, ih]; simp [tcells]; omega
theorem tvals_snoc (l : List Tk) (y : Tk) : tvals (l ++ [y]) = tvals l ++ tcells y := by unfold tvals; simp
theorem tcells_one (y : Tk) : ∀ u ∈ tcells y, u.oneCell' = true := by
  intro u hu
  simp only [tcells, List.mem_cons, List.mem_nil_iff, or_false] at hu
  rcases hu with rfl | rfl | rfl | rfl | rfl <;> rfl
theorem infoTk : (Tryd.prog.info? 34).map (fun i => (i.zero, i.size, i.bytes)) = some (some (.agg #[.int .i64 0, .int .i64 0, .int .i64 0, .int .i64 0, .string ⟨#[]⟩]), 5, 48) := by kernel_rfl
def OwnT (w : World) (base : Nat) (v : Value) (l : List Tk) : Prop := w.ownsRow base 34 5 v l.length (tvals l)
theorem OwnT.below {w w' : World} {base : Nat} {v : Value} {l : List Tk} (h : OwnT w base v l) (hb : Below w.heap.size w w') : OwnT w' base v l := by
  refine ⟨h.1, ?_⟩
  rcases h.2 with h1 | ⟨g, cap, cur, hv, hbg, hh, r⟩
  · exact Or.inl h1
  · exact Or.inr ⟨g, cap, cur, hv, hbg, by rw [hb.block g (Array.getElem?_eq_some_iff.1 hh).1]; exact hh, r⟩
theorem OwnT.slice {w : World} {base : Nat} {v : Value} {l : List Tk} (h : OwnT w base v l) : ∃ ao cap, v = .slice ao l.length cap := by
  rcases h.2 with ⟨h1, h2⟩ | ⟨g, cap, cur, hv, _⟩
  · exact ⟨none, 0, by rw [h1, h2]⟩
  · exact ⟨_, cap, hv⟩
end Go.Proofs.YtgnipgcligmpiaaDoor
