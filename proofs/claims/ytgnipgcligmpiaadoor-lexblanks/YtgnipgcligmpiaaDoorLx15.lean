/-
  The tokens of a text as a chain; the chain of a beginning; a token by itself. Plain.
-/
import Derived.Test.YtgnipgcligmpiaaDoorLx14
namespace Go.Proofs.YtgnipgcligmpiaaDoor
open Go.RowKit
set_option maxRecDepth 20000

/-- From a place on, these are the tokens. -/
def Chn (s : ByteArray) : Nat → List Tk → Prop
  | p, [] => blD s p = s.size
  | p, x :: l => ∃ q e : Nat, blD s p = q ∧ q < s.size ∧ onE s q = 0 ∧ onT s q = x ∧ x.a = (q : Int) ∧ x.e = (e : Int) ∧ q < e ∧ e ≤ s.size ∧ Chn s e l
theorem on_at {s : ByteArray} {q : Nat} (h0 : onE s q = 0) : (onT s q).a = (q : Int) := by
  unfold onE at h0
  unfold onT
  by_cases hl : ltC (bt s q) = true
  · rw [if_pos hl] at h0 ⊢
    unfold woE at h0
    unfold woT
    by_cases h1 : (kdD (s.extract q (enD wdC s q))).2 = true
    · rw [if_pos h1]
    · rw [if_neg h1] at h0 ⊢
      by_cases h2 : nameB (s.extract q (enD wdC s q)) = true
      · rw [if_pos h2]
      · rw [if_neg h2] at h0; cases h0
  · rw [if_neg hl] at h0 ⊢
    by_cases hd : dgC (bt s q) = true
    · rw [if_pos hd] at h0 ⊢
      unfold nmE at h0
      unfold nmT
      by_cases h1 : nuB (s.extract q (enD dgC s q)) = true ∧ enD ltC s (enD dgC s q) = enD dgC s q
      · rw [if_pos h1]
      · rw [if_neg h1] at h0; cases h0
    · rw [if_neg hd] at h0 ⊢
      unfold mkE at h0
      unfold mkT
      by_cases h1 : (mkS s q 25).2 = 0
      · rw [if_pos h1] at h0; cases h0
      · rw [if_neg h1]
theorem scF_chn {s : ByteArray} : ∀ (f p : Nat) (A l : List Tk), s.size < p + f → p ≤ s.size → (scF s f p A).2.2 = 0 → (scF s f p A).1 = l → ∃ m, l = A ++ m ∧ Chn s p m
  | 0, p, A, l, hf, hp, _, _ => by omega
  | f + 1, p, A, l, hf, hp, h0, hl => by
    have hle := blD_le (s := s) hp
    have hge := blD_ge s p
    unfold scF at h0 hl
    by_cases h1 : blD s p < s.size
    · rw [if_pos h1] at h0 hl
      by_cases h2 : 16384 ≤ A.length
      · rw [if_pos h2] at h0; cases h0
      · rw [if_neg h2] at h0 hl
        by_cases h3 : onE s (blD s p) = 0
        · rw [if_pos h3] at h0 hl
          obtain ⟨e, he, hg, hes⟩ := on_end h1 h3
          rw [he] at h0 hl
          obtain ⟨m, hm, hc⟩ := scF_chn f _ _ l (by simp; omega) (by simpa using hes) h0 hl
          refine ⟨onT s (blD s p) :: m, by rw [hm]; simp, _, e, rfl, h1, h3, rfl, on_at h3, he, hg, hes, by simpa using hc⟩
        · rw [if_neg h3] at h0; exact absurd h0 h3
    · rw [if_neg h1] at hl
      exact ⟨[], by simpa using hl.symm, by show blD s p = s.size; omega⟩
theorem scD_chn {s : ByteArray} (h : (scD s).2.2 = 0) : Chn s 0 (scD s).1 := by
  unfold scD at h ⊢
  by_cases hl : 65536 < s.size
  · rw [if_pos hl] at h; cases h
  · rw [if_neg hl] at h ⊢
    obtain ⟨m, hm, hc⟩ := scF_chn _ _ _ _ (by omega) (Nat.zero_le _) h rfl
    simp only [List.nil_append] at hm
    unfold scG
    rw [hm]; exact hc
theorem scD_err {s : ByteArray} (h : (scD s).2.2 ≠ 0) : (scD s).1 = [] := by
  have hf : ∀ (f p : Nat) (A : List Tk), (scF s f p A).2.2 ≠ 0 → (scF s f p A).1 = [] := by
    intro f
    induction f with
    | zero => intro p A h; exact absurd rfl h
    | succ f ih =>
      intro p A h
      unfold scF at h ⊢
      by_cases h1 : blD s p < s.size
      · rw [if_pos h1] at h ⊢
        by_cases h2 : 16384 ≤ A.length
        · rw [if_pos h2]
        · rw [if_neg h2] at h ⊢
          by_cases h3 : onE s (blD s p) = 0
          · rw [if_pos h3] at h ⊢; exact ih _ _ h
          · rw [if_neg h3]
      · rw [if_neg h1] at h; exact absurd rfl h
  unfold scD at h ⊢
  by_cases hl : 65536 < s.size
  · rw [if_pos hl]
  · rw [if_neg hl] at h ⊢; exact hf _ _ _ h
theorem chn_scG {s : ByteArray} : ∀ (m : List Tk) (p : Nat) (A : List Tk), Chn s p m → A.length + m.length ≤ 16384 → scG s p A = (A ++ m, 0, 0)
  | [], p, A, h, hl => by
    have h' : blD s p = s.size := h
    rw [scG_end (by omega)]; simp
  | x :: m, p, A, h, hl => by
    obtain ⟨q, e, hq, hqs, h0, hx, _, he, _, _, hc⟩ := h
    simp only [List.length_cons] at hl
    rw [scG_tok (e := e) (by rw [hq]; exact hqs) (by omega) (by rw [hq]; exact h0) (by rw [hq, hx]; exact he), hq, hx, chn_scG m e _ hc (by simp; omega)]
    simp
theorem chn_scD {s : ByteArray} {m : List Tk} (hs : s.size ≤ 65536) (h : Chn s 0 m) (hl : m.length ≤ 16384) : scD s = (m, 0, 0) := by
  unfold scD
  rw [if_neg (by omega), chn_scG m 0 [] h (by simpa using hl)]
  simp
theorem chn_at {s : ByteArray} : ∀ (l : List Tk) (p k : Nat) (x : Tk), Chn s p l → l[k]? = some x → ∃ q e : Nat, p ≤ q ∧ blD s q = q ∧ q < s.size ∧ onE s q = 0 ∧ onT s q = x ∧ x.a = (q : Int) ∧ x.e = (e : Int) ∧ q < e ∧ e ≤ s.size
  | [], p, k, x, _, hx => by simp at hx
  | y :: l, p, 0, x, h, hx => by
    obtain ⟨q, e, hq, hqs, h0, hy, ha, he, hqe, hes, _⟩ := h
    simp at hx
    subst hx
    have hg := blD_ge s p
    obtain ⟨n1, n2⟩ := blD_no hq hqs
    exact ⟨q, e, by omega, blD_stop hqs n1 n2, hqs, h0, hy, ha, he, hqe, hes⟩
  | y :: l, p, k + 1, x, h, hx => by
    obtain ⟨q, e, hq, hqs, h0, hy, ha, he, hqe, hes, hc⟩ := h
    have hg := blD_ge s p
    obtain ⟨q', e', h1, r⟩ := chn_at l e k x hc (by simpa using hx)
    exact ⟨q', e', by omega, r⟩
theorem sh_zero (x : Tk) : shT x 0 = x := by unfold shT; cases x; simp
theorem chn_take {s : ByteArray} : ∀ (l : List Tk) (p k : Nat) (x : Tk) (E : Nat), Chn s p l → l[k]? = some x → x.e = (E : Int) → Chn (s.extract 0 E) p (l.take (k + 1))
  | [], p, k, x, E, _, hx, _ => by simp at hx
  | y :: l, p, k, x, E, h, hx, hE => by
    obtain ⟨q, e, hq, hqs, h0, hy, ha, he, hqe, hes, hc⟩ := h
    have hes2 : e ≤ E ∧ E ≤ s.size := by
      cases k with
      | zero => simp at hx; subst hx; omega
      | succ k =>
        obtain ⟨q', e', h1, _, _, _, _, _, h2, h3, h4⟩ := chn_at l e k x hc (by simpa using hx)
        omega
    obtain ⟨g1, g2⟩ := hes2
    have z := ext_sz (s := s) (i := 0) (e := E) (Nat.zero_le _) g2
    have b := bl_ext (s := s) (a := 0) (E := E) (q := q) g2 (by omega) _ p (Nat.le_refl _) (Nat.zero_le _) hq
    have o := on_ext (s := s) (a := 0) (E := E) hqs h0 (by rw [hy]; exact he) (Nat.zero_le _) g1 g2
    simp only [Nat.sub_zero, sh_zero] at b o
    rw [List.take_succ_cons]
    refine ⟨q, e, b, by omega, o.1, o.2.trans hy, ha, he, hqe, by omega, ?_⟩
    cases k with
    | zero =>
      simp at hx; subst hx
      have : e = E := by omega
      subst this
      show blD _ e = _
      rw [blD_end (by omega)]; omega
    | succ k => exact chn_take l e k x E hc (by simpa using hx) hE
theorem one_alone {s : ByteArray} {q e : Nat} {x : Tk} (hb : blD s q = q) (hq : q < s.size) (h0 : onE s q = 0) (hx : onT s q = x) (ha : x.a = (q : Int)) (he : x.e = (e : Int)) (hqe : q < e) (hes : e ≤ s.size) (hs : s.size ≤ 65536) :
    scD (s.extract q e) = ([⟨x.k, 0, x.e - x.a, x.n, x.t⟩], 0, 0) := by
  have z := ext_sz (s := s) (i := q) (e := e) (by omega) hes
  have b := bl_ext (s := s) (a := q) (E := e) (q := q) hes (by omega) _ q (Nat.le_refl _) (Nat.le_refl _) hb
  have o := on_ext (s := s) (a := q) (E := e) hq h0 (by rw [hx]; exact he) (Nat.le_refl _) (Nat.le_refl _) hes
  rw [Nat.sub_self] at b o
  rw [hx] at o
  have e1 : shT x q = ⟨x.k, 0, x.e - x.a, x.n, x.t⟩ := by unfold shT; rw [ha]; simp
  refine chn_scD (by omega) ⟨0, e - q, b, by omega, o.1, o.2.trans e1, rfl, by simp only; omega, by omega, by omega, ?_⟩ (by simp)
  show blD _ _ = _
  rw [blD_end (by omega)]; omega
end Go.Proofs.YtgnipgcligmpiaaDoor
