/-
  A piece of a text: blanks and tokens in it are those of the text; the tokens of a text as a chain. Plain.
-/
import Derived.Test.YtgnipgcligmpiaaDoorLx13
namespace Go.Proofs.YtgnipgcligmpiaaDoor
open Go.RowKit
set_option maxRecDepth 20000

theorem ba_ext {a b : ByteArray} (h : a.size = b.size) (hj : ∀ j, j < a.size → bt a j = bt b j) : a = b := by
  refine ByteArray.ext (Array.ext h fun j h1 h2 => ?_)
  have e := hj j h1
  rw [← bt_at h1, ← bt_at h2] at e
  exact UInt8.toNat_inj.1 e
theorem ext_ext {s : ByteArray} {p E q e : Nat} (hp : p ≤ q) (hq : q ≤ e) (he : e ≤ E) (hE : E ≤ s.size) : (s.extract p E).extract (q - p) (e - p) = s.extract q e := by
  have z1 := ext_sz (s := s) (i := p) (e := E) (by omega) hE
  have z2 := ext_sz (s := s.extract p E) (i := q - p) (e := e - p) (by omega) (by omega)
  have z3 := ext_sz (s := s) (i := q) (e := e) hq (by omega)
  refine ba_ext (by omega) fun j hj => ?_
  rw [ext_bt (by omega) (by omega), ext_bt (by omega) (by omega), ext_bt (by omega) (by omega)]
  congr 1
  omega
theorem pre_of {t s : ByteArray} {p : Nat} (h1 : t.size ≤ s.size - p) (h2 : ∀ j, j < t.size → bt s (p + j) = bt t j) : preD t s p = true := by
  rw [pre_ext, Bool.and_eq_true, decide_eq_true_eq, beq_iff_eq]
  refine ⟨h1, ?_⟩
  by_cases hz : t.size = 0
  · have e : s.extract p (p + t.size) = t := ba_ext (by rw [ByteArray.size_extract]; omega) (fun j hj => by rw [ByteArray.size_extract] at hj; omega)
    rw [e]
  · have e : s.extract p (p + t.size) = t := by
      have z := ext_sz (s := s) (i := p) (e := p + t.size) (by omega) (by omega)
      refine ba_ext (by omega) fun j hj => ?_
      rw [ext_bt (by omega) (by omega)]
      exact h2 j (by omega)
    rw [e]
theorem blF_no {s : ByteArray} : ∀ (f i : Nat), s.size + 1 ≤ i + f → blF s f i < s.size → blC (bt s (blF s f i)) = false ∧ ¬ (bt s (blF s f i) = 47 ∧ blF s f i + 1 < s.size ∧ bt s (blF s f i + 1) = 47)
  | 0, i, h, hl => by unfold blF at hl; omega
  | f + 1, i, h, hl => by
    have e : blF s (f + 1) i = if i < s.size then (if blC (bt s i) = true then blF s f (i + 1) else if bt s i = 47 ∧ i + 1 < s.size ∧ bt s (i + 1) = 47 then blF s f (enD rmC s i) else i) else i := rfl
    rw [e] at hl ⊢
    by_cases h1 : i < s.size
    · rw [if_pos h1] at hl ⊢
      by_cases h2 : blC (bt s i) = true
      · rw [if_pos h2] at hl ⊢
        exact blF_no f (i + 1) (by omega) hl
      · rw [if_neg h2] at hl ⊢
        by_cases h3 : bt s i = 47 ∧ i + 1 < s.size ∧ bt s (i + 1) = 47
        · rw [if_pos h3] at hl ⊢
          have := rem_gt h3
          exact blF_no f _ (by omega) hl
        · rw [if_neg h3]
          exact ⟨by simpa using h2, h3⟩
    · rw [if_neg h1] at hl; omega
theorem blD_no {s : ByteArray} {i q : Nat} (h : blD s i = q) (hq : q < s.size) : blC (bt s q) = false ∧ ¬ (bt s q = 47 ∧ q + 1 < s.size ∧ bt s (q + 1) = 47) := by
  subst h
  exact blF_no _ _ (by omega) hq
theorem en_ext {p : Int → Bool} {s : ByteArray} {i e a E : Nat} (h : enD p s i = e) (hi : i ≤ s.size) (ha : a ≤ i) (he : e ≤ E) (hE : E ≤ s.size) : enD p (s.extract a E) (i - a) = e - a := by
  have hh := enD_end (p := p) (s := s) (i := i) hi
  rw [h] at hh
  have z := ext_sz (s := s) (i := a) (e := E) (by have := hh.ge; omega) hE
  have := hh.ge
  refine enD_is ⟨by omega, by omega, fun j h1 h2 => ?_, fun h1 => ?_⟩
  · rw [ext_bt hE (by omega)]
    exact hh.all _ (by omega) (by omega)
  · rw [ext_bt hE (by omega), show a + (e - a) = e by omega]
    exact hh.no (by omega)
theorem bl_ext {s : ByteArray} {a E q : Nat} (hE : E ≤ s.size) (hq : q ≤ E) : ∀ n i, q - i ≤ n → a ≤ i → blD s i = q → blD (s.extract a E) (i - a) = q - a := by
  intro n
  induction n with
  | zero =>
    intro i hn ha h
    have hg := blD_ge s i
    have hiq : i = q := by omega
    subst hiq
    have z := ext_sz (s := s) (i := a) (e := E) (by omega) hE
    by_cases hi : i < E
    · obtain ⟨n1, n2⟩ := blD_no h (by omega)
      refine blD_stop (by omega) ?_ ?_
      · rw [ext_bt hE (by omega), show a + (i - a) = i by omega]; exact n1
      · intro ⟨r1, r2, r3⟩
        rw [ext_bt hE (by omega), show a + (i - a) = i by omega] at r1
        rw [ext_bt hE (by omega), show a + (i - a + 1) = i + 1 by omega] at r3
        exact n2 ⟨r1, by omega, r3⟩
    · exact blD_end (by omega)
  | succ n ih =>
    intro i hn ha h
    have hg := blD_ge s i
    by_cases hiq : i = q
    · exact ih i (by omega) ha h
    · have z := ext_sz (s := s) (i := a) (e := E) (by omega) hE
      have hi : i < s.size := by omega
      have hlt : i < q := by omega
      by_cases hb : blC (bt s i) = true
      · rw [blD_blank hi hb] at h
        rw [blD_blank (s := s.extract a E) (i := i - a) (by omega) (by rw [ext_bt hE (by omega), show a + (i - a) = i by omega]; exact hb), show i - a + 1 = i + 1 - a by omega]
        exact ih (i + 1) (by omega) (by omega) h
      · by_cases hr : bt s i = 47 ∧ i + 1 < s.size ∧ bt s (i + 1) = 47
        · obtain ⟨r1, r2⟩ := rem_gt hr
          rw [blD_rem hr] at h
          have hg2 := blD_ge s (enD rmC s i)
          have hr' : bt (s.extract a E) (i - a) = 47 ∧ (i - a) + 1 < (s.extract a E).size ∧ bt (s.extract a E) (i - a + 1) = 47 := by
            refine ⟨?_, by omega, ?_⟩
            · rw [ext_bt hE (by omega), show a + (i - a) = i by omega]; exact hr.1
            · rw [ext_bt hE (by omega), show a + (i - a + 1) = i + 1 by omega]; exact hr.2.2
          rw [blD_rem hr', en_ext rfl (by omega) ha (by omega) hE]
          exact ih _ (by omega) (by omega) h
        · exact absurd ((blD_stop hi (by simpa using hb) hr).symm.trans h) hiq
theorem mkS_top {s : ByteArray} {p : Nat} : ∀ k j, j < k → preD (wK (25 + j)) s p = true → (wK (25 + j)).size ≤ (mkS s p k).2
  | 0, j, h, _ => by omega
  | k + 1, j, h, hp => by
    have ih := mkS_top (s := s) (p := p) k
    have e : mkS s p (k + 1) = if (mkS s p k).2 < (wK (25 + k)).size ∧ preD (wK (25 + k)) s p = true then (25 + k, (wK (25 + k)).size) else mkS s p k := rfl
    rw [e]
    by_cases hc : (mkS s p k).2 < (wK (25 + k)).size ∧ preD (wK (25 + k)) s p = true
    · rw [if_pos hc]
      by_cases hj : j = k
      · rw [hj]; exact Nat.le_refl _
      · have := ih j (by omega) hp
        simp only
        omega
    · rw [if_neg hc]
      by_cases hj : j = k
      · rw [hj] at hp ⊢
        rcases Nat.lt_or_ge (mkS s p k).2 (wK (25 + k)).size with g | g
        · exact absurd ⟨g, hp⟩ hc
        · exact g
      · exact ih j (by omega) hp
theorem mkS_same {s T : ByteArray} {p q : Nat} : ∀ k, (∀ j, j < k → preD (wK (25 + j)) T q = preD (wK (25 + j)) s p) → mkS T q k = mkS s p k
  | 0, _ => rfl
  | k + 1, h => by
    have ih := mkS_same k (fun j hj => h j (by omega))
    unfold mkS
    rw [ih, h k (by omega)]
theorem pre_piece {t s : ByteArray} {a E q : Nat} (hE : E ≤ s.size) (ha : a ≤ q) (hq : q ≤ E) (hle : preD t s q = true → q + t.size ≤ E) : preD t (s.extract a E) (q - a) = preD t s q := by
  have z := ext_sz (s := s) (i := a) (e := E) (by omega) hE
  rw [Bool.eq_iff_iff]
  constructor
  · intro h
    have hb := pre_byte h
    rw [pre_ext, Bool.and_eq_true, decide_eq_true_eq] at h
    refine pre_of (by omega) fun j hj => ?_
    have := hb j hj
    rw [ext_bt hE (by omega), show a + (q - a + j) = q + j by omega] at this
    exact this
  · intro h
    have hl := hle h
    have hb := pre_byte h
    refine pre_of (by omega) fun j hj => ?_
    rw [ext_bt hE (by omega), show a + (q - a + j) = q + j by omega]
    exact hb j hj
/-- A token moved. -/
def shT (x : Tk) (d : Nat) : Tk := ⟨x.k, x.a - d, x.e - d, x.n, x.t⟩
theorem on_ext {s : ByteArray} {a E q e : Nat} (hq : q < s.size) (h0 : onE s q = 0) (he : (onT s q).e = (e : Int)) (ha : a ≤ q) (heE : e ≤ E) (hE : E ≤ s.size) :
    onE (s.extract a E) (q - a) = 0 ∧ onT (s.extract a E) (q - a) = shT (onT s q) a := by
  obtain ⟨e', he', hq1, hq2⟩ := on_end hq h0
  have hee : e' = e := by omega
  subst hee
  have z := ext_sz (s := s) (i := a) (e := E) (by omega) hE
  have hb : bt (s.extract a E) (q - a) = bt s q := by rw [ext_bt hE (by omega), show a + (q - a) = q by omega]
  unfold onE onT
  rw [hb]
  unfold onE at h0
  unfold onT at he
  by_cases hl : ltC (bt s q) = true
  · rw [if_pos hl] at h0 he ⊢
    rw [if_pos hl, if_pos hl]
    unfold woE at h0
    unfold woT at he
    have hr := enD_end (p := wdC) (s := s) (i := q) (by omega)
    generalize hv : enD wdC s q = v at h0 he hr
    have hve : v = e' := by
      by_cases h1 : (kdD (s.extract q v)).2 = true
      · rw [if_pos h1] at he; simp only at he; omega
      · rw [if_neg h1] at h0 he
        by_cases h2 : nameB (s.extract q v) = true
        · rw [if_pos h2] at he; simp only at he; omega
        · rw [if_neg h2] at h0; cases h0
    subst hve
    unfold woE woT
    rw [en_ext hv (by omega) ha heE hE, ext_ext ha (by omega) heE hE, hv]
    refine ⟨h0, ?_⟩
    by_cases h1 : (kdD (s.extract q v)).2 = true
    · rw [if_pos h1, if_pos h1]; unfold shT; simp only; congr 1 <;> omega
    · rw [if_neg h1] at h0
      rw [if_neg h1, if_neg h1]
      by_cases h2 : nameB (s.extract q v) = true
      · rw [if_pos h2, if_pos h2]; unfold shT; simp only; congr 1 <;> omega
      · rw [if_neg h2] at h0; cases h0
  · rw [if_neg hl] at h0 he ⊢
    rw [if_neg hl, if_neg hl]
    by_cases hd : dgC (bt s q) = true
    · rw [if_pos hd] at h0 he ⊢
      rw [if_pos hd, if_pos hd]
      unfold nmE at h0
      unfold nmT at he
      generalize hv : enD dgC s q = v at h0 he
      by_cases h1 : nuB (s.extract q v) = true ∧ enD ltC s v = v
      · rw [if_pos h1] at he
        simp only at he
        have hve : v = e' := by omega
        subst hve
        unfold nmE nmT
        rw [en_ext hv (by omega) ha heE hE, ext_ext ha (by omega) heE hE, hv]
        have h2 : nuB (s.extract q v) = true ∧ enD ltC (s.extract a E) (v - a) = v - a := ⟨h1.1, en_ext h1.2 (by omega) (by omega) heE hE⟩
        rw [if_pos h2, if_pos h2, if_pos h1]
        refine ⟨rfl, ?_⟩
        unfold shT; simp only; congr 1 <;> omega
      · rw [if_neg h1] at h0; cases h0
    · rw [if_neg hd] at h0 he ⊢
      rw [if_neg hd, if_neg hd]
      unfold mkE at h0
      unfold mkT at he
      by_cases h1 : (mkS s q 25).2 = 0
      · rw [if_pos h1] at h0; cases h0
      · rw [if_neg h1] at he
        simp only at he
        have hm : mkS (s.extract a E) (q - a) 25 = mkS s q 25 := mkS_same 25 fun j hj => pre_piece hE ha (by omega) fun hp => by have := mkS_top 25 j hj hp; omega
        unfold mkE mkT
        rw [hm]
        clear hm
        generalize mkS s q 25 = mm at h0 h1 he ⊢
        rw [if_neg h1, if_neg h1, if_neg h1]
        refine ⟨rfl, ?_⟩
        unfold shT; simp only; congr 1 <;> omega
end Go.Proofs.YtgnipgcligmpiaaDoor
