/-
  How lex.Scan goes over a text, plainly: what is kept from character to character.
-/
import Derived.Test.YtgnipgcligmpiaaDoorLx10
namespace Go.Proofs.YtgnipgcligmpiaaDoor
open Go.RowKit
set_option maxRecDepth 20000

theorem dec_tests {s : ByteArray} {i : Nat} (h : i < s.size) : blC ((Utf8.decode s i).1 : Int) = blC (bt s i) ∧ ltC ((Utf8.decode s i).1 : Int) = ltC (bt s i) ∧ dgC ((Utf8.decode s i).1 : Int) = dgC (bt s i) := by
  obtain ⟨h1, h2⟩ := dec_spec s i h
  rcases Nat.lt_or_ge (bt s i) 128 with g | g
  · rw [h1 g]; exact ⟨rfl, rfl, rfl⟩
  · obtain ⟨g1, _⟩ := h2 g
    unfold blC ltC dgC
    refine ⟨?_, ?_, ?_⟩ <;> (rw [decide_eq_decide]; omega)
theorem dec_one {s : ByteArray} {i : Nat} (h : i < s.size) (g : bt s i < 128) : (Utf8.decode s i).2 = 1 := by rw [(dec_spec s i h).1 g]
theorem dec_step {s : ByteArray} {i : Nat} (h : i < s.size) : 1 ≤ (Utf8.decode s i).2 ∧ i + (Utf8.decode s i).2 ≤ s.size := by
  rcases Nat.lt_or_ge (bt s i) 128 with g | g
  · rw [dec_one h g]; omega
  · obtain ⟨_, _, g3, g4, _⟩ := (dec_spec s i h).2 g
    exact ⟨g3, g4⟩
/-- Up to told the text is passed over: no character stands across it. -/
def Al (s : ByteArray) (pos told : Nat) : Prop := told = s.size ∨ bt s told < 128 ∨ ∀ q, pos ≤ q → q < told → bt s q < 128
theorem al_step {s : ByteArray} {pos told : Nat} (h : pos < told) (ht : told ≤ s.size) (ha : Al s pos told) : pos + (Utf8.decode s pos).2 ≤ told ∧ Al s (pos + (Utf8.decode s pos).2) told := by
  have hp : pos < s.size := by omega
  have mono : Al s (pos + (Utf8.decode s pos).2) told := by
    rcases ha with e | e | e
    · exact .inl e
    · exact .inr (.inl e)
    · exact .inr (.inr (fun q h1 h2 => e q (by omega) h2))
  refine ⟨?_, mono⟩
  rcases Nat.lt_or_ge (bt s pos) 128 with g | g
  · rw [dec_one hp g]; omega
  · obtain ⟨_, _, g3, g4, g5⟩ := (dec_spec s pos hp).2 g
    rcases Nat.lt_or_ge told (pos + (Utf8.decode s pos).2) with c | c
    · have := g5 told (by omega) c
      rcases ha with e | e | e
      · omega
      · omega
      · have := e pos (Nat.le_refl _) h; omega
    · exact c
structure Sc (s : ByteArray) (A : List Tk) (pos told : Nat) : Prop where
  p : pos ≤ s.size
  t : told ≤ s.size
  a : Al s pos told
  l : A.length ≤ 16384
  e : scG s 0 [] = scG s (max pos told) A
theorem Sc.start (s : ByteArray) : Sc s [] 0 0 := ⟨Nat.zero_le _, Nat.zero_le _, .inr (.inr (fun q _ h => by omega)), by simp, rfl⟩
theorem Sc.skip {s : ByteArray} {A : List Tk} {pos told : Nat} (h : Sc s A pos told) (hp : pos < told) : Sc s A (pos + (Utf8.decode s pos).2) told := by
  obtain ⟨h1, h2⟩ := al_step hp h.t h.a
  refine ⟨by have := h.t; omega, h.t, h2, h.l, ?_⟩
  rw [h.e, Nat.max_eq_right (by omega), Nat.max_eq_right h1]
theorem bl_ascii {c : Nat} (h : blC (c : Int) = true) : c < 128 := by unfold blC at h; rw [decide_eq_true_eq] at h; omega
theorem Sc.blank {s : ByteArray} {A : List Tk} {pos told : Nat} (h : Sc s A pos told) (hp : told ≤ pos) (hs : pos < s.size) (hb : blC (bt s pos) = true) : Sc s A (pos + (Utf8.decode s pos).2) told := by
  rw [dec_one hs (bl_ascii hb)]
  refine ⟨by omega, h.t, .inr (.inr (fun q h1 h2 => by omega)), h.l, ?_⟩
  rw [h.e, Nat.max_eq_left hp, Nat.max_eq_left (by omega)]
  exact scG_same (blD_blank hs hb)
theorem rm_ten {c : Nat} (h : rmC (c : Int) = false) : c = 10 := by
  unfold rmC at h
  rw [decide_eq_false_iff_not] at h
  have := Decidable.of_not_not h
  omega
theorem Sc.rem {s : ByteArray} {A : List Tk} {pos told : Nat} (h : Sc s A pos told) (hp : told ≤ pos) (hr : bt s pos = 47 ∧ pos + 1 < s.size ∧ bt s (pos + 1) = 47) : Sc s A (pos + (Utf8.decode s pos).2) (enD rmC s pos) := by
  have hs : pos < s.size := by omega
  obtain ⟨r1, r2⟩ := rem_gt hr
  rw [dec_one hs (by omega)]
  have he := enD_end (p := rmC) (s := s) (i := pos) (by omega)
  refine ⟨by omega, r2, ?_, h.l, ?_⟩
  · rcases Nat.eq_or_lt_of_le r2 with e | e
    · exact .inl e
    · have := rm_ten (he.no e)
      exact .inr (.inl (by omega))
  · rw [h.e, Nat.max_eq_left hp, Nat.max_eq_right (by omega)]
    exact scG_same (blD_rem hr)
theorem Sc.stop {s : ByteArray} {A : List Tk} {pos told : Nat} (h : Sc s A pos told) (hp : told ≤ pos) (hs : pos < s.size) (hb : blC (bt s pos) = false) (hr : ¬ (bt s pos = 47 ∧ pos + 1 < s.size ∧ bt s (pos + 1) = 47)) : blD s pos = pos ∧ scG s 0 [] = scG s pos A :=
  ⟨blD_stop hs hb hr, by rw [h.e, Nat.max_eq_left hp]⟩
theorem Sc.long {s : ByteArray} {A : List Tk} {pos : Nat} (h : blD s pos = pos ∧ scG s 0 [] = scG s pos A) (hs : pos < s.size) (hA : 16384 ≤ A.length) : scG s 0 [] = ([], pos, 4) := by
  rw [h.2, scG_long (by rw [h.1]; exact hs) hA, h.1]
theorem Sc.err {s : ByteArray} {A : List Tk} {pos : Nat} (h : blD s pos = pos ∧ scG s 0 [] = scG s pos A) (hs : pos < s.size) (hA : ¬ 16384 ≤ A.length) (he : onE s pos ≠ 0) : scG s 0 [] = ([], pos, onE s pos) := by
  rw [h.2, scG_err (by rw [h.1]; exact hs) hA (by rw [h.1]; exact he), h.1]
theorem pre_byte {t s : ByteArray} {p : Nat} (h : preD t s p = true) : ∀ j, j < t.size → bt s (p + j) = bt t j := by
  intro j hj
  rw [pre_ext, Bool.and_eq_true, decide_eq_true_eq] at h
  have h2 := h.2
  rw [beq_iff_eq, ByteArray.toList_eq, ByteArray.toList_eq] at h2
  have h3 : s.extract p (p + t.size) = t := ByteArray.ext (Array.toList_inj.1 h2)
  have h4 := ext_bt (s := s) (i := p) (e := p + t.size) (j := j) (by omega) (by omega)
  rw [h3] at h4
  exact h4.symm
theorem mk_ascii (k : Nat) : ∀ j, j < (wK k).size → bt (wK k) j < 128 := by
  rcases Nat.lt_or_ge k 50 with h | h
  · have : ∀ k, k < 50 → ∀ j, j < (wK k).size → bt (wK k) j < 128 := by decide
    exact this k h
  · have : wK k = ⟨#[]⟩ := by
      unfold wK
      rw [List.getD_eq_getElem?_getD, List.getElem?_eq_none (by have : spL.length = 50 := rfl; omega)]
      rfl
    rw [this]
    intro j hj
    exact absurd hj (Nat.not_lt_zero _)
theorem mkS_ascii {s : ByteArray} {p : Nat} : ∀ k j, j < (mkS s p k).2 → bt s (p + j) < 128
  | 0, j, h => by unfold mkS at h; simp at h
  | k + 1, j, h => by
    have ih := mkS_ascii (s := s) (p := p) k j
    unfold mkS at h
    split at h
    · rename_i g
      rw [pre_byte g.2 j h]
      exact mk_ascii _ _ h
    · exact ih h
theorem wd_ascii {c : Nat} (h : wdC (c : Int) = true) : c < 128 := by
  unfold wdC ltC dgC at h
  rw [Bool.or_eq_true, decide_eq_true_eq, decide_eq_true_eq] at h
  omega
theorem dg_ascii {c : Nat} (h : dgC (c : Int) = true) : c < 128 := by
  unfold dgC at h
  rw [decide_eq_true_eq] at h
  omega
theorem on_ascii {s : ByteArray} {q : Nat} (hq : q < s.size) (h0 : onE s q = 0) : ∃ e : Nat, (onT s q).e = (e : Int) ∧ q < e ∧ e ≤ s.size ∧ ∀ j, q ≤ j → j < e → bt s j < 128 := by
  obtain ⟨e, he, h1, h2⟩ := on_end hq h0
  refine ⟨e, he, h1, h2, ?_⟩
  unfold onE at h0
  unfold onT at he
  by_cases hl : ltC (bt s q) = true
  · rw [if_pos hl] at h0 he
    have hr := enD_end (p := wdC) (s := s) (i := q) (by omega)
    unfold woE at h0
    unfold woT at he
    have e1 : e = enD wdC s q := by
      by_cases h1 : (kdD (s.extract q (enD wdC s q))).2 = true
      · rw [if_pos h1] at he; simp only at he; omega
      · rw [if_neg h1] at h0 he
        by_cases h2 : nameB (s.extract q (enD wdC s q)) = true
        · rw [if_pos h2] at he; simp only at he; omega
        · rw [if_neg h2] at h0; cases h0
    intro j g1 g2
    exact wd_ascii (hr.all j g1 (by omega))
  · rw [if_neg hl] at h0 he
    by_cases hd : dgC (bt s q) = true
    · rw [if_pos hd] at h0 he
      have hr := enD_end (p := dgC) (s := s) (i := q) (by omega)
      unfold nmE at h0
      unfold nmT at he
      by_cases h1 : nuB (s.extract q (enD dgC s q)) = true ∧ enD ltC s (enD dgC s q) = enD dgC s q
      · rw [if_pos h1] at he
        simp only at he
        intro j g1 g2
        exact dg_ascii (hr.all j g1 (by omega))
      · rw [if_neg h1] at h0; cases h0
    · rw [if_neg hd] at h0 he
      unfold mkE at h0
      unfold mkT at he
      by_cases h1 : (mkS s q 25).2 = 0
      · rw [if_pos h1] at h0; cases h0
      · rw [if_neg h1] at he
        simp only at he
        intro j g1 g2
        have := mkS_ascii (s := s) (p := q) 25 (j - q) (by omega)
        rw [show q + (j - q) = j by omega] at this
        exact this
theorem Sc.tok {s : ByteArray} {A : List Tk} {pos : Nat} (h : blD s pos = pos ∧ scG s 0 [] = scG s pos A) (hs : pos < s.size) (hA : ¬ 16384 ≤ A.length) (h0 : onE s pos = 0) : ∃ e : Nat, (onT s pos).e = (e : Int) ∧ Sc s (A ++ [onT s pos]) (pos + (Utf8.decode s pos).2) e := by
  obtain ⟨e, he, h1, h2, h3⟩ := on_ascii hs h0
  refine ⟨e, he, ?_⟩
  rw [dec_one hs (h3 pos (Nat.le_refl _) h1)]
  refine ⟨by omega, h2, .inr (.inr (fun q g1 g2 => h3 q (by omega) g2)), by simp; omega, ?_⟩
  rw [h.2, Nat.max_eq_right (by omega)]
  have e1 := scG_tok (s := s) (p := pos) (e := e) (l := A) (by rw [h.1]; exact hs) hA (by rw [h.1]; exact h0) (by rw [h.1]; exact he)
  rw [h.1] at e1
  exact e1
theorem Sc.fin {s : ByteArray} {A : List Tk} {pos told : Nat} (h : Sc s A pos told) (hs : ¬ pos < s.size) : scG s 0 [] = (A, 0, 0) := by
  rw [h.e]
  exact scG_end (by have := blD_ge s (max pos told); have := Nat.le_max_left pos told; omega)
end Go.Proofs.YtgnipgcligmpiaaDoor
