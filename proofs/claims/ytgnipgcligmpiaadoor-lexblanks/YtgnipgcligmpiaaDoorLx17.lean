/-
  A token written anew, with a blank or the end behind it, is scanned as that token. Plain.
-/
import Derived.Test.YtgnipgcligmpiaaDoorLx16
namespace Go.Proofs.YtgnipgcligmpiaaDoor
open Go.RowKit
set_option maxRecDepth 20000

theorem mk_noblank : ∀ k, k < 25 → ∀ j, j < (wK (25 + k)).size → blC (bt (wK (25 + k)) j : Int) = false := by decide
theorem blank_not {c : Int} (h : blC c = true) : wdC c = false ∧ dgC c = false ∧ ltC c = false ∧ c ≠ 47 := by
  unfold blC at h
  rw [decide_eq_true_eq] at h
  unfold wdC ltC dgC
  refine ⟨?_, ?_, ?_, by omega⟩
  · rw [Bool.or_eq_false_iff, decide_eq_false_iff_not, decide_eq_false_iff_not]; omega
  · rw [decide_eq_false_iff_not]; omega
  · rw [decide_eq_false_iff_not]; omega
/-- Behind a place a text ends, or a blank stands there. -/
def Bhd (s : ByteArray) (e : Nat) : Prop := e = s.size ∨ (e < s.size ∧ blC (bt s e : Int) = true)
theorem on_behind {s T : ByteArray} {q : Nat} (hx : s.extract q (q + T.size) = T) (hs : q + T.size ≤ s.size) (h1 : 0 < T.size) (hb : Bhd s (q + T.size)) (h0 : onE T 0 = 0) (he : (onT T 0).e = (T.size : Int)) :
    onE s q = 0 ∧ onT s q = ⟨(onT T 0).k, (q : Int), ((q + T.size : Nat) : Int), (onT T 0).n, (onT T 0).t⟩ := by
  have hbt : ∀ j, j < T.size → bt T j = bt s (q + j) := fun j hj => by
    have := ext_bt (s := s) (i := q) (e := q + T.size) (j := j) hs (by omega)
    rw [hx] at this; exact this
  have hall : T.extract 0 T.size = T := by
    have z := ext_sz (s := T) (i := 0) (e := T.size) (Nat.zero_le _) (Nat.le_refl _)
    refine ba_ext (by omega) fun j hj => ?_
    rw [ext_bt (Nat.le_refl _) (by omega), Nat.zero_add]
  have hn : ∀ p : Int → Bool, (∀ c, blC c = true → p c = false) → enD p T 0 = T.size → enD p s q = q + T.size := fun p hp hE => by
    have hr := enD_end (p := p) (s := T) (i := 0) (Nat.zero_le _)
    rw [hE] at hr
    refine enD_is ⟨by omega, hs, fun j g1 g2 => ?_, fun g => ?_⟩
    · have := hr.all (j - q) (Nat.zero_le _) (by omega)
      rw [hbt _ (by omega), show q + (j - q) = j by omega] at this
      exact this
    · rcases hb with e | ⟨_, e⟩
      · omega
      · exact hp _ e
  have hb0 := hbt 0 h1
  rw [Nat.add_zero] at hb0
  unfold onE onT at *
  rw [hb0] at h0 he
  rw [hb0]
  by_cases hl : ltC (bt s q) = true
  · rw [if_pos hl] at h0 he
    rw [if_pos hl, if_pos hl, if_pos hl]
    unfold woE at h0
    unfold woT at he
    have hE : enD wdC T 0 = T.size := by
      by_cases g1 : (kdD (T.extract 0 (enD wdC T 0))).2 = true
      · rw [if_pos g1] at he; simp only at he; omega
      · rw [if_neg g1] at h0 he
        by_cases g2 : nameB (T.extract 0 (enD wdC T 0)) = true
        · rw [if_pos g2] at he; simp only at he; omega
        · rw [if_neg g2] at h0; cases h0
    have hE2 := hn wdC (fun c hc => (blank_not hc).1) hE
    unfold woE woT
    rw [hE, hall] at h0
    rw [hE2, hx, hE, hall]
    refine ⟨h0, ?_⟩
    by_cases g1 : (kdD T).2 = true
    · rw [if_pos g1, if_pos g1]
    · rw [if_neg g1] at h0
      rw [if_neg g1, if_neg g1]
      by_cases g2 : nameB T = true
      · rw [if_pos g2, if_pos g2]
      · rw [if_neg g2] at h0; cases h0
  · rw [if_neg hl] at h0 he
    rw [if_neg hl, if_neg hl, if_neg hl]
    by_cases hd : dgC (bt s q) = true
    · rw [if_pos hd] at h0 he
      rw [if_pos hd, if_pos hd, if_pos hd]
      unfold nmE at h0
      unfold nmT at he
      by_cases g1 : nuB (T.extract 0 (enD dgC T 0)) = true ∧ enD ltC T (enD dgC T 0) = enD dgC T 0
      · rw [if_pos g1] at he
        simp only at he
        have hE : enD dgC T 0 = T.size := by omega
        have hE2 := hn dgC (fun c hc => (blank_not hc).2.1) hE
        rw [hE, hall] at g1
        have hE3 : enD ltC s (q + T.size) = q + T.size := enD_is ⟨Nat.le_refl _, hs, fun j a b => by omega, fun g => by
          rcases hb with e | ⟨_, e⟩
          · omega
          · exact (blank_not e).2.2.1⟩
        unfold nmE nmT
        rw [hE2, hx, hE, hall]
        rw [if_pos ⟨g1.1, hE3⟩, if_pos ⟨g1.1, hE3⟩, if_pos g1]
        exact ⟨rfl, rfl⟩
      · rw [if_neg g1] at h0; cases h0
    · rw [if_neg hd] at h0 he
      rw [if_neg hd, if_neg hd, if_neg hd]
      unfold mkE at h0
      unfold mkT at he
      have hm : mkS s q 25 = mkS T 0 25 := by
        refine mkS_same 25 fun j hj => ?_
        rw [Bool.eq_iff_iff]
        constructor
        · intro h
          have hby := pre_byte h
          rcases Nat.lt_or_ge T.size (wK (25 + j)).size with g | g
          · have e1 := hby T.size g
            have e2 := mk_noblank j hj T.size g
            rw [← e1] at e2
            rw [pre_ext, Bool.and_eq_true, decide_eq_true_eq] at h
            rcases hb with e | ⟨_, e⟩
            · omega
            · rw [e] at e2; cases e2
          · refine pre_of (by omega) fun i hi => ?_
            rw [Nat.zero_add, hbt i (by omega)]
            exact hby i hi
        · intro h
          have hby := pre_byte h
          rw [pre_ext, Bool.and_eq_true, decide_eq_true_eq] at h
          refine pre_of (by omega) fun i hi => ?_
          rw [← hbt i (by omega)]
          have := hby i hi
          rw [Nat.zero_add] at this
          exact this
      by_cases g1 : (mkS T 0 25).2 = 0
      · rw [if_pos g1] at h0; cases h0
      · rw [if_neg g1] at he
        simp only at he
        unfold mkE mkT
        rw [hm]
        clear hm
        generalize mkS T 0 25 = mm at h0 g1 he ⊢
        rw [if_neg g1, if_neg g1, if_neg g1]
        refine ⟨rfl, ?_⟩
        simp only
        congr 1
        omega
end Go.Proofs.YtgnipgcligmpiaaDoor
