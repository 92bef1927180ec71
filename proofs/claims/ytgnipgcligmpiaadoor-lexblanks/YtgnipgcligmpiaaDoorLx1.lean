/-
  Characters of a source text: what a decoded one is; the contracts of lex's and the reference's small tests.
-/
import Derived.Test.YtgnipgcligmpiaaDoorMem
import Derived.WalkKit
import Derived.Laws.RangeAny
import Derived.Deep.Cut
import Derived.Deep.DeepCutAuto
namespace Go.Proofs.YtgnipgcligmpiaaDoor
open Go.RowKit
set_option maxRecDepth 20000

def blC (c : Int) : Bool := decide (c = 32 ∨ c = 9 ∨ c = 10 ∨ c = 13)
def ltC (c : Int) : Bool := decide ((97 ≤ c ∧ c ≤ 122) ∨ (65 ≤ c ∧ c ≤ 90) ∨ c = 95)
def dgC (c : Int) : Bool := decide (48 ≤ c ∧ c ≤ 57)
def wdC (c : Int) : Bool := ltC c || dgC c
def rmC (c : Int) : Bool := decide (c ≠ 10)
/-- A byte of a text. -/
def bt (s : ByteArray) (i : Nat) : Nat := (s.get! i).toNat
theorem bt_lt (s : ByteArray) (i : Nat) : bt s i < 256 := (s.get! i).toNat_lt
theorem dec_spec (s : ByteArray) (i : Nat) (h : i < s.size) :
    (bt s i < 128 → Utf8.decode s i = (bt s i, 1)) ∧ (128 ≤ bt s i → 128 ≤ (Utf8.decode s i).1 ∧ (Utf8.decode s i).1 < 2097152 ∧ 1 ≤ (Utf8.decode s i).2 ∧ i + (Utf8.decode s i).2 ≤ s.size ∧ ∀ q, i ≤ q → q < i + (Utf8.decode s i).2 → 128 ≤ bt s q) := by
  unfold Utf8.decode
  simp only [Nat.add_zero]
  constructor
  · intro hb
    have hb' : (s.get! i).toNat < 128 := hb
    rw [if_pos hb']
    rfl
  · intro hb
    have hb' : ¬ (s.get! i).toNat < 128 := by have : 128 ≤ (s.get! i).toNat := hb; omega
    rw [if_neg hb']
    have one : 128 ≤ (Utf8.runeError, 1).1 ∧ (Utf8.runeError, 1).1 < 2097152 ∧ 1 ≤ (Utf8.runeError, 1).2 ∧ i + (Utf8.runeError, 1).2 ≤ s.size ∧ ∀ q, i ≤ q → q < i + (Utf8.runeError, 1).2 → 128 ≤ bt s q := by
      refine ⟨by decide, by decide, Nat.le_refl _, by simp; omega, fun q h1 h2 => ?_⟩
      have : q = i := by simp at h2; omega
      rw [this]; exact hb
    have l0 := bt_lt s i
    have l1 := bt_lt s (i + 1)
    have l2 := bt_lt s (i + 2)
    have l3 := bt_lt s (i + 3)
    unfold bt at l0 l1 l2 l3
    split
    · rename_i h1
      simp only [Bool.and_eq_true, decide_eq_true_eq, beq_iff_eq] at h1
      split
      · refine ⟨by simpa using ‹_›, by simp; omega, by simp, by simp; omega, fun q q1 q2 => ?_⟩
        simp at q2
        rcases (show q = i ∨ q = i + 1 by omega) with e | e
        · rw [e]; exact hb
        · rw [e]; unfold bt; omega
      · exact one
    · split
      · rename_i h1
        simp only [Bool.and_eq_true, decide_eq_true_eq, beq_iff_eq] at h1
        split
        · rename_i h2
          simp only [Bool.and_eq_true, decide_eq_true_eq] at h2
          refine ⟨by simp; omega, by simp; omega, by simp, by simp; omega, fun q q1 q2 => ?_⟩
          simp at q2
          rcases (show q = i ∨ q = i + 1 ∨ q = i + 2 by omega) with e | e | e
          · rw [e]; exact hb
          · rw [e]; unfold bt; omega
          · rw [e]; unfold bt; omega
        · exact one
      · split
        · rename_i h1
          simp only [Bool.and_eq_true, decide_eq_true_eq, beq_iff_eq] at h1
          split
          · rename_i h2
            simp only [Bool.and_eq_true, decide_eq_true_eq] at h2
            refine ⟨by simp; omega, by simp; omega, by simp, by simp; omega, fun q q1 q2 => ?_⟩
            simp at q2
            rcases (show q = i ∨ q = i + 1 ∨ q = i + 2 ∨ q = i + 3 by omega) with e | e | e | e
            · rw [e]; exact hb
            · rw [e]; unfold bt; omega
            · rw [e]; unfold bt; omega
            · rw [e]; unfold bt; omega
          · exact one
        · exact one
/-! ### tests -/
theorem lexBlank_any (c : Int) (w : World) : Calls Tryd.prog 15 #[.int .i32 c] w fun e w' => e = .returned (.bool (blC c)) ∧ w' = w := by
  by_cases h32 : c = 32
  · subst h32
    go_enter Tryd.func15, Tryd.ntmps15
    go_wp2
    go_ret
    exact ⟨rfl, rfl⟩
  have b32 : (c == 32) = false := by simpa using h32
  by_cases h9 : c = 9
  · subst h9
    go_enter Tryd.func15, Tryd.ntmps15
    go_wp2
    go_ret
    exact ⟨rfl, rfl⟩
  have b9 : (c == 9) = false := by simpa using h9
  by_cases h10 : c = 10
  · subst h10
    go_enter Tryd.func15, Tryd.ntmps15
    go_wp2
    go_ret
    exact ⟨rfl, rfl⟩
  have b10 : (c == 10) = false := by simpa using h10
  by_cases h13 : c = 13
  · subst h13
    go_enter Tryd.func15, Tryd.ntmps15
    go_wp2
    go_ret
    exact ⟨rfl, rfl⟩
  have b13 : (c == 13) = false := by simpa using h13
  have hd : blC c = false := by unfold blC; simp; omega
  rw [hd]
  clear hd
  go_enter Tryd.func15, Tryd.ntmps15
  go_wp2
  go_ret
  exact ⟨rfl, rfl⟩
theorem refBlank_any (c : Int) (w : World) : Calls Tryd.prog 30 #[.int .u8 c] w fun e w' => e = .returned (.bool (blC c)) ∧ w' = w := by
  by_cases h32 : c = 32
  · subst h32
    go_enter Tryd.func30, Tryd.ntmps30
    go_wp2
    go_ret
    exact ⟨rfl, rfl⟩
  have b32 : (c == 32) = false := by simpa using h32
  by_cases h9 : c = 9
  · subst h9
    go_enter Tryd.func30, Tryd.ntmps30
    go_wp2
    go_ret
    exact ⟨rfl, rfl⟩
  have b9 : (c == 9) = false := by simpa using h9
  by_cases h10 : c = 10
  · subst h10
    go_enter Tryd.func30, Tryd.ntmps30
    go_wp2
    go_ret
    exact ⟨rfl, rfl⟩
  have b10 : (c == 10) = false := by simpa using h10
  by_cases h13 : c = 13
  · subst h13
    go_enter Tryd.func30, Tryd.ntmps30
    go_wp2
    go_ret
    exact ⟨rfl, rfl⟩
  have b13 : (c == 13) = false := by simpa using h13
  have hd : blC c = false := by unfold blC; simp; omega
  rw [hd]
  clear hd
  go_enter Tryd.func30, Tryd.ntmps30
  go_wp2
  go_ret
  exact ⟨rfl, rfl⟩
theorem lexDigit_any (c : Int) (w : World) : Calls Tryd.prog 27 #[.int .i32 c] w fun e w' => e = .returned (.bool (dgC c)) ∧ w' = w := by
  by_cases h1 : 48 ≤ c
  · by_cases h2 : c ≤ 57
    · have hd : dgC c = true := by unfold dgC; simp; try omega
      rw [hd]
      clear hd
      go_enter Tryd.func27, Tryd.ntmps27
      go_wp2
      go_ret
      exact ⟨rfl, rfl⟩
    · have hd : dgC c = false := by unfold dgC; simp; try omega
      rw [hd]
      clear hd
      go_enter Tryd.func27, Tryd.ntmps27
      go_wp2
      go_ret
      exact ⟨rfl, rfl⟩
  · have hd : dgC c = false := by unfold dgC; simp; try omega
    rw [hd]
    clear hd
    go_enter Tryd.func27, Tryd.ntmps27
    go_wp2
    go_ret
    exact ⟨rfl, rfl⟩
theorem refDigit_any (c : Int) (w : World) : Calls Tryd.prog 35 #[.int .u8 c] w fun e w' => e = .returned (.bool (dgC c)) ∧ w' = w := by
  by_cases h1 : 48 ≤ c
  · by_cases h2 : c ≤ 57
    · have hd : dgC c = true := by unfold dgC; simp; try omega
      rw [hd]
      clear hd
      go_enter Tryd.func35, Tryd.ntmps35
      go_wp2
      go_ret
      exact ⟨rfl, rfl⟩
    · have hd : dgC c = false := by unfold dgC; simp; try omega
      rw [hd]
      clear hd
      go_enter Tryd.func35, Tryd.ntmps35
      go_wp2
      go_ret
      exact ⟨rfl, rfl⟩
  · have hd : dgC c = false := by unfold dgC; simp; try omega
    rw [hd]
    clear hd
    go_enter Tryd.func35, Tryd.ntmps35
    go_wp2
    go_ret
    exact ⟨rfl, rfl⟩
theorem lexLetter_any (c : Int) (w : World) : Calls Tryd.prog 25 #[.int .i32 c] w fun e w' => e = .returned (.bool (ltC c)) ∧ w' = w := by
  by_cases h5 : c = 95
  · subst h5
    go_enter Tryd.func25, Tryd.ntmps25
    go_wp2
    go_ret
    exact ⟨rfl, rfl⟩
  have b5 : (c == 95) = false := by simpa using h5
  by_cases h1 : 97 ≤ c
  · have h3 : 65 ≤ c := by omega
    have h4 : ¬ c ≤ 90 := by omega
    by_cases h2 : c ≤ 122
    · have hd : ltC c = true := by unfold ltC; simp; try omega
      rw [hd]
      clear hd
      go_enter Tryd.func25, Tryd.ntmps25
      go_wp2
      go_ret
      exact ⟨rfl, rfl⟩
    · have hd : ltC c = false := by unfold ltC; simp; try omega
      rw [hd]
      clear hd
      go_enter Tryd.func25, Tryd.ntmps25
      go_wp2
      go_ret
      exact ⟨rfl, rfl⟩
  · by_cases h3 : 65 ≤ c
    · by_cases h4 : c ≤ 90
      · have hd : ltC c = true := by unfold ltC; simp; try omega
        rw [hd]
        clear hd
        go_enter Tryd.func25, Tryd.ntmps25
        go_wp2
        go_ret
        exact ⟨rfl, rfl⟩
      · have hd : ltC c = false := by unfold ltC; simp; try omega
        rw [hd]
        clear hd
        go_enter Tryd.func25, Tryd.ntmps25
        go_wp2
        go_ret
        exact ⟨rfl, rfl⟩
    · have hd : ltC c = false := by unfold ltC; simp; try omega
      rw [hd]
      clear hd
      go_enter Tryd.func25, Tryd.ntmps25
      go_wp2
      go_ret
      exact ⟨rfl, rfl⟩
theorem refLetter_any (c : Int) (w : World) : Calls Tryd.prog 31 #[.int .u8 c] w fun e w' => e = .returned (.bool (ltC c)) ∧ w' = w := by
  by_cases h5 : c = 95
  · subst h5
    go_enter Tryd.func31, Tryd.ntmps31
    go_wp2
    go_ret
    exact ⟨rfl, rfl⟩
  have b5 : (c == 95) = false := by simpa using h5
  by_cases h1 : 97 ≤ c
  · have h3 : 65 ≤ c := by omega
    have h4 : ¬ c ≤ 90 := by omega
    by_cases h2 : c ≤ 122
    · have hd : ltC c = true := by unfold ltC; simp; try omega
      rw [hd]
      clear hd
      go_enter Tryd.func31, Tryd.ntmps31
      go_wp2
      go_ret
      exact ⟨rfl, rfl⟩
    · have hd : ltC c = false := by unfold ltC; simp; try omega
      rw [hd]
      clear hd
      go_enter Tryd.func31, Tryd.ntmps31
      go_wp2
      go_ret
      exact ⟨rfl, rfl⟩
  · by_cases h3 : 65 ≤ c
    · by_cases h4 : c ≤ 90
      · have hd : ltC c = true := by unfold ltC; simp; try omega
        rw [hd]
        clear hd
        go_enter Tryd.func31, Tryd.ntmps31
        go_wp2
        go_ret
        exact ⟨rfl, rfl⟩
      · have hd : ltC c = false := by unfold ltC; simp; try omega
        rw [hd]
        clear hd
        go_enter Tryd.func31, Tryd.ntmps31
        go_wp2
        go_ret
        exact ⟨rfl, rfl⟩
    · have hd : ltC c = false := by unfold ltC; simp; try omega
      rw [hd]
      clear hd
      go_enter Tryd.func31, Tryd.ntmps31
      go_wp2
      go_ret
      exact ⟨rfl, rfl⟩
theorem lexWord_any (c : Int) (w : World) : Calls Tryd.prog 39 #[.int .i32 c] w fun e w' => e = .returned (.bool (wdC c)) ∧ w' = w := by
  have HL := hide (lexLetter_any c w)
  have HD := hide (lexDigit_any c w)
  cases hl : ltC c
  · have HR : Hid (wdC c = dgC c) := hide (by unfold wdC; rw [hl]; rfl)
    rw [hl] at HL
    clear hl
    go_enter Tryd.func39, Tryd.ntmps39
    go_wp2_with fail
    refine (unhide HL).mono ?_
    rintro e w1 ⟨rfl, rfl⟩
    go_wp2_with fail
    refine (unhide HD).mono ?_
    rintro e w2 ⟨rfl, rfl⟩
    go_wp2
    go_ret
    exact ⟨by rw [unhide HR]; rfl, rfl⟩
  · have HR : Hid (wdC c = true) := hide (by unfold wdC; rw [hl]; rfl)
    rw [hl] at HL
    clear hl
    go_enter Tryd.func39, Tryd.ntmps39
    go_wp2_with fail
    refine (unhide HL).mono ?_
    rintro e w1 ⟨rfl, rfl⟩
    go_wp2
    go_ret
    exact ⟨by rw [unhide HR]; rfl, rfl⟩
theorem lexRemark_any (c : Int) (w : World) : Calls Tryd.prog 18 #[.int .i32 c] w fun e w' => e = .returned (.bool (rmC c)) ∧ w' = w := by
  by_cases h : c = 10
  · subst h
    go_enter Tryd.func18, Tryd.ntmps18
    go_wp2
    go_ret
    exact ⟨rfl, rfl⟩
  · have b : (c != 10) = true := by simpa using h
    have hd : rmC c = true := by unfold rmC; simpa using h
    rw [hd]
    clear hd
    go_enter Tryd.func18, Tryd.ntmps18
    go_wp2
    go_ret
    exact ⟨rfl, rfl⟩
end Go.Proofs.YtgnipgcligmpiaaDoor
