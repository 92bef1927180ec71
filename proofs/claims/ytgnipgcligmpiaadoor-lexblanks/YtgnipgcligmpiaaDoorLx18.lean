/-
  What a token is written as; that it is scanned as that token. Plain.
-/
import Derived.Test.YtgnipgcligmpiaaDoorLx17
import Derived.Lib.ItoaNum
namespace Go.Proofs.YtgnipgcligmpiaaDoor
open Go.RowKit
set_option maxRecDepth 20000

/-- A text that is one token. -/
structure WrOk (T : ByteArray) (k n : Int) (t : ByteArray) : Prop where
  pos : 0 < T.size
  e0 : onE T 0 = 0
  t0 : onT T 0 = ⟨k, 0, (T.size : Int), n, t⟩
  nb : blC (bt T 0 : Int) = false
  nr : ¬ (bt T 0 = 47 ∧ 1 < T.size ∧ bt T 1 = 47)
def numT (n : Nat) : ByteArray := ⟨(Lib.decDigits n).toArray⟩
def wrT (x : Tk) : ByteArray := if x.k = 1 then x.t else if x.k = 2 then numT x.n.toNat else wdK x.k

set_option maxRecDepth 100000 in
theorem wK_said : ∀ k, k < 47 → 0 < (wK (3 + k)).size ∧ onE (wK (3 + k)) 0 = 0 ∧ onT (wK (3 + k)) 0 = ⟨((3 + k : Nat) : Int), 0, ((wK (3 + k)).size : Int), 0, ⟨#[]⟩⟩ ∧ blC (bt (wK (3 + k)) 0 : Int) = false ∧ ¬ (bt (wK (3 + k)) 0 = 47 ∧ 1 < (wK (3 + k)).size ∧ bt (wK (3 + k)) 1 = 47) := by
  intro k hk
  have h1 : ∀ k, k < 47 → 0 < (wK (3 + k)).size ∧ onE (wK (3 + k)) 0 = 0 ∧ blC (bt (wK (3 + k)) 0 : Int) = false ∧ ¬ (bt (wK (3 + k)) 0 = 47 ∧ 1 < (wK (3 + k)).size ∧ bt (wK (3 + k)) 1 = 47) := by decide +kernel
  have h2 : ∀ k, k < 47 → (onT (wK (3 + k)) 0).k = ((3 + k : Nat) : Int) ∧ (onT (wK (3 + k)) 0).a = 0 ∧ (onT (wK (3 + k)) 0).e = ((wK (3 + k)).size : Int) ∧ (onT (wK (3 + k)) 0).n = 0 ∧ (onT (wK (3 + k)) 0).t.size = 0 := by decide +kernel
  obtain ⟨a1, a2, a3, a4⟩ := h1 k hk
  obtain ⟨b1, b2, b3, b4, b5⟩ := h2 k hk
  refine ⟨a1, a2, ?_, a3, a4⟩
  generalize onT (wK (3 + k)) 0 = y at b1 b2 b3 b4 b5
  obtain ⟨yk, ya, ye, yn, yt⟩ := y
  simp only at b1 b2 b3 b4 b5
  have : yt = ⟨#[]⟩ := ba_ext b5 (fun j hj => by omega)
  rw [b1, b2, b3, b4, this]
theorem wr_word {k : Nat} (h1 : 3 ≤ k) (h2 : k < 50) : WrOk (wdK (k : Int)) k 0 ⟨#[]⟩ := by
  have e : wdK (k : Int) = wK (3 + (k - 3)) := by
    unfold wdK
    rw [if_pos ⟨by omega, by omega⟩, show 3 + (k - 3) = k by omega]
    rfl
  obtain ⟨a1, a2, a3, a4, a5⟩ := wK_said (k - 3) (by omega)
  rw [← e] at a1 a2 a3 a4 a5
  rw [show 3 + (k - 3) = k by omega] at a3
  exact ⟨a1, a2, a3, a4, a5⟩
theorem letter_ok {c : Nat} (h : ltC (c : Int) = true) : blC (c : Int) = false ∧ c ≠ 47 := by
  unfold ltC at h
  rw [decide_eq_true_eq] at h
  unfold blC
  rw [decide_eq_false_iff_not]
  omega
theorem digit_ok {c : Nat} (h : dgC (c : Int) = true) : blC (c : Int) = false ∧ c ≠ 47 ∧ ltC (c : Int) = false := by
  unfold dgC at h
  rw [decide_eq_true_eq] at h
  unfold blC ltC
  rw [decide_eq_false_iff_not, decide_eq_false_iff_not]
  omega
/-! ### Numbers -/
theorem bt_push {l : List UInt8} {c : UInt8} {j : Nat} (hj : j < l.length) : bt ⟨(l ++ [c]).toArray⟩ j = bt ⟨l.toArray⟩ j := by
  unfold bt
  have : (⟨(l ++ [c]).toArray⟩ : ByteArray).get! j = (⟨l.toArray⟩ : ByteArray).get! j := by
    show (l ++ [c]).toArray[j]! = l.toArray[j]!
    rw [getElem!_pos _ _ (by simp; omega), getElem!_pos _ _ (by simpa using hj)]
    simp [List.getElem_append_left hj]
  rw [this]
theorem bt_last {l : List UInt8} {c : UInt8} : bt ⟨(l ++ [c]).toArray⟩ l.length = c.toNat := by
  unfold bt
  have : (⟨(l ++ [c]).toArray⟩ : ByteArray).get! l.length = c := by
    show (l ++ [c]).toArray[l.length]! = c
    rw [getElem!_pos _ _ (by simp)]
    simp
  rw [this]
theorem nv_same {s T : ByteArray} : ∀ k, (∀ j, j < k → bt s j = bt T j) → nvD s k = nvD T k
  | 0, _ => rfl
  | k + 1, h => by
    unfold nvD
    rw [nv_same k (fun j hj => h j (by omega)), h k (by omega)]
theorem num_spec (n : Nat) : 0 < (numT n).size ∧ (∀ j, j < (numT n).size → dgC (bt (numT n) j : Int) = true) ∧ nvD (numT n) (numT n).size = n := by
  induction n using Nat.strongRecOn with
  | _ n ih =>
    unfold numT
    rw [Lib.decDigits]
    by_cases h : n < 10
    · rw [dif_pos h]
      have hb : bt ⟨[UInt8.ofNat (48 + n)].toArray⟩ 0 = 48 + n := by
        have := bt_last (l := []) (c := UInt8.ofNat (48 + n))
        simp only [List.nil_append, List.length_nil] at this
        rw [this, UInt8.toNat_ofNat']
        omega
      have hz : (⟨[UInt8.ofNat (48 + n)].toArray⟩ : ByteArray).size = 1 := rfl
      rw [hz]
      refine ⟨by omega, fun j hj => ?_, ?_⟩
      · rw [show j = 0 by omega, hb]; unfold dgC; rw [decide_eq_true_eq]; omega
      · unfold nvD nvD; rw [hb]; omega
    · rw [dif_neg h]
      obtain ⟨i1, i2, i3⟩ := ih (n / 10) (by omega)
      unfold numT at i1 i2 i3
      generalize Lib.decDigits (n / 10) = l at i1 i2 i3
      have hz : (⟨(l ++ [UInt8.ofNat (48 + n % 10)]).toArray⟩ : ByteArray).size = l.length + 1 := by show (l ++ [UInt8.ofNat (48 + n % 10)]).toArray.size = _; simp
      have hzl : (⟨l.toArray⟩ : ByteArray).size = l.length := by show l.toArray.size = _; simp
      have hb : bt ⟨(l ++ [UInt8.ofNat (48 + n % 10)]).toArray⟩ l.length = 48 + n % 10 := by
        rw [bt_last, UInt8.toNat_ofNat']
        omega
      rw [hzl] at i1 i2 i3
      rw [hz]
      refine ⟨by omega, fun j hj => ?_, ?_⟩
      · by_cases hjl : j < l.length
        · rw [bt_push hjl]; exact i2 j hjl
        · rw [show j = l.length by omega, hb]; unfold dgC; rw [decide_eq_true_eq]; omega
      · rw [nvD, nv_same l.length (T := ⟨l.toArray⟩) (fun j hj => bt_push hj), i3, hb]
        omega
theorem wr_num {n : Nat} (h : n ≤ 2147483648) : WrOk (numT n) 2 (n : Int) ⟨#[]⟩ := by
  obtain ⟨h1, h2, h3⟩ := num_spec n
  generalize numT n = T at h1 h2 h3
  have hd := h2 0 h1
  obtain ⟨d1, d2, d3⟩ := digit_ok hd
  have hall : T.extract 0 T.size = T := by
    have z := ext_sz (s := T) (i := 0) (e := T.size) (Nat.zero_le _) (Nat.le_refl _)
    refine ba_ext (by omega) fun j hj => ?_
    rw [ext_bt (Nat.le_refl _) (by omega), Nat.zero_add]
  have hE : enD dgC T 0 = T.size := enD_is ⟨Nat.zero_le _, Nat.le_refl _, fun j _ hj => h2 j hj, fun g => by omega⟩
  have hE2 : enD ltC T T.size = T.size := enD_is ⟨Nat.le_refl _, Nat.le_refl _, fun j a b => by omega, fun g => by omega⟩
  have hB : nuB T = true := by unfold nuB; rw [h3, decide_eq_true_eq]; exact h
  have hV : nuV T = n := by unfold nuV; rw [h3, if_pos h]
  refine ⟨h1, ?_, ?_, d1, fun g => d2 g.1⟩
  · unfold onE; rw [if_neg (by rw [d3]; simp), if_pos hd]; unfold nmE; rw [hE, hall, if_pos ⟨hB, hE2⟩]
  · unfold onT; rw [if_neg (by rw [d3]; simp), if_pos hd]; unfold nmT; rw [hE, hall, if_pos ⟨hB, hE2⟩, hV]; rfl
end Go.Proofs.YtgnipgcligmpiaaDoor
