/-
  The contract of types.checkClass, where the classes ahead are right: the fault of a class ('faultD'). All that lay lies unturned.
-/
import Derived.Test.YtjccomjgmejnhaaKChkF
import Derived.Deep.RegionWith
namespace Go.Proofs.Ytjccomjgmejnhaa
open Go.RowKit

theorem lineB_step2 {T : List Cl} {n : Nat} (hn : ∀ k, k < n → parD T k < (k : Int)) {c : Nat} (hc : c < n) (hl : c < T.length) : lineB T T.length (c : Int) = c :: lineB T T.length (parD T c) := by
  rw [lineB_in hl]
  congr 1
  have := hn c hc
  exact lineB_bel this (by omega)
theorem line_same2 {T : List Cl} {n : Nat} (hp : ∀ k, k < n → parD T k < (k : Int)) (hl : n ≤ T.length) : ∀ (m : Nat) (c : Int), c < (n : Int) → c.toNat ≤ m → lineD T c = lineB T T.length c := by
  intro m
  induction m with
  | zero =>
    intro c hc hn
    by_cases h0 : 0 ≤ c
    · obtain ⟨k, rfl⟩ : ∃ k : Nat, c = (k : Int) := ⟨c.toNat, by omega⟩
      have := hp k (by omega)
      rw [lineD_step hp (by omega) (by omega), lineB_step2 hp (by omega) (by omega)]
      congr 1
      unfold lineD
      rw [lineR_out _ (by omega), lineB_out (by omega)]
    · unfold lineD
      rw [lineR_out _ (by omega), lineB_out (by omega)]
  | succ m ih =>
    intro c hc hn
    by_cases h0 : 0 ≤ c
    · obtain ⟨k, rfl⟩ : ∃ k : Nat, c = (k : Int) := ⟨c.toNat, by omega⟩
      have := hp k (by omega)
      rw [lineD_step hp (by omega) (by omega), lineB_step2 hp (by omega) (by omega), ih _ (by omega) (by omega)]
    · unfold lineD
      rw [lineR_out _ (by omega), lineB_out (by omega)]
theorem fields_same2 {T : List Cl} {n : Nat} (hl : n ≤ T.length) (h : ∀ k, k < n → faultD T k = 0) {c : Int} (hc : c < (n : Int)) : fieldsD T c = fieldsB T c := by
  unfold fieldsD fieldsB
  rw [line_same2 (prev_par hl h) hl _ c hc (Nat.le_refl _)]

end Go.Proofs.Ytjccomjgmejnhaa
