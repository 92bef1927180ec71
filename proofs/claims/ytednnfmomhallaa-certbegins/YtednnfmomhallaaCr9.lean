/-
  The contracts of provisoref06's after, IsCode and Head. Conditions: lengths fit.
-/
import Derived.Test.YtednnfmomhallaaCr4
namespace Go.Proofs.Ytednnfmomhallaa
open Go.RowKit

theorem refAfter_any (p ahead : Int) (w : World) : Calls Try.prog 21 #[.int .i64 p, .int .i64 ahead] w fun e w' => e = .returned (.int .i64 (aftD p ahead)) ∧ w' = w := by
  unfold aftD
  go_enter Try.func21, Try.ntmps21
  by_cases h1 : p < 0
  · rw [if_pos (Or.inl h1)]
    go_wp2
    go_ret
    exact ⟨rfl, rfl⟩
  · by_cases h2 : 4095 < p
    · have j2 : p > 4095 := h2
      rw [if_pos (Or.inr h2)]
      go_wp2
      go_ret
      exact ⟨rfl, rfl⟩
    · have j2 : ¬ p > 4095 := h2
      rw [if_neg (by omega)]
      by_cases h3 : p = ahead
      · have b3 : (p == ahead) = true := beq_iff_eq.2 h3
        rw [if_pos h3]
        clear h3
        go_wp2
        go_ret
        exact ⟨rfl, rfl⟩
      · have b3 : (p == ahead) = false := beq_f h3
        rw [if_neg h3]
        by_cases h4 : p < ahead
        · rw [if_pos h4]
          go_wp2
          go_ret
          exact ⟨rfl, rfl⟩
        · rw [if_neg h4]
          go_wp2
          go_ret
          exact ⟨rfl, rfl⟩
theorem refIsCode_any (t : Int) (w : World) : Calls Try.prog 33 #[.int .u8 t] w fun e w' => e = .returned (.bool (isCd t)) ∧ w' = w := by
  unfold isCd
  go_enter Try.func33, Try.ntmps33
  by_cases h1 : t ≤ 5
  · go_wp2
    go_ret
    exact ⟨by simp [h1], rfl⟩
  · by_cases h2 : 16 ≤ t
    · have j2 : t ≥ 16 := h2
      by_cases h3 : t ≤ 47
      · go_wp2
        go_ret
        exact ⟨by simp, rfl⟩
      · go_wp2
        go_ret
        exact ⟨by simp [h1]; omega, rfl⟩
    · have j2 : ¬ t ≥ 16 := h2
      go_wp2
      go_ret
      exact ⟨by simp [h1]; omega, rfl⟩
/-- What Head answers. -/
def hdV (L : List UInt8) : Value := if (hdE L).2 = 0 then .tuple #[.int .i64 (at8 L 3), .int .i64 (wdD L 4), .int .i64 0, .int .i64 0] else .tuple #[.int .i64 0, .int .i64 0, .int .i64 ((hdE L).1 : Int), .int .i64 (hdE L).2]
theorem hdV_bad {L : List UInt8} {p : Nat} {e : Int} (h : hdE L = (p, e)) (he : e ≠ 0) : hdV L = .tuple #[.int .i64 0, .int .i64 0, .int .i64 (p : Int), .int .i64 e] := by
  unfold hdV
  rw [h, if_neg he]
theorem hdV_good {L : List UInt8} {p : Nat} (h : hdE L = (p, 0)) : hdV L = .tuple #[.int .i64 (at8 L 3), .int .i64 (wdD L 4), .int .i64 0, .int .i64 0] := by
  unfold hdV
  rw [h, if_pos rfl]
theorem results_tmp4 {fn : Func} {a b c d : Tmp} (h : fn.results = #[.tmp a, .tmp b, .tmp c, .tmp d]) (tmps : Array Value) (P : Program) (w : World) :
    (results fn tmps).run P w = .ok (.tuple #[tmps.getD a undef, tmps.getD b undef, tmps.getD c undef, tmps.getD d undef]) w := by
  simp only [results, h]
  simp

end Go.Proofs.Ytednnfmomhallaa
