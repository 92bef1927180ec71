/-
  How a frame that came in as an argument is read. No Go in it.
-/
import Derived.Test.YtkodmpcnndbngaaGreatDoorRd
import Derived.Test.YtkodmpcnndbngaaGreatDoorJFR
namespace Go.Proofs.YtkodmpcnndbngaaGreatDoor
open Go.ChangeShapes Go.WideShapes Go.ChangeAt Go.RowKit
set_option maxRecDepth 20000

theorem cellsI' : Tryz.prog.cellsOf 3 = 1 := by kernel_rfl
theorem cellsSl : Tryz.prog.cellsOf 27 = 24 := by kernel_rfl
theorem cellsT' : Tryz.prog.cellsOf 26 = 1 := by kernel_rfl
theorem Rd.slots {W : World} {cs : List Value} (h : Rd W 27 cs) : ∃ l : List Nat, cs = slV l ∧ l.length = 24 ∧ ∀ t ∈ l, t < 256 := by
  obtain ⟨H, enc, fuel, x, hx, _⟩ := h
  obtain ⟨xs, m, _, _, hl, hn, hel⟩ := DataW.trod_array Tryz.underlying27 hx
  rw [cellsSl] at hl
  have : ∀ i, i < 24 → ∃ t : Nat, cs[i]? = some (.int .u8 (t : Int)) ∧ t < 256 := by
    intro i hi
    have h1 := hel i hi
    rw [cellsT', Nat.mul_one] at h1
    have hi' : i < xs.length := by omega
    rw [List.getElem?_eq_getElem hi'] at h1
    obtain ⟨n, h2, _, h3⟩ := DataW.trod_int Tryz.underlying26 h1
    have hb := u8_bounds h3
    refine ⟨n.toNat, ?_, by omega⟩
    rw [Int.toNat_of_nonneg hb.1]
    have := congrArg (fun l : List Value => l[0]?) h2
    simpa [List.getElem?_take, List.getElem?_drop] using this
  obtain ⟨l, hll, hp⟩ := choose_below this
  refine ⟨l, ?_, hll, fun t ht => ?_⟩
  · apply List.ext_getElem?
    intro i
    by_cases hi : i < 24
    · obtain ⟨t, h1, h2, _⟩ := hp i hi
      rw [h2, slV_get h1]
    · rw [List.getElem?_eq_none (by omega), List.getElem?_eq_none (by rw [slV_length]; omega)]
  · obtain ⟨i, hi, rfl⟩ := List.getElem_of_mem ht
    obtain ⟨t, h1, _, h3⟩ := hp i (by omega)
    rw [List.getElem?_eq_getElem hi] at h1
    injection h1 with h1
    rw [h1]; exact h3
theorem Rd.frame {W : World} {ce : List Value} (h : Rd W 29 ce) (hl : ce.length = 26) : ∃ f : Fr, ce = frL f ∧ FrOk f := by
  have h0 : Rd W 3 ((ce.drop 0).take (Tryz.prog.cellsOf 3)) := h.struct Tryz.underlying29 0 _ rfl
  have h1 : Rd W 3 ((ce.drop 1).take (Tryz.prog.cellsOf 3)) := h.struct Tryz.underlying29 1 _ rfl
  have h2 : Rd W 27 ((ce.drop 2).take (Tryz.prog.cellsOf 27)) := h.struct Tryz.underlying29 2 _ rfl
  rw [cellsI'] at h0 h1
  rw [cellsSl] at h2
  obtain ⟨a, e0, ha⟩ := h0.int Tryz.underlying3
  obtain ⟨b, e1, hb⟩ := h1.int Tryz.underlying3
  obtain ⟨l, e2, hll, hlb⟩ := h2.slots
  refine ⟨⟨a, b, l⟩, ?_, ⟨hll, hlb, bounds_i64 ha, bounds_i64 hb⟩⟩
  match ce, hl with
  | x :: y :: rest, hl =>
    simp at e0 e1 e2
    subst e0 e1
    unfold frL
    simp only
    rw [← e2, List.take_of_length_le (by simp at hl; omega)]
end Go.Proofs.YtkodmpcnndbngaaGreatDoor
