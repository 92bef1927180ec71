/-
  How a row of types that came in as an argument is read. No Go in it.
-/
import Derived.Test.YtgelbihdcfgjcaaDoorRd
import Derived.Test.YtgelbihdcfgjcaaDoorJFR
namespace Go.Proofs.YtgelbihdcfgjcaaDoor
open Go.ChangeShapes Go.WideShapes Go.ChangeAt Go.RowKit
set_option maxRecDepth 20000

theorem cellsTyR : Tryd.prog.cellsOf 35 = 1 := by kernel_rfl
theorem bytesTyR : Tryd.prog.bytesOf 35 = 1 := by kernel_rfl
theorem Rd.types {W : World} {cs : List Value} (h : Rd W 34 cs) : ∃ ao cap l, cs = [.slice ao (l : List Nat).length cap] ∧ PAt W ao l ∧ (ao = none → l = []) ∧ (∀ t ∈ l, t < 256) ∧ l.length ≤ 140737488351232 := by
  rcases h.slice Tryd.underlying34 with rfl | ⟨a, len, cap, rfl, hl, hb, hel⟩
  · exact ⟨none, 0, [], rfl, fun i t ht => by simp at ht, fun _ => rfl, fun t ht => by simp at ht, by simp⟩
  · rw [bytesTyR] at hb
    have : ∀ i, i < len → ∃ t : Nat, W.cell? (a.add i) = some (.int .u8 (t : Int)) ∧ t < 256 := by
      intro i hi
      obtain ⟨ce, h1, h2, h3⟩ := hel i hi
      obtain ⟨n, rfl, hw⟩ := h3.int Tryd.underlying35
      have h4 := h2 0 (by rw [cellsTyR]; omega)
      rw [cellsTyR, show i * 1 + 0 = i from by omega] at h4
      have hbd := u8_bounds hw
      refine ⟨n.toNat, ?_, by omega⟩
      rw [h4, Int.toNat_of_nonneg hbd.1]
      rfl
    obtain ⟨l, hll, hp⟩ := choose_below this
    subst hll
    refine ⟨some a, cap, l, rfl, ?_, fun h => by simp at h, fun t ht => ?_, by omega⟩
    · intro i t ht
      have hi := (List.getElem?_eq_some_iff.1 ht).1
      obtain ⟨x, h1, h2, _⟩ := hp i hi
      obtain ⟨x0, h10, h20, _⟩ := hp 0 (by omega)
      have ha : a = ⟨a.block, a.off, none⟩ := by
        have := plain_addr h20
        simpa [Addr.add] using this
      refine ⟨a.block, a.off, by rw [← ha], ?_⟩
      rw [ha, Addr.add_lit] at h2
      rw [ht] at h1
      injection h1 with h1
      rw [h2, h1]
    · obtain ⟨i, hi, rfl⟩ := List.getElem_of_mem ht
      obtain ⟨x, h1, _, h3⟩ := hp i hi
      rw [List.getElem?_eq_getElem hi] at h1
      injection h1 with h1
      rw [h1]; exact h3
end Go.Proofs.YtgelbihdcfgjcaaDoor
