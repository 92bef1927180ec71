/-
  How a signature, and a row of numbers, that came in as arguments are read. No Go in it.
-/
import Derived.Test.YtplfpcbheijdlaaRd
import Derived.Test.YtplfpcbheijdlaaRdTy
import Derived.Test.YtplfpcbheijdlaaRdCls
import Derived.Test.YtplfpcbheijdlaaMa1
namespace Go.Proofs.Ytplfpcbheijdlaa
open Go.ChangeShapes Go.WideShapes Go.ChangeAt Go.RowKit

theorem cellsTm : Try.prog.cellsOf 23 = 1 := by kernel_rfl
theorem cellsPs : Try.prog.cellsOf 22 = 1 := by kernel_rfl
theorem cellsSg : Try.prog.cellsOf 25 = 2 := by kernel_rfl
theorem bytesSg : Try.prog.bytesOf 25 = 32 := by kernel_rfl
theorem Rd.sig {W : World} {ce : List Value} (h : Rd W 25 ce) (hl : ce.length = 2) : ∃ x : Sg, ce = [.slice x.po x.ps.length x.pc, .int .u8 (x.rt : Int)] ∧ SgOk W x := by
  match ce, hl with
  | [v0, v1], _ =>
    have h0 : Rd W 22 (([v0, v1].drop 0).take (Try.prog.cellsOf 22)) := h.struct Try.underlying25 0 _ rfl
    have h1 : Rd W 23 (([v0, v1].drop 1).take (Try.prog.cellsOf 23)) := h.struct Try.underlying25 1 _ rfl
    rw [cellsPs] at h0
    rw [cellsTm] at h1
    obtain ⟨po, pc, ps, e0, hp, hn, hb, hz⟩ := h0.types
    obtain ⟨t, e1, ht⟩ := h1.type
    simp at e0 e1
    subst e0 e1
    exact ⟨⟨po, pc, ps, t⟩, rfl, hp, hn, hb, hz, ht⟩
theorem cellsJr : Try.prog.cellsOf 3 = 1 := by kernel_rfl
theorem bytesJr : Try.prog.bytesOf 3 = 8 := by kernel_rfl
theorem Rd.ints {W : World} {cs : List Value} (h : Rd W 26 cs) : ∃ ao cap l, cs = [.slice ao (l : List Int).length cap] ∧ JsAt W ao l ∧ (ao = none → l = []) ∧ (∀ a ∈ l, -9223372036854775808 ≤ a ∧ a ≤ 9223372036854775807) ∧ l.length ≤ 17592186043904 := by
  rcases h.slice Try.underlying26 with rfl | ⟨a, len, cap, rfl, hl, hb, hel⟩
  · exact ⟨none, 0, [], rfl, fun i t ht => by simp at ht, fun _ => rfl, fun t ht => by simp at ht, by simp⟩
  · rw [bytesJr] at hb
    have : ∀ i, i < len → ∃ t : Int, W.cell? (a.add i) = some (.int .i64 t) ∧ (-9223372036854775808 ≤ t ∧ t ≤ 9223372036854775807) := by
      intro i hi
      obtain ⟨ce, h1, h2, h3⟩ := hel i hi
      obtain ⟨n, rfl, hw⟩ := h3.int Try.underlying3
      have h4 := h2 0 (by rw [cellsJr]; omega)
      rw [cellsJr, show i * 1 + 0 = i from by omega] at h4
      exact ⟨n, h4, bounds_i64 hw⟩
    obtain ⟨l, hll, hp⟩ := choose_below this
    subst hll
    refine ⟨some a, cap, l, rfl, ?_, fun h => by simp at h, fun t ht => ?_, by omega⟩
    · intro i t ht
      have hi := (List.getElem?_eq_some_iff.1 ht).1
      obtain ⟨x, h1, h2, _⟩ := hp i hi
      obtain ⟨x0, h10, h20, _⟩ := hp 0 (by omega)
      have ha : a = ⟨a.block, a.off, none⟩ := by
        have := plain_addr h20
        simpa [Addr.add] using this
      refine ⟨a.block, a.off, by rw [← ha], ?_⟩
      rw [ha, Addr.add_lit] at h2
      rw [ht] at h1
      injection h1 with h1
      rw [h2, h1]
    · obtain ⟨i, hi, rfl⟩ := List.getElem_of_mem ht
      obtain ⟨x, h1, _, h3⟩ := hp i hi
      rw [List.getElem?_eq_getElem hi] at h1
      injection h1 with h1
      rw [h1]; exact h3
/-- A signature, its parts by name. -/
theorem Rd.sigP {W : World} {ce : List Value} (h : Rd W 25 ce) (hl : ce.length = 2) : ∃ (po : Option Addr) (pc : Nat) (ps : List Nat) (rt : Nat), ce = [.slice po ps.length pc, .int .u8 (rt : Int)] ∧ PAt W po ps ∧ (po = none → ps = []) ∧ ps.length ≤ 140737488351232 := by
  obtain ⟨x, e, h⟩ := h.sig hl
  exact ⟨x.po, x.pc, x.ps, x.rt, e, h.prm, h.nil, h.fit⟩
end Go.Proofs.Ytplfpcbheijdlaa
