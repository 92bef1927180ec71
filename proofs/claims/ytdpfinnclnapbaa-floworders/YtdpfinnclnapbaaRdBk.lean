/-
  How a row of blocks that came in as an argument is read. No Go in it.
-/
import Derived.Test.YtdpfinnclnapbaaRd
import Derived.Test.YtdpfinnclnapbaaBk6
namespace Go.Proofs.Ytdpfinnclnapbaa
open Go.ChangeShapes Go.WideShapes Go.ChangeAt Go.RowKit

theorem cellsJr : Try.prog.cellsOf 3 = 1 := by kernel_rfl
theorem bytesJr : Try.prog.bytesOf 3 = 8 := by kernel_rfl
theorem cellsJs : Try.prog.cellsOf 23 = 1 := by kernel_rfl
theorem cellsBk : Try.prog.cellsOf 25 = 3 := by kernel_rfl
theorem bytesBk : Try.prog.bytesOf 25 = 40 := by kernel_rfl
theorem Rd.ints {W : World} {cs : List Value} (h : Rd W 23 cs) : ∃ ao cap l, cs = [.slice ao (l : List Int).length cap] ∧ JsAt W ao l ∧ (ao = none → l = []) ∧ (∀ a ∈ l, -9223372036854775808 ≤ a ∧ a ≤ 9223372036854775807) ∧ l.length ≤ 17592186043904 := by
  rcases h.slice Try.underlying23 with rfl | ⟨a, len, cap, rfl, hl, hb, hel⟩
  · exact ⟨none, 0, [], rfl, fun i t ht => by simp at ht, fun _ => rfl, fun t ht => by simp at ht, by simp⟩
  · rw [bytesJr] at hb
    have : ∀ i, i < len → ∃ t : Int, W.cell? (a.add i) = some (.int .i64 t) ∧ (-9223372036854775808 ≤ t ∧ t ≤ 9223372036854775807) := by
      intro i hi
      obtain ⟨ce, h1, h2, h3⟩ := hel i hi
      obtain ⟨n, rfl, hw⟩ := h3.int Try.underlying3
      have h4 := h2 0 (by rw [cellsJr]; omega)
      rw [cellsJr, show i * 1 + 0 = i from by omega] at h4
      exact ⟨n, h4, bounds_i64 hw⟩
    obtain ⟨l, hll, hp⟩ := choose_below this
    subst hll
    refine ⟨some a, cap, l, rfl, ?_, fun h => by simp at h, fun t ht => ?_, by omega⟩
    · intro i t ht
      have hi := (List.getElem?_eq_some_iff.1 ht).1
      obtain ⟨x, h1, h2, _⟩ := hp i hi
      obtain ⟨x0, h10, h20, _⟩ := hp 0 (by omega)
      have ha : a = ⟨a.block, a.off, none⟩ := by
        have := plain_addr h20
        simpa [Addr.add] using this
      refine ⟨a.block, a.off, by rw [← ha], ?_⟩
      rw [ha, Addr.add_lit] at h2
      rw [ht] at h1
      injection h1 with h1
      rw [h2, h1]
    · obtain ⟨i, hi, rfl⟩ := List.getElem_of_mem ht
      obtain ⟨x, h1, _, h3⟩ := hp i hi
      rw [List.getElem?_eq_getElem hi] at h1
      injection h1 with h1
      rw [h1]; exact h3
/-- What is known of a block that came in. -/
structure BkOk (y : Bx) : Prop where
  nn : y.no = none → y.nx = []
  fb : -9223372036854775808 ≤ y.fr ∧ y.fr ≤ 9223372036854775807
  nb : ∀ a ∈ y.nx, -9223372036854775808 ≤ a ∧ a ≤ 9223372036854775807
  nl : y.nx.length ≤ 17592186043904
theorem Rd.block {W : World} {ce : List Value} (h : Rd W 25 ce) (hl : ce.length = 3) : ∃ y : Bx, ce = [.int .i64 y.fr, .int .i64 y.la, .slice y.no y.nx.length y.nc] ∧ JsAt W y.no y.nx ∧ BkOk y := by
  match ce, hl with
  | [v0, v1, v2], _ =>
    have h0 : Rd W 3 (([v0, v1, v2].drop 0).take (Try.prog.cellsOf 3)) := h.struct Try.underlying25 0 _ rfl
    have h1 : Rd W 3 (([v0, v1, v2].drop 1).take (Try.prog.cellsOf 3)) := h.struct Try.underlying25 1 _ rfl
    have h2 : Rd W 23 (([v0, v1, v2].drop 2).take (Try.prog.cellsOf 23)) := h.struct Try.underlying25 2 _ rfl
    rw [cellsJr] at h0 h1
    rw [cellsJs] at h2
    obtain ⟨f, e0, hf⟩ := h0.int Try.underlying3
    obtain ⟨g, e1, _⟩ := h1.int Try.underlying3
    obtain ⟨no, nc, nx, e2, hj, hn, hb, hz⟩ := h2.ints
    simp at e0 e1 e2
    subst e0 e1 e2
    exact ⟨⟨f, g, no, nc, nx⟩, rfl, hj, hn, bounds_i64 hf, hb, hz⟩
theorem Rd.blocks {W : World} {cs : List Value} (h : Rd W 22 cs) : ∃ ao cap L, cs = [.slice ao (L : List Bx).length cap] ∧ BksAt W ao L ∧ L.length * 40 ≤ 140737488351232 ∧ (∀ y ∈ L, BkOk y) := by
  rcases h.slice Try.underlying22 with rfl | ⟨a, len, cap, rfl, hl, hb, hel⟩
  · exact ⟨none, 0, [], rfl, fun i x hx => by simp at hx, by simp, fun y hy => by simp at hy⟩
  · rw [bytesBk] at hb
    have : ∀ i, i < len → ∃ x : Bx, W.cell? (a.add (i * 3)) = some (.int .i64 x.fr) ∧ BkOk x ∧ ∀ b off, a = ⟨b, off, none⟩ → BxAt W b (off + i * 3) x := by
      intro i hi
      obtain ⟨ce, h1, h2, h3⟩ := hel i hi
      rw [cellsBk] at h1 h2
      obtain ⟨x, rfl, hj, hok⟩ := h3.block h1
      refine ⟨x, by simpa using h2 0 (by omega), hok, fun b off e => ?_⟩
      subst e
      have g0 := h2 0 (by omega)
      have g1 := h2 1 (by omega)
      have g2 := h2 2 (by omega)
      rw [Addr.add_lit] at g0 g1 g2
      exact ⟨by simpa using g0, by simpa [Nat.add_assoc] using g1, by simpa [Nat.add_assoc] using g2, hj⟩
    obtain ⟨L, hll, hp⟩ := choose_below this
    subst hll
    refine ⟨some a, cap, L, rfl, fun i x hx => ?_, by omega, fun y hy => ?_⟩
    · have hi := (List.getElem?_eq_some_iff.1 hx).1
      obtain ⟨y, h1, h2, _, h3⟩ := hp i hi
      obtain ⟨y0, h10, h20, _, h30⟩ := hp 0 (by omega)
      rw [hx] at h1
      injection h1 with h1
      subst h1
      have ha : a = ⟨a.block, a.off, none⟩ := by
        have := plain_addr h20
        simpa [Addr.add] using this
      exact ⟨a.block, a.off, by rw [← ha], h3 _ _ ha⟩
    · obtain ⟨i, hi⟩ := List.mem_iff_getElem?.1 hy
      obtain ⟨x, h1, _, h3, _⟩ := hp i (List.getElem?_eq_some_iff.1 hi).1
      rw [hi] at h1
      injection h1 with h1
      rw [h1]
      exact h3
end Go.Proofs.Ytdpfinnclnapbaa
