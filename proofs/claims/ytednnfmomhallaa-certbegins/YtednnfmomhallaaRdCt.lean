/-
  How a certificate that came in as an argument is read. No Go in it.
-/
import Derived.Test.YtednnfmomhallaaRdFr
import Derived.Test.YtednnfmomhallaaCz3
namespace Go.Proofs.Ytednnfmomhallaa
open Go.ChangeShapes Go.WideShapes Go.ChangeAt Go.RowKit

theorem cellsB1 : Try.prog.cellsOf 4 = 1 := by kernel_rfl
theorem cellsEn : Try.prog.cellsOf 42 = 28 := by kernel_rfl
theorem cellsFr : Try.prog.cellsOf 40 = 26 := by kernel_rfl
theorem bytesEn : Try.prog.bytesOf 42 = 56 := by kernel_rfl
theorem cellsEs : Try.prog.cellsOf 22 = 1 := by kernel_rfl
theorem Rd.bool {W : World} {t : TypeId} {cs : List Value} (h : Rd W t cs) (ht : Try.prog.underlying t = some .bool) : ∃ b, cs = [.bool b] := by
  obtain ⟨H, enc, fuel, x, hx, _⟩ := h
  obtain ⟨b, h1, _⟩ := DataW.trod_bool ht hx
  exact ⟨b, h1⟩
theorem Rd.entry {W : World} {ce : List Value} (h : Rd W 42 ce) (hl : ce.length = 28) : ∃ x : En, ce = enL x ∧ FrOk x.fr := by
  have h0 : Rd W 3 ((ce.drop 0).take (Try.prog.cellsOf 3)) := h.struct Try.underlying42 0 _ rfl
  have h1 : Rd W 4 ((ce.drop 1).take (Try.prog.cellsOf 4)) := h.struct Try.underlying42 1 _ rfl
  have h2 : Rd W 40 ((ce.drop 2).take (Try.prog.cellsOf 40)) := h.struct Try.underlying42 2 _ rfl
  rw [cellsI'] at h0
  rw [cellsB1] at h1
  rw [cellsFr] at h2
  obtain ⟨a, e0, ha⟩ := h0.int Try.underlying3
  obtain ⟨b, e1⟩ := h1.bool Try.underlying4
  obtain ⟨f, e2, hf⟩ := h2.frame (by simp; omega)
  refine ⟨⟨a, b, f⟩, ?_, hf⟩
  match ce, hl with
  | x :: y :: rest, hl =>
    simp at e0 e1 e2
    subst e0 e1
    unfold enL
    simp only
    rw [← e2, List.take_of_length_le (by simp at hl; omega)]
theorem Rd.entries {W : World} {cs : List Value} (h : Rd W 22 cs) : ∃ ao cap es, cs = [.slice ao (es : List En).length cap] ∧ EsAt W ao es ∧ EsOk es ∧ (ao = none → es = []) ∧ es.length * 56 ≤ 140737488351232 := by
  rcases h.slice Try.underlying22 with rfl | ⟨a, len, cap, rfl, hl, hb, hel⟩
  · exact ⟨none, 0, [], rfl, fun i x hx => by simp at hx, fun x hx => by simp at hx, fun _ => rfl, by simp⟩
  · rw [bytesEn] at hb
    have : ∀ i, i < len → ∃ x : En, W.cell? (a.add (i * 28)) = some (.int .i64 x.at_) ∧ (∀ b off, a = ⟨b, off, none⟩ → W.rangeAt b (off + i * 28) (enL x)) ∧ FrOk x.fr := by
      intro i hi
      obtain ⟨ce, h1, h2, h3⟩ := hel i hi
      rw [cellsEn] at h1 h2
      obtain ⟨x, rfl, hf⟩ := h3.entry h1
      refine ⟨x, by simpa [enL] using h2 0 (by omega), fun b off e j v hj => ?_, hf⟩
      subst e
      have hjl := (List.getElem?_eq_some_iff.1 hj).1
      have := h2 j (by omega)
      rw [Addr.add_lit] at this
      rw [Nat.add_assoc, this]
      exact hj
    obtain ⟨L, hll, hp⟩ := choose_below this
    subst hll
    refine ⟨some a, cap, L, rfl, fun i x hx => ?_, fun x hx => ?_, fun h => by simp at h, by omega⟩
    · have hi := (List.getElem?_eq_some_iff.1 hx).1
      obtain ⟨y, h1, h2, h3, _⟩ := hp i hi
      obtain ⟨y0, h10, h20, h30, _⟩ := hp 0 (by omega)
      rw [hx] at h1
      injection h1 with h1
      subst h1
      have ha : a = ⟨a.block, a.off, none⟩ := by
        have := plain_addr h20
        simpa [Addr.add] using this
      exact ⟨a.block, a.off, by rw [← ha], h3 _ _ ha⟩
    · obtain ⟨i, hi, rfl⟩ := List.getElem_of_mem hx
      obtain ⟨y, h1, _, _, h4⟩ := hp i hi
      rw [List.getElem?_eq_getElem hi] at h1
      injection h1 with h1
      rw [h1]
      exact h4
theorem Rd.cert {W : World} {ce : List Value} (h : Rd W 24 ce) (hl : ce.length = 2) : ∃ (lo : Int) (ao : Option Addr) (cap : Nat) (es : List En), ce = [.int .i64 lo, .slice ao es.length cap] ∧ (-9223372036854775808 ≤ lo ∧ lo ≤ 9223372036854775807) ∧ EsAt W ao es ∧ EsOk es ∧ (ao = none → es = []) ∧ es.length * 56 ≤ 140737488351232 := by
  have h0 : Rd W 3 ((ce.drop 0).take (Try.prog.cellsOf 3)) := h.struct Try.underlying24 0 _ rfl
  have h1 : Rd W 22 ((ce.drop 1).take (Try.prog.cellsOf 22)) := h.struct Try.underlying24 1 _ rfl
  rw [cellsI'] at h0
  rw [cellsEs] at h1
  obtain ⟨lo, e0, hb⟩ := h0.int Try.underlying3
  obtain ⟨ao, cap, es, e1, hE, ho, hn, hz⟩ := h1.entries
  refine ⟨lo, ao, cap, es, ?_, bounds_i64 hb, hE, ho, hn, hz⟩
  match ce, hl with
  | [x, y], _ =>
    simp at e0 e1
    rw [e0, e1]
end Go.Proofs.Ytednnfmomhallaa
