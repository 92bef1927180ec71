/-
  How a slice of the law's steps 'Put' that came in as an argument is read. No Go in it.
-/
import Derived.Test.YtggaecmjadkopaaRd
namespace Go.Proofs.Ytggaecmjadkopaa
open Go.ChangeShapes Go.WideShapes Go.ChangeAt Go.RowKit

/-- A step of the script. -/
structure PutD where
  op : Int
  n : Int
  at_ : Int
  nm : ByteArray
  so : Option Addr
  sc : Nat
  bs : List UInt8

/-- What is known of a step at an address. -/
structure PutAt (W : World) (b o : Nat) (x : PutD) : Prop where
  c0 : W.cell? ⟨b, o, none⟩ = some (.int .i64 x.op)
  c1 : W.cell? ⟨b, o + 1, none⟩ = some (.int .i64 x.n)
  c2 : W.cell? ⟨b, o + 2, none⟩ = some (.int .i64 x.at_)
  c3 : W.cell? ⟨b, o + 3, none⟩ = some (.string x.nm)
  c4 : W.cell? ⟨b, o + 4, none⟩ = some (.slice x.so x.bs.length x.sc)
  bytes : BAt W x.so x.bs
  nil : x.so = none → x.bs = [] ∧ x.sc = 0
  fit : x.bs.length ≤ 140737488351232
  name : x.nm.size ≤ 140737488351232

def PutsAt (W : World) (ao : Option Addr) (L : List PutD) : Prop := ∀ i x, L[i]? = some x → ∃ b off, ao = some ⟨b, off, none⟩ ∧ PutAt W b (off + i * 5) x

theorem cellsI : Try.prog.cellsOf 3 = 1 := by kernel_rfl
theorem cellsS : Try.prog.cellsOf 9 = 1 := by kernel_rfl
theorem cellsB : Try.prog.cellsOf 22 = 1 := by kernel_rfl
theorem cellsPut : Try.prog.cellsOf 45 = 5 := by kernel_rfl
theorem bytesPut : Try.prog.bytesOf 45 = 64 := by kernel_rfl

theorem Rd.put {W : World} {ce : List Value} (h : Rd W 45 ce) (hl : ce.length = 5) :
    ∃ x : PutD, ce = [.int .i64 x.op, .int .i64 x.n, .int .i64 x.at_, .string x.nm, .slice x.so x.bs.length x.sc] ∧ BAt W x.so x.bs ∧ (x.so = none → x.bs = [] ∧ x.sc = 0) ∧ x.bs.length ≤ 140737488351232 ∧ x.nm.size ≤ 140737488351232 := by
  match ce, hl with
  | [v0, v1, v2, v3, v4], _ =>
    have h0 : Rd W 3 (([v0, v1, v2, v3, v4].drop 0).take (Try.prog.cellsOf 3)) := h.struct Try.underlying45 0 _ rfl
    have h1 : Rd W 3 (([v0, v1, v2, v3, v4].drop 1).take (Try.prog.cellsOf 3)) := h.struct Try.underlying45 1 _ rfl
    have h2 : Rd W 3 (([v0, v1, v2, v3, v4].drop 2).take (Try.prog.cellsOf 3)) := h.struct Try.underlying45 2 _ rfl
    have h3 : Rd W 9 (([v0, v1, v2, v3, v4].drop 3).take (Try.prog.cellsOf 9)) := h.struct Try.underlying45 3 _ rfl
    have h4 : Rd W 22 (([v0, v1, v2, v3, v4].drop 4).take (Try.prog.cellsOf 22)) := h.struct Try.underlying45 4 _ rfl
    rw [cellsI] at h0 h1 h2
    rw [cellsS] at h3
    rw [cellsB] at h4
    obtain ⟨a0, e0, _⟩ := h0.int Try.underlying3
    obtain ⟨a1, e1, _⟩ := h1.int Try.underlying3
    obtain ⟨a2, e2, _⟩ := h2.int Try.underlying3
    obtain ⟨s, e3, hs⟩ := h3.str Try.underlying9
    obtain ⟨so, sc, bs, e4, hb, hn, hf⟩ := h4.bytes
    simp at e0 e1 e2 e3 e4
    subst e0 e1 e2 e3 e4
    exact ⟨⟨a0, a1, a2, s, so, sc, bs⟩, rfl, hb, hn, hf, hs⟩

theorem Rd.puts {W : World} {cs : List Value} (h : Rd W 41 cs) : ∃ ao cap L, cs = [.slice ao (L : List PutD).length cap] ∧ PutsAt W ao L ∧ L.length * 64 ≤ 140737488351232 := by
  rcases h.slice Try.underlying41 with rfl | ⟨a, len, cap, rfl, hl, hb, hel⟩
  · exact ⟨none, 0, [], rfl, fun i x hx => by simp at hx, by simp⟩
  · rw [bytesPut] at hb
    have : ∀ i, i < len → ∃ x : PutD, W.cell? (a.add (i * 5)) = some (.int .i64 x.op) ∧ ∀ b off, a = ⟨b, off, none⟩ → PutAt W b (off + i * 5) x := by
      intro i hi
      obtain ⟨ce, h1, h2, h3⟩ := hel i hi
      rw [cellsPut] at h1 h2
      obtain ⟨x, rfl, hb, hn, hf, hs⟩ := h3.put h1
      refine ⟨x, by simpa using h2 0 (by omega), fun b off e => ?_⟩
      subst e
      have g0 := h2 0 (by omega)
      have g1 := h2 1 (by omega)
      have g2 := h2 2 (by omega)
      have g3 := h2 3 (by omega)
      have g4 := h2 4 (by omega)
      rw [Addr.add_lit] at g0 g1 g2 g3 g4
      refine ⟨by simpa using g0, by simpa [Nat.add_assoc] using g1, by simpa [Nat.add_assoc] using g2, by simpa [Nat.add_assoc] using g3, by simpa [Nat.add_assoc] using g4, hb, hn, hf, hs⟩
    obtain ⟨L, hll, hp⟩ := choose_below this
    subst hll
    refine ⟨some a, cap, L, rfl, fun i x hx => ?_, by omega⟩
    have hi := (List.getElem?_eq_some_iff.1 hx).1
    obtain ⟨y, h1, h2, h3⟩ := hp i hi
    obtain ⟨y0, h10, h20, h30⟩ := hp 0 (by omega)
    rw [hx] at h1
    injection h1 with h1
    subst h1
    have ha : a = ⟨a.block, a.off, none⟩ := by
      have := plain_addr h20
      simpa [Addr.add] using this
    exact ⟨a.block, a.off, by rw [← ha], h3 _ _ ha⟩

theorem PutAt.below {W w : World} {b o : Nat} {x : PutD} (h : PutAt W b o x) (hb : Below W.heap.size W w) : PutAt w b o x := by
  have hl : b < W.heap.size := World.block_lt_of_cell? W _ h.c0
  exact ⟨(hb.cell (p := ⟨b, o, none⟩) hl).trans h.c0, (hb.cell (p := ⟨b, o + 1, none⟩) hl).trans h.c1, (hb.cell (p := ⟨b, o + 2, none⟩) hl).trans h.c2, (hb.cell (p := ⟨b, o + 3, none⟩) hl).trans h.c3, (hb.cell (p := ⟨b, o + 4, none⟩) hl).trans h.c4, h.bytes.below' hb, h.nil, h.fit, h.name⟩
end Go.Proofs.Ytggaecmjadkopaa
