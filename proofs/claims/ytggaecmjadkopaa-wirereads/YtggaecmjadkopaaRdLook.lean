/-
  How a slice of the law's steps 'Look' that came in as an argument is read. No Go in it.
-/
import Derived.Test.YtggaecmjadkopaaRd
namespace Go.Proofs.Ytggaecmjadkopaa
open Go.ChangeShapes Go.WideShapes Go.ChangeAt Go.RowKit

/-- A step of the script. -/
structure LookD where
  who : Int
  op : Int
  n : Int

/-- What is known of a step at an address. -/
structure LookAt (W : World) (b o : Nat) (x : LookD) : Prop where
  c0 : W.cell? ⟨b, o, none⟩ = some (.int .i64 x.who)
  c1 : W.cell? ⟨b, o + 1, none⟩ = some (.int .i64 x.op)
  c2 : W.cell? ⟨b, o + 2, none⟩ = some (.int .i64 x.n)
  w0 : (Lit.int .i64 x.who).wf = true
  w1 : (Lit.int .i64 x.op).wf = true
  w2 : (Lit.int .i64 x.n).wf = true

def LooksAt (W : World) (ao : Option Addr) (L : List LookD) : Prop := ∀ i x, L[i]? = some x → ∃ b off, ao = some ⟨b, off, none⟩ ∧ LookAt W b (off + i * 3) x

theorem cellsIL : Try.prog.cellsOf 3 = 1 := by kernel_rfl
theorem cellsLook : Try.prog.cellsOf 35 = 3 := by kernel_rfl
theorem bytesLook : Try.prog.bytesOf 35 = 24 := by kernel_rfl

theorem Rd.look {W : World} {ce : List Value} (h : Rd W 35 ce) (hl : ce.length = 3) :
    ∃ x : LookD, ce = [.int .i64 x.who, .int .i64 x.op, .int .i64 x.n] ∧ (Lit.int .i64 x.who).wf = true ∧ (Lit.int .i64 x.op).wf = true ∧ (Lit.int .i64 x.n).wf = true := by
  match ce, hl with
  | [v0, v1, v2], _ =>
    have h0 : Rd W 3 (([v0, v1, v2].drop 0).take (Try.prog.cellsOf 3)) := h.struct Try.underlying35 0 _ rfl
    have h1 : Rd W 3 (([v0, v1, v2].drop 1).take (Try.prog.cellsOf 3)) := h.struct Try.underlying35 1 _ rfl
    have h2 : Rd W 3 (([v0, v1, v2].drop 2).take (Try.prog.cellsOf 3)) := h.struct Try.underlying35 2 _ rfl
    rw [cellsIL] at h0 h1 h2
    obtain ⟨a0, e0, f0⟩ := h0.int Try.underlying3
    obtain ⟨a1, e1, f1⟩ := h1.int Try.underlying3
    obtain ⟨a2, e2, f2⟩ := h2.int Try.underlying3
    simp at e0 e1 e2
    subst e0 e1 e2
    exact ⟨⟨a0, a1, a2⟩, rfl, f0, f1, f2⟩

theorem Rd.looks {W : World} {cs : List Value} (h : Rd W 23 cs) : ∃ ao cap L, cs = [.slice ao (L : List LookD).length cap] ∧ LooksAt W ao L ∧ L.length * 24 ≤ 140737488351232 := by
  rcases h.slice Try.underlying23 with rfl | ⟨a, len, cap, rfl, hl, hb, hel⟩
  · exact ⟨none, 0, [], rfl, fun i x hx => by simp at hx, by simp⟩
  · rw [bytesLook] at hb
    have : ∀ i, i < len → ∃ x : LookD, W.cell? (a.add (i * 3)) = some (.int .i64 x.who) ∧ ∀ b off, a = ⟨b, off, none⟩ → LookAt W b (off + i * 3) x := by
      intro i hi
      obtain ⟨ce, h1, h2, h3⟩ := hel i hi
      rw [cellsLook] at h1 h2
      obtain ⟨x, rfl, f0, f1, f2⟩ := h3.look h1
      refine ⟨x, by simpa using h2 0 (by omega), fun b off e => ?_⟩
      subst e
      have g0 := h2 0 (by omega)
      have g1 := h2 1 (by omega)
      have g2 := h2 2 (by omega)
      rw [Addr.add_lit] at g0 g1 g2
      refine ⟨by simpa using g0, by simpa [Nat.add_assoc] using g1, by simpa [Nat.add_assoc] using g2, f0, f1, f2⟩
    obtain ⟨L, hll, hp⟩ := choose_below this
    subst hll
    refine ⟨some a, cap, L, rfl, fun i x hx => ?_, by omega⟩
    have hi := (List.getElem?_eq_some_iff.1 hx).1
    obtain ⟨y, h1, h2, h3⟩ := hp i hi
    obtain ⟨y0, h10, h20, h30⟩ := hp 0 (by omega)
    rw [hx] at h1
    injection h1 with h1
    subst h1
    have ha : a = ⟨a.block, a.off, none⟩ := by
      have := plain_addr h20
      simpa [Addr.add] using this
    exact ⟨a.block, a.off, by rw [← ha], h3 _ _ ha⟩

theorem LookAt.below {W w : World} {b o : Nat} {x : LookD} (h : LookAt W b o x) (hb : Below W.heap.size W w) : LookAt w b o x := by
  have hl : b < W.heap.size := World.block_lt_of_cell? W _ h.c0
  exact ⟨(hb.cell (p := ⟨b, o, none⟩) hl).trans h.c0, (hb.cell (p := ⟨b, o + 1, none⟩) hl).trans h.c1, (hb.cell (p := ⟨b, o + 2, none⟩) hl).trans h.c2, h.w0, h.w1, h.w2⟩
end Go.Proofs.Ytggaecmjadkopaa
