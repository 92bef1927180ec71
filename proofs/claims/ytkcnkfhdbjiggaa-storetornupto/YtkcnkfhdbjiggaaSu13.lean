/-
  A script of calls of a store, as it lies in memory.
-/
import Derived.Test.YtkcnkfhdbjiggaaSu12
namespace Go.Proofs.Ytkcnkfhdbjiggaa
open Go.RowKit
set_option maxRecDepth 20000

structure Dn where
  op : Int
  nm : ByteArray
  ba : Option Addr
  bc : Nat
  bs : List UInt8
structure DnAt (W : World) (b o : Nat) (x : Dn) : Prop where
  c0 : W.cell? ⟨b, o, none⟩ = some (.int .i64 x.op)
  c1 : W.cell? ⟨b, o + 1, none⟩ = some (.string x.nm)
  c2 : W.cell? ⟨b, o + 2, none⟩ = some (.slice x.ba x.bs.length x.bc)
  by_ : BAt W x.ba x.bs
  nil_ : x.ba = none → x.bs = [] ∧ x.bc = 0
  fit : x.bs.length ≤ 140737488351232
  nml : x.nm.size ≤ 140737488351232
def DosAt (W : World) (ao : Option Addr) (T : List Dn) : Prop := ∀ i x, T[i]? = some x → ∃ b off, ao = some ⟨b, off, none⟩ ∧ DnAt W b (off + i * 3) x
theorem DnAt.keep {W w : World} {b o N : Nat} {x : Dn} (h : DnAt W b o x) (hk : Below N W w) (hb : b < N) (hx : ∀ b' off, x.ba = some ⟨b', off, none⟩ → 0 < x.bs.length → b' < N) : DnAt w b o x := by
  refine ⟨(hk.cell (p := ⟨b, o, none⟩) hb).trans h.c0, (hk.cell (p := ⟨b, o + 1, none⟩) hb).trans h.c1, (hk.cell (p := ⟨b, o + 2, none⟩) hb).trans h.c2, ?_, h.nil_, h.fit, h.nml⟩
  intro i hi
  obtain ⟨b', off, e, hc⟩ := h.by_ i hi
  exact ⟨b', off, e, (hk.cell (p := ⟨b', off + i, none⟩) (hx b' off e (by omega))).trans hc⟩
theorem DnAt.lows {W : World} {b o : Nat} {x : Dn} (h : DnAt W b o x) : b < W.heap.size ∧ ∀ b' off, x.ba = some ⟨b', off, none⟩ → 0 < x.bs.length → b' < W.heap.size := by
  refine ⟨World.block_lt_of_cell? W _ h.c0, fun b' off e hl => ?_⟩
  obtain ⟨b2, off2, e2, hc⟩ := h.by_ 0 hl
  rw [e] at e2
  injection e2 with e2
  injection e2 with e2 e3
  subst e2
  exact World.block_lt_of_cell? W _ hc
/-- A script that came in stays where all below the first world's end stays. -/
theorem DosAt.below {W w : World} {ao : Option Addr} {T : List Dn} (h : DosAt W ao T) (hk : Below W.heap.size W w) : DosAt w ao T := fun i x hx => by
  obtain ⟨b, off, e, h1⟩ := h i x hx
  exact ⟨b, off, e, h1.keep hk h1.lows.1 h1.lows.2⟩
end Go.Proofs.Ytkcnkfhdbjiggaa
