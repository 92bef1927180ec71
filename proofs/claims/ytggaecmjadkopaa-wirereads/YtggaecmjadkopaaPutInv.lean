/-
  What holds between two calls of a writer in the laws: the writer and a slice of one's own have the same bytes, in blocks of their own, and what was there when the law began is as it was.
-/
import Derived.Test.YtggaecmjadkopaaRPut3
import Derived.Test.YtggaecmjadkopaaRoom
namespace Go.Proofs.Ytggaecmjadkopaa
open Go.RowKit

structure Inv (W0 w : World) (p : Nat) (v bv : Value) (l : List UInt8) : Prop where
  wr : IsWriter w p v l
  ob : OwnB w 0 bv l
  pb : W0.heap.size ≤ p
  vb : ∀ k, v.ownBlock = some k → W0.heap.size ≤ k
  bb : ∀ k, bv.ownBlock = some k → W0.heap.size ≤ k
  d1 : bv.ownBlock ≠ some p
  d2 : ∀ k, bv.ownBlock = some k → v.ownBlock ≠ some k
  bel : Below W0.heap.size W0 w

theorem Inv.bl {W0 w : World} {p : Nat} {v bv : Value} {l : List UInt8} (h : Inv W0 w p v bv l) : ∀ k, bv.ownBlock = some k → k < w.heap.size := fun k e => (h.ob.lt k e).2
theorem Inv.vl {W0 w : World} {p : Nat} {v bv : Value} {l : List UInt8} (h : Inv W0 w p v bv l) : ∀ k, v.ownBlock = some k → k < w.heap.size := fun k e => (h.wr.own.lt k e).2

/-- The slice is not among what the writer's calls turn. -/
theorem Inv.apart {W0 w : World} {p : Nat} {v bv : Value} {l : List UInt8} (h : Inv W0 w p v bv l) : ∀ k, bv.ownBlock = some k → ¬ WT p v k := by
  intro k e hk
  rcases hk with rfl | hk
  · exact h.d1 e
  · exact h.d2 k e hk

theorem Inv.below {W0 w w' : World} {p : Nat} {v bv : Value} {l : List UInt8} (h : Inv W0 w p v bv l) (hb : Below w.heap.size w w') : Inv W0 w' p v bv l :=
  ⟨h.wr.below hb, h.ob.below hb, h.pb, h.vb, h.bb, h.d1, h.d2, h.bel.trans (hb.mono h.bel.size)⟩

theorem Inv.keep {S : Nat → Prop} {W0 w w' : World} {p : Nat} {v bv : Value} {l : List UInt8} (h : Inv W0 w p v bv l) (hk : Kept S w w') (h1 : ∀ k, WT p v k → ¬ S k) (h2 : ∀ k, bv.ownBlock = some k → ¬ S k) (h3 : ∀ k, S k → W0.heap.size ≤ k) : Inv W0 w' p v bv l :=
  ⟨h.wr.keep hk h1, h.ob.keep hk h2, h.pb, h.vb, h.bb, h.d1, h.d2, hk.below h.bel h.bel.size h3⟩

/-- The writer has gone on. -/
structure Mid (W0 w w2 : World) (p : Nat) (v v' bv : Value) (l l' : List UInt8) : Prop where
  wr : IsWriter w2 p v' l'
  ob : OwnB w2 0 bv l
  vb : ∀ k, v'.ownBlock = some k → W0.heap.size ≤ k
  d2 : ∀ k, bv.ownBlock = some k → v'.ownBlock ≠ some k
  bel : Below W0.heap.size W0 w2
  size : w.heap.size ≤ w2.heap.size

theorem Inv.mid {W0 w w2 : World} {p : Nat} {v v' bv : Value} {l l' : List UInt8} (h : Inv W0 w p v bv l) (hw : IsWriter w2 p v' l') (hk : Kept (WT p v) w w2) (hf : ∀ k, v'.ownBlock = some k → v.ownBlock = some k ∨ w.heap.size ≤ k) : Mid W0 w w2 p v v' bv l l' := by
  refine ⟨hw, h.ob.keep hk h.apart, fun k e => ?_, fun k e e' => ?_, hk.below h.bel h.bel.size (fun k hk => ?_), hk.size⟩
  · rcases hf k e with h1 | h1
    · exact h.vb k h1
    · exact Nat.le_trans h.bel.size h1
  · rcases hf k e' with h1 | h1
    · exact h.d2 k e h1
    · have := h.bl k e; omega
  · rcases hk with rfl | hk
    · exact h.pb
    · exact h.vb k hk

theorem Mid.done {W0 w w2 w3 : World} {p : Nat} {v v' bv bv' : Value} {l l' : List UInt8} (h : Inv W0 w p v bv l) (m : Mid W0 w w2 p v v' bv l l') (ho : OwnB w3 0 bv' l') (hb : Below w2.heap.size w2 w3) (hf : bv' = bv ∨ ∀ k, bv'.ownBlock = some k → w2.heap.size ≤ k) : Inv W0 w3 p v' bv' l' := by
  have hpl := m.wr.pl
  have hvl : ∀ k, v'.ownBlock = some k → k < w2.heap.size := fun k e => (m.wr.own.lt k e).2
  refine ⟨m.wr.below hb, ho, h.pb, m.vb, ?_, ?_, ?_, m.bel.trans (hb.mono m.bel.size)⟩
  · rcases hf with rfl | hf
    · exact h.bb
    · exact fun k e => Nat.le_trans m.bel.size (hf k e)
  · rcases hf with rfl | hf
    · exact h.d1
    · intro e; have := hf p e; omega
  · rcases hf with rfl | hf
    · exact m.d2
    · intro k e e'; have := hf k e; have := hvl k e'; omega

/-- What is not the writer's own can be put. -/
theorem SrcB.below {w w' : World} {b : Value} {m : List UInt8} (h : SrcB w b m) (hb : Below w.heap.size w w') : SrcB w' b m := by
  rcases h with h | ⟨x, c, h1, h2⟩
  · exact .inl h
  · exact .inr ⟨x, c, h1, h2.below' hb⟩

/-- A byte turned over. -/
theorem flip8 (x : UInt8) : bits .xor .u8 (x.toNat : Int) 255 = ((x ^^^ 255).toNat : Int) := by
  have hx := x.toNat_lt
  have h1 : (BitVec.ofInt 8 (x.toNat : Int)).toNat = x.toNat := by
    rw [BitVec.ofInt_natCast, BitVec.toNat_ofNat]; exact Nat.mod_eq_of_lt (by omega)
  have h2 : (BitVec.ofInt 8 (255 : Int)).toNat = 255 := by decide
  have hw : ∀ n : Int, IntKind.u8.wrap n = n % 256 := fun n => by simp [IntKind.wrap, IntKind.bits, IntKind.signed]
  have hlt : x.toNat ^^^ 255 < 256 := Nat.xor_lt_two_pow (n := 8) (by omega) (by omega)
  show IntKind.u8.wrap ((BitVec.ofInt 8 (x.toNat : Int) ^^^ BitVec.ofInt 8 (255 : Int)).toNat : Int) = _
  rw [BitVec.toNat_xor, h1, h2, hw, UInt8.toNat_xor]
  show ((x.toNat ^^^ 255 : Nat) : Int) % 256 = ((x.toNat ^^^ 255 : Nat) : Int)
  omega
end Go.Proofs.Ytggaecmjadkopaa
