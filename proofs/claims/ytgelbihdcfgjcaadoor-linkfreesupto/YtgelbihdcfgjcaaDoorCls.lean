/-
  What a table of classes reads as in a world, and how it lies there still behind calls that turn nothing old. No Go in it.
-/
import Derived.Test.YtgelbihdcfgjcaaDoorMem
namespace Go.Proofs.YtgelbihdcfgjcaaDoor
open Go.RowKit
set_option maxRecDepth 20000

/-- A field, a class. -/
structure Fl where
  nm : ByteArray
  ty : Nat
structure Cl where
  nm : ByteArray
  par : Int
  fo : Option Addr
  fc : Nat
  fs : List Fl

structure FlAt (W : World) (b o : Nat) (f : Fl) : Prop where
  c0 : W.cell? ⟨b, o, none⟩ = some (.string f.nm)
  c1 : W.cell? ⟨b, o + 1, none⟩ = some (.int .u8 (f.ty : Int))
  name : f.nm.size ≤ 140737488351232
  ty : f.ty < 256
def FsAt (W : World) (fo : Option Addr) (fs : List Fl) : Prop := ∀ i f, fs[i]? = some f → ∃ b off, fo = some ⟨b, off, none⟩ ∧ FlAt W b (off + i * 2) f

structure ClAt (W : World) (b o : Nat) (x : Cl) : Prop where
  c0 : W.cell? ⟨b, o, none⟩ = some (.string x.nm)
  c1 : W.cell? ⟨b, o + 1, none⟩ = some (.int .i64 x.par)
  c2 : W.cell? ⟨b, o + 2, none⟩ = some (.slice x.fo x.fs.length x.fc)
  flds : FsAt W x.fo x.fs
  nil : x.fo = none → x.fs = [] ∧ x.fc = 0
  cap : x.fs.length ≤ x.fc
  fit : x.fs.length * 24 ≤ 140737488351232
  name : x.nm.size ≤ 140737488351232
  par : -9223372036854775808 ≤ x.par ∧ x.par ≤ 9223372036854775807
def TabAt (W : World) (ao : Option Addr) (T : List Cl) : Prop := ∀ i x, T[i]? = some x → ∃ b off, ao = some ⟨b, off, none⟩ ∧ ClAt W b (off + i * 3) x

theorem FlAt.below {W w : World} {b o : Nat} {f : Fl} (h : FlAt W b o f) (hb : Below W.heap.size W w) : FlAt w b o f := by
  have hl : b < W.heap.size := World.block_lt_of_cell? W _ h.c0
  exact ⟨(hb.cell (p := ⟨b, o, none⟩) hl).trans h.c0, (hb.cell (p := ⟨b, o + 1, none⟩) hl).trans h.c1, h.name, h.ty⟩
theorem FsAt.below {W w : World} {fo : Option Addr} {fs : List Fl} (h : FsAt W fo fs) (hb : Below W.heap.size W w) : FsAt w fo fs := fun i f hf => by
  obtain ⟨b, off, e, h1⟩ := h i f hf
  exact ⟨b, off, e, h1.below hb⟩
theorem ClAt.below {W w : World} {b o : Nat} {x : Cl} (h : ClAt W b o x) (hb : Below W.heap.size W w) : ClAt w b o x := by
  have hl : b < W.heap.size := World.block_lt_of_cell? W _ h.c0
  exact ⟨(hb.cell (p := ⟨b, o, none⟩) hl).trans h.c0, (hb.cell (p := ⟨b, o + 1, none⟩) hl).trans h.c1, (hb.cell (p := ⟨b, o + 2, none⟩) hl).trans h.c2, h.flds.below hb, h.nil, h.cap, h.fit, h.name, h.par⟩
theorem TabAt.below {W w : World} {ao : Option Addr} {T : List Cl} (h : TabAt W ao T) (hb : Below W.heap.size W w) : TabAt w ao T := fun i x hx => by
  obtain ⟨b, off, e, h1⟩ := h i x hx
  exact ⟨b, off, e, h1.below hb⟩
theorem below_drew (w : World) (n : Nat) : Below w.heap.size w (w.drewN n) := ⟨rfl, rfl, rfl, Nat.le_refl _, fun _ _ => rfl⟩

/-- The head of a table or of a row of fields that is not empty. -/
theorem TabAt.head {W : World} {ao : Option Addr} {T : List Cl} (h : TabAt W ao T) (hp : 0 < T.length) : ∃ b off, ao = some ⟨b, off, none⟩ ∧ b < W.heap.size ∧ ∀ i x, T[i]? = some x → ClAt W b (off + i * 3) x := by
  obtain ⟨b, off, e, h0⟩ := h 0 _ (List.getElem?_eq_getElem hp)
  refine ⟨b, off, e, World.block_lt_of_cell? W _ h0.c0, fun i x hx => ?_⟩
  obtain ⟨b', off', e', h'⟩ := h i x hx
  rw [e] at e'
  injection e' with e'
  injection e' with e1 e2
  subst e1 e2
  exact h'
theorem FsAt.head {W : World} {ao : Option Addr} {T : List Fl} (h : FsAt W ao T) (hp : 0 < T.length) : ∃ b off, ao = some ⟨b, off, none⟩ ∧ b < W.heap.size ∧ ∀ i x, T[i]? = some x → FlAt W b (off + i * 2) x := by
  obtain ⟨b, off, e, h0⟩ := h 0 _ (List.getElem?_eq_getElem hp)
  refine ⟨b, off, e, World.block_lt_of_cell? W _ h0.c0, fun i x hx => ?_⟩
  obtain ⟨b', off', e', h'⟩ := h i x hx
  rw [e] at e'
  injection e' with e'
  injection e' with e1 e2
  subst e1 e2
  exact h'

/-! ### What a class's number is worth -/
def parD (T : List Cl) (c : Nat) : Int := match T[c]? with | some x => x.par | none => -1
def fsD (T : List Cl) (c : Nat) : List Fl := match T[c]? with | some x => x.fs | none => []

/-- A class, its parent, and so on, so many at most. -/
def lineR (T : List Cl) : Nat → Int → List Nat
  | 0, _ => []
  | k + 1, c => if 0 ≤ c ∧ c < (T.length : Int) then c.toNat :: lineR T k (parD T c.toNat) else []
def lineD (T : List Cl) (c : Int) : List Nat := lineR T (T.length + 1) c
def fieldsD (T : List Cl) (c : Int) : List Fl := (lineD T c).reverse.flatMap (fsD T)

def hasD (l : List Fl) (s : ByteArray) : Bool := l.any (fun f => f.nm.toList == s.toList)
def validD (n : Nat) (t : Nat) : Bool := decide (t ≤ 5 ∨ (16 ≤ t ∧ t - 16 < n))
def storedD (n : Nat) (t : Nat) : Bool := validD n t && decide (t ≠ 0) && decide (t ≠ 3)
end Go.Proofs.YtgelbihdcfgjcaaDoor
