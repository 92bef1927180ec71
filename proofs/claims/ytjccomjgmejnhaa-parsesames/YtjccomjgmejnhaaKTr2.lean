/-
  Expressions, statements and programs as trees of rows: how they lie in a world, when two hold the same. No Go in it.
-/
import Derived.Test.YtjccomjgmejnhaaKTr1
namespace Go.Proofs.Ytjccomjgmejnhaa
open Go.RowKit

/-- What is kept of a kind of thing besides its cells. -/
structure Pk (α : Type) where
  ok : World → α → Prop
  all : (Nat → Prop) → α → Prop
  below : ∀ {W W' : World} {x : α}, ok W x → Below W.heap.size W W' → ok W' x
  far : ∀ {W W' : World} {x : α} {k : Nat}, ok W x → W.grownBy W' (some k) → all (fun b => b ≠ k) x → ok W' x
  lt : ∀ {W : World} {x : α}, ok W x → all (fun b => b < W.heap.size) x
  mono : ∀ {P Q : Nat → Prop} {x : α}, (∀ b, P b → Q b) → all P x → all Q x
def ndOf {α : Type} (t : TypeId) (s : Nat) (cells : α → List Value) (pos : 0 < s) (len : ∀ x, (cells x).length = s) (p : Pk α) : Nd α := ⟨t, s, cells, p.ok, p.all, pos, len, p.below, p.far, p.lt, p.mono⟩
def pk0 (α : Type) : Pk α := ⟨fun _ _ => False, fun _ _ => True, fun h _ => h, fun h _ _ => h, fun h => h.elim, fun _ _ => trivial⟩

structure XR where
  op : Int
  pl : Int
  nm : ByteArray
  num : Int
  ka : Option Addr
  kc : Nat
  ty : Nat
  cl : Int
  rf : Int
inductive Ex where
  | mk (r : XR) (ks : List Ex)
def Ex.r : Ex → XR | .mk r _ => r
def Ex.ks : Ex → List Ex | .mk _ ks => ks
def exC (x : Ex) : List Value := [.int .i64 x.r.op, .int .i64 x.r.pl, .string x.r.nm, .int .i64 x.r.num, .slice x.r.ka x.ks.length x.r.kc, .int .u8 (x.r.ty : Int), .int .i64 x.r.cl, .int .i64 x.r.rf]
structure XOk (x : Ex) : Prop where
  nil : x.r.ka = none → x.ks = []
  fit : x.ks.length * 88 ≤ 140737488351232
  name : x.r.nm.size ≤ 140737488351232
def exP : Nat → Pk Ex
  | 0 => pk0 Ex
  | n + 1 => ⟨fun W x => XOk x ∧ RowAt (ndOf 49 8 exC (by decide) (fun _ => rfl) (exP n)) W x.r.ka x.ks, fun P x => RowAll (ndOf 49 8 exC (by decide) (fun _ => rfl) (exP n)) P x.r.ka x.ks, fun h hb => ⟨h.1, h.2.below hb⟩, fun h hg hn => ⟨h.1, h.2.far hg hn⟩, fun h => h.2.lt, fun hq h => h.mono hq⟩
def exN (n : Nat) : Nd Ex := ndOf 49 8 exC (by decide) (fun _ => rfl) (exP n)
theorem exN_ok {n : Nat} {W : World} {x : Ex} : (exN (n + 1)).ok W x ↔ XOk x ∧ RowAt (exN n) W x.r.ka x.ks := Iff.rfl
theorem exN_no {W : World} {x : Ex} (h : (exN 0).ok W x) : False := h
def sameX : Nat → Ex → Ex → Prop
  | 0, _, _ => True
  | n + 1, x, y => y.r.op = x.r.op ∧ y.r.pl = x.r.pl ∧ y.r.nm = x.r.nm ∧ y.r.num = x.r.num ∧ y.r.ty = x.r.ty ∧ y.r.cl = x.r.cl ∧ y.r.rf = x.r.rf ∧ Two (sameX n) x.ks y.ks
/-- Whether two expressions are the same, places and what was put in aside. -/
def eqX : Nat → Ex → Ex → Bool
  | 0, _, _ => true
  | n + 1, x, y => (x.r.op == y.r.op) && (x.r.nm.toList == y.r.nm.toList) && (x.r.num == y.r.num) && twoB (eqX n) x.ks y.ks
theorem eqX_refl : ∀ (n : Nat) (x : Ex), eqX n x x = true
  | 0, _ => rfl
  | n + 1, x => by unfold eqX; rw [twoB_refl (eqX_refl n)]; simp
theorem eqX_same : ∀ (n : Nat) (a b x y : Ex), sameX n a x → sameX n b y → eqX n x y = eqX n a b
  | 0, _, _, _, _, _, _ => rfl
  | n + 1, a, b, x, y, h1, h2 => by
    unfold eqX
    unfold sameX at h1 h2
    rw [h1.1, h1.2.2.1, h1.2.2.2.1, h2.1, h2.2.2.1, h2.2.2.2.1, twoB_same (eqX_same n) h1.2.2.2.2.2.2.2 h2.2.2.2.2.2.2.2]

structure SR where
  op : Int
  pl : Int
  nm : ByteArray
  of : ByteArray
  num : Int
  ea : Option Addr
  ec : Nat
  ba : Option Addr
  bc : Nat
  la : Option Addr
  lc : Nat
  ty : Nat
  rf : Int
inductive Stm where
  | mk (r : SR) (es : List Ex) (bs : List Stm) (ls : List Stm)
def Stm.r : Stm → SR | .mk r _ _ _ => r
def Stm.es : Stm → List Ex | .mk _ es _ _ => es
def Stm.bs : Stm → List Stm | .mk _ _ bs _ => bs
def Stm.ls : Stm → List Stm | .mk _ _ _ ls => ls
def stC (x : Stm) : List Value := [.int .i64 x.r.op, .int .i64 x.r.pl, .string x.r.nm, .string x.r.of, .int .i64 x.r.num, .slice x.r.ea x.es.length x.r.ec, .slice x.r.ba x.bs.length x.r.bc, .slice x.r.la x.ls.length x.r.lc, .int .u8 (x.r.ty : Int), .int .i64 x.r.rf]
structure SOk (x : Stm) : Prop where
  nilE : x.r.ea = none → x.es = []
  nilB : x.r.ba = none → x.bs = []
  nilL : x.r.la = none → x.ls = []
  fitE : x.es.length * 88 ≤ 140737488351232
  fitB : x.bs.length * 144 ≤ 140737488351232
  fitL : x.ls.length * 144 ≤ 140737488351232
  name : x.r.nm.size ≤ 140737488351232
  nmOf : x.r.of.size ≤ 140737488351232
def stP : Nat → Pk Stm
  | 0 => pk0 Stm
  | n + 1 =>
    ⟨fun W x => SOk x ∧ RowAt (exN n) W x.r.ea x.es ∧ RowAt (ndOf 47 10 stC (by decide) (fun _ => rfl) (stP n)) W x.r.ba x.bs ∧ RowAt (ndOf 47 10 stC (by decide) (fun _ => rfl) (stP n)) W x.r.la x.ls,
     fun P x => RowAll (exN n) P x.r.ea x.es ∧ RowAll (ndOf 47 10 stC (by decide) (fun _ => rfl) (stP n)) P x.r.ba x.bs ∧ RowAll (ndOf 47 10 stC (by decide) (fun _ => rfl) (stP n)) P x.r.la x.ls,
     fun h hb => ⟨h.1, h.2.1.below hb, h.2.2.1.below hb, h.2.2.2.below hb⟩, fun h hg hn => ⟨h.1, h.2.1.far hg hn.1, h.2.2.1.far hg hn.2.1, h.2.2.2.far hg hn.2.2⟩, fun h => ⟨h.2.1.lt, h.2.2.1.lt, h.2.2.2.lt⟩, fun hq h => ⟨h.1.mono hq, h.2.1.mono hq, h.2.2.mono hq⟩⟩
def stN (n : Nat) : Nd Stm := ndOf 47 10 stC (by decide) (fun _ => rfl) (stP n)
theorem stN_ok {n : Nat} {W : World} {x : Stm} : (stN (n + 1)).ok W x ↔ SOk x ∧ RowAt (exN n) W x.r.ea x.es ∧ RowAt (stN n) W x.r.ba x.bs ∧ RowAt (stN n) W x.r.la x.ls := Iff.rfl
def sameS : Nat → Stm → Stm → Prop
  | 0, _, _ => True
  | n + 1, x, y => (y.r.op = x.r.op ∧ y.r.pl = x.r.pl ∧ y.r.nm = x.r.nm ∧ y.r.of = x.r.of ∧ y.r.num = x.r.num ∧ y.r.ty = x.r.ty ∧ y.r.rf = x.r.rf) ∧ Two (sameX n) x.es y.es ∧ Two (sameS n) x.bs y.bs ∧ Two (sameS n) x.ls y.ls
def eqS : Nat → Stm → Stm → Bool
  | 0, _, _ => true
  | n + 1, x, y => (x.r.op == y.r.op) && (x.r.nm.toList == y.r.nm.toList) && (x.r.of.toList == y.r.of.toList) && (x.r.num == y.r.num) && twoB (eqX n) x.es y.es && twoB (eqS n) x.bs y.bs && twoB (eqS n) x.ls y.ls
theorem eqS_refl : ∀ (n : Nat) (x : Stm), eqS n x x = true
  | 0, _ => rfl
  | n + 1, x => by unfold eqS; rw [twoB_refl (eqX_refl n), twoB_refl (eqS_refl n), twoB_refl (eqS_refl n)]; simp
theorem eqS_same : ∀ (n : Nat) (a b x y : Stm), sameS n a x → sameS n b y → eqS n x y = eqS n a b
  | 0, _, _, _, _, _, _ => rfl
  | n + 1, a, b, x, y, h1, h2 => by
    unfold eqS
    unfold sameS at h1 h2
    rw [h1.1.1, h1.1.2.2.1, h1.1.2.2.2.1, h1.1.2.2.2.2.1, h2.1.1, h2.1.2.2.1, h2.1.2.2.2.1, h2.1.2.2.2.2.1, twoB_same (eqX_same n) h1.2.1 h2.2.1, twoB_same (eqS_same n) h1.2.2.1 h2.2.2.1, twoB_same (eqS_same n) h1.2.2.2 h2.2.2.2]

/-- A parameter, or a field. -/
structure Pm where
  pl : Int
  nm : ByteArray
  of : ByteArray
  ty : Nat
def pmC (x : Pm) : List Value := [.int .i64 x.pl, .string x.nm, .string x.of, .int .u8 (x.ty : Int)]
structure POk (x : Pm) : Prop where
  name : x.nm.size ≤ 140737488351232
  nmOf : x.of.size ≤ 140737488351232
  ty : x.ty < 256
def pmN : Nd Pm := ndOf 34 4 pmC (by decide) (fun _ => rfl) ⟨fun _ x => POk x, fun _ _ => True, fun h _ => h, fun h _ _ => h, fun _ => trivial, fun _ _ => trivial⟩
def sameP (x y : Pm) : Prop := y = x
def eqP (x y : Pm) : Bool := (x.nm.toList == y.nm.toList) && (x.of.toList == y.of.toList)
/-- A record. -/
structure Rcd where
  pl : Int
  nm : ByteArray
  par : ByteArray
  fa : Option Addr
  fc : Nat
  fs : List Pm
def rcC (x : Rcd) : List Value := [.int .i64 x.pl, .string x.nm, .string x.par, .slice x.fa x.fs.length x.fc]
structure ROk (x : Rcd) : Prop where
  nil : x.fa = none → x.fs = []
  fit : x.fs.length * 48 ≤ 140737488351232
  name : x.nm.size ≤ 140737488351232
  nmP : x.par.size ≤ 140737488351232
def rcN : Nd Rcd := ndOf 30 4 rcC (by decide) (fun _ => rfl) ⟨fun W x => ROk x ∧ RowAt pmN W x.fa x.fs, fun P x => RowAll pmN P x.fa x.fs, fun h hb => ⟨h.1, h.2.below hb⟩, fun h hg hn => ⟨h.1, h.2.far hg hn⟩, fun h => h.2.lt, fun hq h => h.mono hq⟩
def sameR (x y : Rcd) : Prop := y.pl = x.pl ∧ y.nm = x.nm ∧ y.par = x.par ∧ y.fs = x.fs
def eqR (x y : Rcd) : Bool := (x.nm.toList == y.nm.toList) && (x.par.toList == y.par.toList) && twoB eqP x.fs y.fs
theorem eqP_refl (x : Pm) : eqP x x = true := by unfold eqP; simp
theorem eqR_refl (x : Rcd) : eqR x x = true := by unfold eqR; rw [twoB_refl eqP_refl]; simp
theorem eqR_same (a b x y : Rcd) (h1 : sameR a x) (h2 : sameR b y) : eqR x y = eqR a b := by unfold eqR; rw [h1.2.1, h1.2.2.1, h1.2.2.2, h2.2.1, h2.2.2.1, h2.2.2.2]
/-- A function. -/
structure Fu where
  pl : Int
  nm : ByteArray
  of : ByteArray
  pa : Option Addr
  pc : Nat
  ps : List Pm
  ba : Option Addr
  bc : Nat
  bs : List Stm
  res : Nat
  lo : Int
def fuC (x : Fu) : List Value := [.int .i64 x.pl, .string x.nm, .string x.of, .slice x.pa x.ps.length x.pc, .slice x.ba x.bs.length x.bc, .int .u8 (x.res : Int), .int .i64 x.lo]
structure UOk (x : Fu) : Prop where
  nilP : x.pa = none → x.ps = []
  nilB : x.ba = none → x.bs = []
  fitP : x.ps.length * 48 ≤ 140737488351232
  fitB : x.bs.length * 144 ≤ 140737488351232
  name : x.nm.size ≤ 140737488351232
  nmOf : x.of.size ≤ 140737488351232
def fuN (n : Nat) : Nd Fu := ndOf 37 7 fuC (by decide) (fun _ => rfl) ⟨fun W x => UOk x ∧ RowAt pmN W x.pa x.ps ∧ RowAt (stN n) W x.ba x.bs, fun P x => RowAll pmN P x.pa x.ps ∧ RowAll (stN n) P x.ba x.bs, fun h hb => ⟨h.1, h.2.1.below hb, h.2.2.below hb⟩, fun h hg hn => ⟨h.1, h.2.1.far hg hn.1, h.2.2.far hg hn.2⟩, fun h => ⟨h.2.1.lt, h.2.2.lt⟩, fun hq h => ⟨h.1.mono hq, h.2.mono hq⟩⟩
def sameU (n : Nat) (x y : Fu) : Prop := (y.pl = x.pl ∧ y.nm = x.nm ∧ y.of = x.of ∧ y.ps = x.ps ∧ y.res = x.res ∧ y.lo = x.lo) ∧ Two (sameS n) x.bs y.bs
def eqU (n : Nat) (x y : Fu) : Bool := (x.nm.toList == y.nm.toList) && (x.of.toList == y.of.toList) && twoB eqP x.ps y.ps && twoB (eqS n) x.bs y.bs
theorem eqU_refl (n : Nat) (x : Fu) : eqU n x x = true := by unfold eqU; rw [twoB_refl eqP_refl, twoB_refl (eqS_refl n)]; simp
theorem eqU_same (n : Nat) (a b x y : Fu) (h1 : sameU n a x) (h2 : sameU n b y) : eqU n x y = eqU n a b := by unfold eqU; rw [h1.1.2.1, h1.1.2.2.1, h1.1.2.2.2.1, h2.1.2.1, h2.1.2.2.1, h2.1.2.2.2.1, twoB_same (eqS_same n) h1.2 h2.2]
/-- A program. -/
structure Pg where
  ra : Option Addr
  rc : Nat
  R : List Rcd
  ua : Option Addr
  uc : Nat
  U : List Fu
structure PgOk (n : Nat) (W : World) (x : Pg) : Prop where
  recs : RowAt rcN W x.ra x.R
  funs : RowAt (fuN n) W x.ua x.U
  nilR : x.ra = none → x.R = []
  nilU : x.ua = none → x.U = []
  fitR : x.R.length * 64 ≤ 140737488351232
  fitU : x.U.length * 104 ≤ 140737488351232
theorem PgOk.below {n : Nat} {W W' : World} {x : Pg} (h : PgOk n W x) (hb : Below W.heap.size W W') : PgOk n W' x := ⟨h.recs.below hb, h.funs.below hb, h.nilR, h.nilU, h.fitR, h.fitU⟩
def sameG (n : Nat) (x y : Pg) : Prop := Two sameR x.R y.R ∧ Two (sameU n) x.U y.U
def eqG (n : Nat) (x y : Pg) : Bool := twoB eqR x.R y.R && twoB (eqU n) x.U y.U
theorem eqG_refl (n : Nat) (x : Pg) : eqG n x x = true := by unfold eqG; rw [twoB_refl eqR_refl, twoB_refl (eqU_refl n)]; rfl
theorem eqG_same {n : Nat} {a b x y : Pg} (h1 : sameG n a x) (h2 : sameG n b y) : eqG n x y = eqG n a b := by unfold eqG; rw [twoB_same eqR_same h1.1 h2.1, twoB_same (eqU_same n) h1.2 h2.2]
end Go.Proofs.Ytjccomjgmejnhaa
