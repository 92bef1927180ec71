/-
  The contracts of cert.word and cert.short: the number in two bytes; the fault of bytes that end. Conditions: the bytes are there.
-/
import Derived.Test.YtednnfmomhallaaEn
namespace Go.Proofs.Ytednnfmomhallaa
open Go.RowKit

/-- The number in two bytes. -/
def wdD (L : List UInt8) (p : Nat) : Int := at8 L p * 256 + at8 L (p + 1)
theorem wdD_bounds (L : List UInt8) (p : Nat) : 0 ≤ wdD L p ∧ wdD L p ≤ 65535 := by
  have h1 := at8_lo L p
  have h2 := at8_hi L p
  have h3 := at8_lo L (p + 1)
  have h4 := at8_hi L (p + 1)
  unfold wdD
  omega
theorem bits_o64 (a b : Nat) (ha : a < 65536) (hb : b < 65536) : bits .or .i64 (a : Int) (b : Int) = ((a ||| b : Nat) : Int) := by
  have hlt : a ||| b < 65536 := Nat.or_lt_two_pow (n := 16) ha hb
  have h1 : (BitVec.ofInt 64 (a : Int)).toNat = a := by
    rw [BitVec.ofInt_natCast, BitVec.toNat_ofNat]; exact Nat.mod_eq_of_lt (by omega)
  have h2 : (BitVec.ofInt 64 (b : Int)).toNat = b := by
    rw [BitVec.ofInt_natCast, BitVec.toNat_ofNat]; exact Nat.mod_eq_of_lt (by omega)
  show IntKind.i64.wrap ((BitVec.ofInt 64 (a : Int) ||| BitVec.ofInt 64 (b : Int)).toNat : Int) = _
  rw [BitVec.toNat_or, h1, h2]
  simp [IntKind.wrap, IntKind.bits, IntKind.signed]
  omega
theorem or_word (L : List UInt8) (p : Nat) : bits .or .i64 (at8 L p * 256) (at8 L (p + 1)) = wdD L p := by
  have h4 := (L.getD p 0).toNat_lt
  have h5 := (L.getD (p + 1) 0).toNat_lt
  have h6 := Nat.two_pow_add_eq_or_of_lt (i := 8) (b := (L.getD (p + 1) 0).toNat) (by omega) (L.getD p 0).toNat
  unfold wdD at8
  rw [show ((L.getD p 0).toNat : Int) * 256 = (((L.getD p 0).toNat * 256 : Nat) : Int) by omega, bits_o64 _ _ (by omega) (by omega), show (L.getD p 0).toNat * 256 = 2 ^ 8 * (L.getD p 0).toNat by omega, ← h6]
  omega
set_option maxHeartbeats 1000000 in
theorem word_any (ao : Option Addr) (c : Nat) (L : List UInt8) (p : Nat) (w : World) (hb : BAt w ao L) (hp : p + 1 < L.length) (hl : L.length ≤ 562949953421312) :
    Calls Try.prog 38 #[.slice ao L.length c, .int .i64 (p : Int)] w fun e w' => e = .returned (.int .i64 (wdD L p)) ∧ ∃ k, w' = w.drewN k := by
  obtain ⟨b, off, rfl, hc⟩ := hb.head (by omega)
  have c1 := hc p (by omega)
  have c2 := hc (p + 1) (by omega)
  have lo := at8_lo L p
  have hi := at8_hi L p
  have lo2 := at8_lo L (p + 1)
  have hi2 := at8_hi L (p + 1)
  have HO := hide (or_word L p)
  generalize at8 L p = x at c1 lo hi HO
  generalize at8 L (p + 1) = y at c2 lo2 hi2 HO
  have i1 : ((p : Nat) : Int) < ((L.length : Nat) : Int) := by omega
  have i2 : ((p : Nat) : Int) + 1 < ((L.length : Nat) : Int) := by omega
  clear hc hb
  go_enter Try.func38, Try.ntmps38
  go_wp2_with fail
  go_quiet (fail)
  go_wp2
  go_ret
  exact ⟨congrArg (fun z => Ending.returned (.int .i64 z)) (unhide HO), _, rfl⟩
/-- A fault. -/
def ftV (p e : Int) : Value := .agg #[.int .i64 p, .int .i64 e]
theorem results_cell1 {fn : Func} {p : Tmp} {ty : TypeId} (h : fn.results = #[.cell p ty]) (tmps : Array Value) (P : Program) (w : World) :
    (results fn tmps).run P w = ((asAddr (tmps.getD p undef)).run P w).andThen fun a w₁ => (loadVar ty a).run P w₁ := by
  simp only [results, h]
  simp [Sem.run_bind, Result.andThen]
theorem results_tmp_cell {fn : Func} {p u : Tmp} {ty : TypeId} (h : fn.results = #[.tmp u, .cell p ty]) (tmps : Array Value) (P : Program) (w : World) :
    (results fn tmps).run P w = ((asAddr (tmps.getD p undef)).run P w).andThen fun a w₁ => ((loadVar ty a).run P w₁).andThen fun x w₂ => .ok (.tuple #[tmps.getD u undef, x]) w₂ := by
  simp only [results, h]
  simp [Sem.run_bind, Result.andThen]
def FtAt (W : World) (g : Nat) (p e : Int) : Prop := W.heap[g]? = some (.cells #[.int .i64 p, .int .i64 e] 58 (0, 0))
theorem run_loadFt {W : World} {g : Nat} {p e : Int} (h : FtAt W g p e) : (loadVar 58 ⟨g, 0, none⟩).run Try.prog W = .ok (ftV p e) W := run_loadVar_row W g 58 58 #[.int .i64 p, .int .i64 e] (0, 0) _ h Try.underlying58 rfl (by kernel_rfl)
theorem FtAt.lt {W : World} {g : Nat} {p e : Int} (h : FtAt W g p e) : g < W.heap.size := (Array.getElem?_eq_some_iff.1 h).1
theorem FtAt.c0 {W : World} {g : Nat} {p e : Int} (h : FtAt W g p e) : W.cell? ⟨g, 0, none⟩ = some (.int .i64 p) := cell_of_row _ _ 0 _ _ _ h
theorem FtAt.c1 {W : World} {g : Nat} {p e : Int} (h : FtAt W g p e) : W.cell? ⟨g, 1, none⟩ = some (.int .i64 e) := cell_of_row _ _ 1 _ _ _ h
theorem FtAt.f {W : World} {g : Nat} {p e : Int} (h : FtAt W g p e) (i : Nat) : W.frozen? ⟨g, i, none⟩ = false := frozen_of_row _ _ _ _ _ h
theorem FtAt.chain {W : World} {g : Nat} {p e : Int} (h : FtAt W g p e) (p' e' : Int) : FtAt ((W.setCell ⟨g, 0, none⟩ (.int .i64 p')).setCell ⟨g, 1, none⟩ (.int .i64 e')) g p' e' :=
  heap_setCell_same _ _ _ _ _ _ (heap_setCell_same _ _ _ _ _ _ h)
theorem FtAt.below {W W' : World} {g : Nat} {p e : Int} (h : FtAt W g p e) (hb : Below W.heap.size W W') : FtAt W' g p e := (hb.block g h.lt).trans h
theorem below_chain2 {B : Nat} {w W : World} (h : Below B w W) {g : Nat} (hg : B ≤ g) (v0 v1 : Value) : Below B w ((W.setCell ⟨g, 0, none⟩ v0).setCell ⟨g, 1, none⟩ v1) := (h.setCell hg _).setCell hg _
theorem results_ft1 {fn : Func} {p : Tmp} (h : fn.results = #[.cell p 58]) (tmps : Array Value) (W : World) (g : Nat) (x e : Int) (hp : tmps.getD p undef = .pointer (some ⟨g, 0, none⟩)) (hg : FtAt W g x e) :
    (results fn tmps).run Try.prog W = .ok (ftV x e) W := by
  rw [results_cell1 h, hp, run_addr, Result.andThen_ok, run_loadFt hg]
theorem results_ft2 {fn : Func} {u p : Tmp} (h : fn.results = #[.tmp u, .cell p 58]) (tmps : Array Value) (W : World) (g : Nat) (v : Value) (x e : Int) (hp : tmps.getD p undef = .pointer (some ⟨g, 0, none⟩)) (hu : tmps.getD u undef = v) (hg : FtAt W g x e) :
    (results fn tmps).run Try.prog W = .ok (.tuple #[v, ftV x e]) W := by
  rw [results_tmp_cell h, hp, hu, run_addr, Result.andThen_ok, run_loadFt hg, Result.andThen_ok]
theorem short_any (ao : Option Addr) (c n : Nat) (w : World) :
    Calls Try.prog 37 #[.slice ao n c] w fun e w' => e = .returned (ftV n 2) ∧ Below w.heap.size w w' := by
  have hal := ((Below.refl w.heap.size w).alloc (Nat.le_refl _) (.cells #[.int .i64 (n : Int), .int .i64 2] 58))
  have HB := hide hal
  clear hal
  go_enter Try.func37, Try.ntmps37
  go_wp2
  exact bodyPost_ret (v := ftV n 2) (results_ft1 rfl _ _ w.heap.size n 2 rfl (heap_alloc_new w _)) rfl ⟨rfl, unhide HB⟩
end Go.Proofs.Ytednnfmomhallaa
