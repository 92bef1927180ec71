/-
  A frame as a plain thing: its cells, how they lie in a block, and what '==' tells of two frames. Conditions: a frame has 24 slots.
-/
import Derived.Test.YtplfpcbheijdlaaMem
import Derived.ChangeKeysEq
import Derived.Deep.MidRow
import Derived.Deep.WholeRow
import Derived.Lib.SliceRun
namespace Go.Proofs.Ytplfpcbheijdlaa
open Go.RowKit

structure Fr where
  lo : Int
  he : Int
  sl : List Nat

def tyV (t : Nat) : Value := .int .u8 (t : Int)
def slV (l : List Nat) : List Value := l.map tyV
def frL (f : Fr) : List Value := .int .i64 f.lo :: .int .i64 f.he :: slV f.sl
def frA (f : Fr) : Array Value := (frL f).toArray
structure FrOk (f : Fr) : Prop where
  len : f.sl.length = 24
  byte : ∀ t ∈ f.sl, t < 256
  lo : -9223372036854775808 ≤ f.lo ∧ f.lo ≤ 9223372036854775807
  he : -9223372036854775808 ≤ f.he ∧ f.he ≤ 9223372036854775807
def frEq (f g : Fr) : Bool := f.lo == g.lo && (f.he == g.he && f.sl == g.sl)
theorem frEq_iff {f g : Fr} : frEq f g = true ↔ f = g := by
  cases f; cases g
  simp [frEq]

theorem slV_length (l : List Nat) : (slV l).length = l.length := by simp [slV]
theorem slV_get {l : List Nat} {i : Nat} {t : Nat} (h : l[i]? = some t) : (slV l)[i]? = some (.int .u8 (t : Int)) := by simp [slV, h, tyV]
theorem frA_size {f : Fr} (h : FrOk f) : (frA f).size = 26 := by simp [frA, frL, slV_length, h.len]
theorem frA_lo (f : Fr) : (frA f)[0]? = some (.int .i64 f.lo) := by simp [frA, frL]
theorem frA_he (f : Fr) : (frA f)[1]? = some (.int .i64 f.he) := by simp [frA, frL]
theorem frA_at {f : Fr} {i t : Nat} (h : f.sl[i]? = some t) : (frA f)[2 + i]? = some (.int .u8 (t : Int)) := by
  rw [Nat.add_comm 2 i]
  simp [frA, frL, slV_get h]
theorem frA_one (f : Fr) : (frA f).all (·.oneCell') = true := by
  refine all_oneCell_toArray ?_
  intro v hv
  simp only [frL, slV, List.mem_cons, List.mem_map] at hv
  rcases hv with rfl | rfl | ⟨t, _, rfl⟩ <;> rfl
theorem frA_extract (f : Fr) (h : FrOk f) : (frA f).extract 2 (2 + 24) = (slV f.sl).toArray := by
  unfold frA frL
  rw [List.extract_toArray]
  congr 1
  rw [List.extract_eq_take_drop]
  simp only [List.drop_succ_cons, List.drop_zero]
  rw [List.take_of_length_le (by rw [slV_length, h.len]; omega)]

/-! ### '==' of two frames -/
theorem infoTy : ∃ i, Try.prog.info? 23 = some i := info_of_underlying Try.underlying23
theorem cellsTy : Try.prog.cellsOf 23 = 1 := by kernel_rfl
theorem plainTy : Try.prog.plainKey 23 = true := by kernel_rfl

theorem run_eqItems_ty (w : World) (d : Nat) (xs ys : List Nat) (hl : xs.length = ys.length) : ∀ (n k : Nat), k + n = xs.length →
    (Op.eqItems (d + 1) 23 1 (slV xs).toArray (slV ys).toArray (List.range' k n)).run Try.prog w = .ok (xs.drop k == ys.drop k) w
  | 0, k, h => by
    rw [List.drop_of_length_le (by omega), List.drop_of_length_le (by omega)]
    simp [Op.eqItems]
  | n + 1, k, h => by
    have h1 : k < xs.length := by omega
    have h2 : k < ys.length := by omega
    have p1 := run_part_plain (P := Try.prog) w plainTy (xs := (slV xs).toArray) (off := k * 1) (v := .int .u8 (xs[k] : Int)) (by rw [Nat.mul_one, List.getElem?_toArray]; exact slV_get (List.getElem?_eq_getElem h1))
    have p2 := run_part_plain (P := Try.prog) w plainTy (xs := (slV ys).toArray) (off := k * 1) (v := .int .u8 (ys[k] : Int)) (by rw [Nat.mul_one, List.getElem?_toArray]; exact slV_get (List.getElem?_eq_getElem h2))
    have p3 := run_equalIn_int (P := Try.prog) w d 23 .u8 .u8 (xs[k] : Int) (ys[k] : Int) Try.underlying23
    have ih := run_eqItems_ty w d xs ys hl n (k + 1) (by omega)
    rw [List.range'_succ]
    simp only [Op.eqItems, Sem.run_bind, p1, p2, p3, Result.andThen_ok]
    have key : (xs.drop k == ys.drop k) = (xs[k] == ys[k] && (xs.drop (k + 1) == ys.drop (k + 1))) := by rw [List.drop_eq_getElem_cons h1, List.drop_eq_getElem_cons h2]; rfl
    rw [key]
    by_cases e : xs[k] = ys[k]
    · rw [e]
      simp only [beq_self_eq_true, Bool.not_true, Bool.false_eq_true, if_false, ih, Bool.true_and]
    · have e' : ((xs[k] : Int) == (ys[k] : Int)) = false := beq_eq_false_iff_ne.2 (by omega)
      have e2 : (xs[k] == ys[k]) = false := beq_eq_false_iff_ne.2 e
      rw [e', e2]
      rfl

theorem fr_int : Try.prog.plainKey 3 = true := by kernel_rfl
theorem eq_step {P : Program} (w : World) (d : Nat) (f : Field) (fs : List Field) (xs ys : Array Value) (va vb : Value) (r : Bool) (hn : f.name ≠ "_")
    (pa : (part f.type xs f.offset).run P w = .ok va w) (pb : (part f.type ys f.offset).run P w = .ok vb w) (q : (Op.equalIn d f.type va vb).run P w = .ok r w) :
    (Op.eqFields d xs ys (f :: fs)).run P w = if r = true then (Op.eqFields d xs ys fs).run P w else .ok false w := by
  simp only [Op.eqFields, if_pos hn, Sem.run_bind, pa, pb, q, Result.andThen_ok]
  cases r <;> simp

end Go.Proofs.Ytplfpcbheijdlaa
