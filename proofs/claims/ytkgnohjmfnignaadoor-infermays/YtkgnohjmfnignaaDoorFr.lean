/-
  A frame as a plain thing: its cells, how they lie in a block, and what '==' tells of two frames. Conditions: a frame has 24 slots.
-/
import Derived.Test.YtkgnohjmfnignaaDoorMem
import Derived.ChangeKeysEq
import Derived.Deep.MidRow
import Derived.Deep.WholeRow
import Derived.Lib.SliceRun
namespace Go.Proofs.YtkgnohjmfnignaaDoor
open Go.RowKit
set_option maxRecDepth 20000

structure Fr where
  lo : Int
  he : Int
  sl : List Nat

def tyV (t : Nat) : Value := .int .u8 (t : Int)
def slV (l : List Nat) : List Value := l.map tyV
def frL (f : Fr) : List Value := .int .i64 f.lo :: .int .i64 f.he :: slV f.sl
def frA (f : Fr) : Array Value := (frL f).toArray
structure FrOk (f : Fr) : Prop where
  len : f.sl.length = 24
  byte : ∀ t ∈ f.sl, t < 256
  lo : -9223372036854775808 ≤ f.lo ∧ f.lo ≤ 9223372036854775807
  he : -9223372036854775808 ≤ f.he ∧ f.he ≤ 9223372036854775807
def frEq (f g : Fr) : Bool := f.lo == g.lo && (f.he == g.he && f.sl == g.sl)
theorem frEq_iff {f g : Fr} : frEq f g = true ↔ f = g := by
  cases f; cases g
  simp [frEq]

theorem slV_length (l : List Nat) : (slV l).length = l.length := by simp [slV]
theorem slV_get {l : List Nat} {i : Nat} {t : Nat} (h : l[i]? = some t) : (slV l)[i]? = some (.int .u8 (t : Int)) := by simp [slV, h, tyV]
theorem frA_size {f : Fr} (h : FrOk f) : (frA f).size = 26 := by simp [frA, frL, slV_length, h.len]
theorem frA_lo (f : Fr) : (frA f)[0]? = some (.int .i64 f.lo) := by simp [frA, frL]
theorem frA_he (f : Fr) : (frA f)[1]? = some (.int .i64 f.he) := by simp [frA, frL]
theorem frA_at {f : Fr} {i t : Nat} (h : f.sl[i]? = some t) : (frA f)[2 + i]? = some (.int .u8 (t : Int)) := by
  rw [Nat.add_comm 2 i]
  simp [frA, frL, slV_get h]
theorem frA_one (f : Fr) : (frA f).all (·.oneCell') = true := by
  refine all_oneCell_toArray ?_
  intro v hv
  simp only [frL, slV, List.mem_cons, List.mem_map] at hv
  rcases hv with rfl | rfl | ⟨t, _, rfl⟩ <;> rfl
theorem frA_extract (f : Fr) (h : FrOk f) : (frA f).extract 2 (2 + 24) = (slV f.sl).toArray := by
  unfold frA frL
  rw [List.extract_toArray]
  congr 1
  rw [List.extract_eq_take_drop]
  simp only [List.drop_succ_cons, List.drop_zero]
  rw [List.take_of_length_le (by rw [slV_length, h.len]; omega)]

theorem sizeFr {f : Fr} (h : FrOk f) : (Tryd.prog.info? 39).map (·.size) = some (frA f).size := by
  rw [frA_size h]
  kernel_rfl

/-! ### '==' of two frames -/
theorem infoTy : ∃ i, Tryd.prog.info? 33 = some i := info_of_underlying Tryd.underlying33
theorem cellsTy : Tryd.prog.cellsOf 33 = 1 := by kernel_rfl
theorem plainTy : Tryd.prog.plainKey 33 = true := by kernel_rfl

theorem run_eqItems_ty (w : World) (d : Nat) (xs ys : List Nat) (hl : xs.length = ys.length) : ∀ (n k : Nat), k + n = xs.length →
    (Op.eqItems (d + 1) 33 1 (slV xs).toArray (slV ys).toArray (List.range' k n)).run Tryd.prog w = .ok (xs.drop k == ys.drop k) w
  | 0, k, h => by
    rw [List.drop_of_length_le (by omega), List.drop_of_length_le (by omega)]
    simp [Op.eqItems]
  | n + 1, k, h => by
    have h1 : k < xs.length := by omega
    have h2 : k < ys.length := by omega
    have p1 := run_part_plain (P := Tryd.prog) w plainTy (xs := (slV xs).toArray) (off := k * 1) (v := .int .u8 (xs[k] : Int)) (by rw [Nat.mul_one, List.getElem?_toArray]; exact slV_get (List.getElem?_eq_getElem h1))
    have p2 := run_part_plain (P := Tryd.prog) w plainTy (xs := (slV ys).toArray) (off := k * 1) (v := .int .u8 (ys[k] : Int)) (by rw [Nat.mul_one, List.getElem?_toArray]; exact slV_get (List.getElem?_eq_getElem h2))
    have p3 := run_equalIn_int (P := Tryd.prog) w d 33 .u8 .u8 (xs[k] : Int) (ys[k] : Int) Tryd.underlying33
    have ih := run_eqItems_ty w d xs ys hl n (k + 1) (by omega)
    rw [List.range'_succ]
    simp only [Op.eqItems, Sem.run_bind, p1, p2, p3, Result.andThen_ok]
    have key : (xs.drop k == ys.drop k) = (xs[k] == ys[k] && (xs.drop (k + 1) == ys.drop (k + 1))) := by rw [List.drop_eq_getElem_cons h1, List.drop_eq_getElem_cons h2]; rfl
    rw [key]
    by_cases e : xs[k] = ys[k]
    · rw [e]
      simp only [beq_self_eq_true, Bool.not_true, Bool.false_eq_true, if_false, ih, Bool.true_and]
    · have e' : ((xs[k] : Int) == (ys[k] : Int)) = false := beq_eq_false_iff_ne.2 (by omega)
      have e2 : (xs[k] == ys[k]) = false := beq_eq_false_iff_ne.2 e
      rw [e', e2]
      rfl

theorem run_eqSlots (w : World) (d : Nat) {f g : Fr} (hf : FrOk f) (hg : FrOk g) :
    (Op.equalIn (d + 1 + 1) 37 (.agg (slV f.sl).toArray) (.agg (slV g.sl).toArray)).run Tryd.prog w = .ok (f.sl == g.sl) w := by
  obtain ⟨i, hi⟩ := infoTy
  rw [run_equalIn_array w (d + 1) _ _ Tryd.underlying37 hi, cellsTy, List.range_eq_range']
  have := run_eqItems_ty w d f.sl g.sl (by rw [hf.len, hg.len]) 24 0 (by rw [hf.len])
  simpa using this

theorem fr_struct : Tryd.prog.underlying 39 = some (.struct (Tryd.prog.fieldsOf 39)) := by
  have h := Tryd.underlying39
  unfold Program.fieldsOf
  rw [h]
theorem fr_stood : Tryd.prog.stoodInHeld 39 = false := by kernel_rfl
theorem fr_fields : (Tryd.prog.fieldsOf 39).toList.map (fun f => (f.name, f.type, f.offset)) = [("Locals", 3, 0), ("Height", 3, 1), ("Slots", 37, 2)] := by kernel_rfl
theorem fr_int : Tryd.prog.plainKey 3 = true := by kernel_rfl
theorem sl_cells : Tryd.prog.cellsOf 37 = 24 := by kernel_rfl
theorem sl_part (w : World) {x : Fr} (hx : FrOk x) : (part 37 (frA x) 2).run Tryd.prog w = .ok (.agg (slV x.sl).toArray) w := by
  have ha : (isAgg 37).run Tryd.prog w = .ok true w := by
    unfold isAgg
    rw [Sem.run_bind, run_underlying Tryd.underlying37 w]
    simp
  obtain ⟨i, hi⟩ := info_of_underlying Tryd.underlying37
  have hs : (sizeOf 37).run Tryd.prog w = .ok 24 w := by rw [run_sizeOf w hi, sl_cells]
  simp only [part, Sem.run_bind, ha, hs, Result.andThen_ok, if_true, Sem.run_pure, frA_extract x hx]

theorem eq_step {P : Program} (w : World) (d : Nat) (f : Field) (fs : List Field) (xs ys : Array Value) (va vb : Value) (r : Bool) (hn : f.name ≠ "_")
    (pa : (part f.type xs f.offset).run P w = .ok va w) (pb : (part f.type ys f.offset).run P w = .ok vb w) (q : (Op.equalIn d f.type va vb).run P w = .ok r w) :
    (Op.eqFields d xs ys (f :: fs)).run P w = if r = true then (Op.eqFields d xs ys fs).run P w else .ok false w := by
  simp only [Op.eqFields, if_pos hn, Sem.run_bind, pa, pb, q, Result.andThen_ok]
  cases r <;> simp

theorem eq3 (w : World) (d : Nat) {f g : Fr} (hf : FrOk f) (hg : FrOk g) (a b c : Field) (a1 : a.name = "Locals") (a2 : a.type = 3) (a3 : a.offset = 0)
    (b1 : b.name = "Height") (b2 : b.type = 3) (b3 : b.offset = 1) (c1 : c.name = "Slots") (c2 : c.type = 37) (c3 : c.offset = 2) :
    (Op.eqFields (d + 1 + 1) (frA f) (frA g) [a, b, c]).run Tryd.prog w = .ok (frEq f g) w := by
  rw [eq_step w (d + 1 + 1) a [b, c] (frA f) (frA g) (.int .i64 f.lo) (.int .i64 g.lo) (f.lo == g.lo) (by rw [a1]; decide)
    (by rw [a2, a3]; exact run_part_plain w fr_int (frA_lo f)) (by rw [a2, a3]; exact run_part_plain w fr_int (frA_lo g))
    (by rw [a2]; exact run_equalIn_int w (d + 1) 3 .i64 .i64 f.lo g.lo Tryd.underlying3)]
  rw [eq_step w (d + 1 + 1) b [c] (frA f) (frA g) (.int .i64 f.he) (.int .i64 g.he) (f.he == g.he) (by rw [b1]; decide)
    (by rw [b2, b3]; exact run_part_plain w fr_int (frA_he f)) (by rw [b2, b3]; exact run_part_plain w fr_int (frA_he g))
    (by rw [b2]; exact run_equalIn_int w (d + 1) 3 .i64 .i64 f.he g.he Tryd.underlying3)]
  rw [eq_step w (d + 1 + 1) c [] (frA f) (frA g) (.agg (slV f.sl).toArray) (.agg (slV g.sl).toArray) (f.sl == g.sl) (by rw [c1]; decide)
    (by rw [c2, c3]; exact sl_part w hf) (by rw [c2, c3]; exact sl_part w hg)
    (by rw [c2]; exact run_eqSlots w d hf hg)]
  unfold Op.eqFields
  rw [Sem.run_pure]
  unfold frEq
  cases (f.lo == g.lo)
  · rfl
  · cases (f.he == g.he)
    · rfl
    · cases (f.sl == g.sl) <;> rfl

theorem run_eqFr (w : World) (d : Nat) {f g : Fr} (hf : FrOk f) (hg : FrOk g) :
    (Op.equalIn (d + 1 + 1 + 1) 39 (.agg (frA f)) (.agg (frA g))).run Tryd.prog w = .ok (frEq f g) w := by
  rw [run_equalIn_agg w (d + 1 + 1) _ _ _ fr_struct fr_stood]
  have hF := fr_fields
  generalize (Tryd.prog.fieldsOf 39).toList = L at hF
  have hlen : L.length = 3 := by have := congrArg List.length hF; simpa using this
  match L, hlen, hF with
  | [a, b, c], _, hF =>
    simp only [List.map_cons, List.map_nil, List.cons.injEq, Prod.mk.injEq, and_true] at hF
    obtain ⟨⟨a1, a2, a3⟩, ⟨b1, b2, b3⟩, ⟨c1, c2, c3⟩⟩ := hF
    exact eq3 w d hf hg a b c a1 a2 a3 b1 b2 b3 c1 c2 c3
theorem run_eqlFr (w : World) {f g : Fr} (hf : FrOk f) (hg : FrOk g) : (binOp .eql 39 (.agg (frA f)) (.agg (frA g))).run Tryd.prog w = .ok (.bool (frEq f g)) w := by
  rw [run_eql_struct, show (10000 : Nat) = 9997 + 1 + 1 + 1 from rfl, run_eqFr w 9997 hf hg]
  rfl
theorem run_neqFr (w : World) {f g : Fr} (hf : FrOk f) (hg : FrOk g) : (binOp .neq 39 (.agg (frA f)) (.agg (frA g))).run Tryd.prog w = .ok (.bool (!frEq f g)) w := by
  rw [run_neq_struct, show (10000 : Nat) = 9997 + 1 + 1 + 1 from rfl, run_eqFr w 9997 hf hg]
  rfl
end Go.Proofs.YtkgnohjmfnignaaDoor
