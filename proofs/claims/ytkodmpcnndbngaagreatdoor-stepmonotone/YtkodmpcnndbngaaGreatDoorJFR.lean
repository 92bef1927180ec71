/-
  Texts of contracts and plain lemmas, one behind another; each says at its head what it holds.
-/
import Derived.Test.YtkodmpcnndbngaaGreatDoorMem
import Derived.ChangeKeysEq
import Derived.Deep.MidRow
import Derived.Deep.WholeRow
import Derived.Lib.SliceRun
import Derived.Laws.ResultCell
/-
  A frame as a plain thing: its cells, how they lie in a block, and what '==' tells of two frames. Conditions: a frame has 24 slots.
-/
namespace Go.Proofs.YtkodmpcnndbngaaGreatDoor
open Go.RowKit
set_option maxRecDepth 20000

structure Fr where
  lo : Int
  he : Int
  sl : List Nat

def tyV (t : Nat) : Value := .int .u8 (t : Int)
def slV (l : List Nat) : List Value := l.map tyV
def frL (f : Fr) : List Value := .int .i64 f.lo :: .int .i64 f.he :: slV f.sl
def frA (f : Fr) : Array Value := (frL f).toArray
structure FrOk (f : Fr) : Prop where
  len : f.sl.length = 24
  byte : ∀ t ∈ f.sl, t < 256
  lo : -9223372036854775808 ≤ f.lo ∧ f.lo ≤ 9223372036854775807
  he : -9223372036854775808 ≤ f.he ∧ f.he ≤ 9223372036854775807
def frEq (f g : Fr) : Bool := f.lo == g.lo && (f.he == g.he && f.sl == g.sl)
theorem frEq_iff {f g : Fr} : frEq f g = true ↔ f = g := by
  cases f; cases g
  simp [frEq]

theorem slV_length (l : List Nat) : (slV l).length = l.length := by simp [slV]
theorem slV_get {l : List Nat} {i : Nat} {t : Nat} (h : l[i]? = some t) : (slV l)[i]? = some (.int .u8 (t : Int)) := by simp [slV, h, tyV]
theorem frA_size {f : Fr} (h : FrOk f) : (frA f).size = 26 := by simp [frA, frL, slV_length, h.len]
theorem frA_lo (f : Fr) : (frA f)[0]? = some (.int .i64 f.lo) := by simp [frA, frL]
theorem frA_he (f : Fr) : (frA f)[1]? = some (.int .i64 f.he) := by simp [frA, frL]
theorem frA_at {f : Fr} {i t : Nat} (h : f.sl[i]? = some t) : (frA f)[2 + i]? = some (.int .u8 (t : Int)) := by
  rw [Nat.add_comm 2 i]
  simp [frA, frL, slV_get h]
theorem frA_one (f : Fr) : (frA f).all (·.oneCell') = true := by
  refine all_oneCell_toArray ?_
  intro v hv
  simp only [frL, slV, List.mem_cons, List.mem_map] at hv
  rcases hv with rfl | rfl | ⟨t, _, rfl⟩ <;> rfl
theorem frA_extract (f : Fr) (h : FrOk f) : (frA f).extract 2 (2 + 24) = (slV f.sl).toArray := by
  unfold frA frL
  rw [List.extract_toArray]
  congr 1
  rw [List.extract_eq_take_drop]
  simp only [List.drop_succ_cons, List.drop_zero]
  rw [List.take_of_length_le (by rw [slV_length, h.len]; omega)]

theorem sizeFr {f : Fr} (h : FrOk f) : (Tryz.prog.info? 29).map (·.size) = some (frA f).size := by
  rw [frA_size h]
  kernel_rfl

/-! ### '==' of two frames -/
theorem infoTy : ∃ i, Tryz.prog.info? 26 = some i := info_of_underlying Tryz.underlying26
theorem cellsTy : Tryz.prog.cellsOf 26 = 1 := by kernel_rfl
theorem plainTy : Tryz.prog.plainKey 26 = true := by kernel_rfl

theorem run_eqItems_ty (w : World) (d : Nat) (xs ys : List Nat) (hl : xs.length = ys.length) : ∀ (n k : Nat), k + n = xs.length →
    (Op.eqItems (d + 1) 26 1 (slV xs).toArray (slV ys).toArray (List.range' k n)).run Tryz.prog w = .ok (xs.drop k == ys.drop k) w
  | 0, k, h => by
    rw [List.drop_of_length_le (by omega), List.drop_of_length_le (by omega)]
    simp [Op.eqItems]
  | n + 1, k, h => by
    have h1 : k < xs.length := by omega
    have h2 : k < ys.length := by omega
    have p1 := run_part_plain (P := Tryz.prog) w plainTy (xs := (slV xs).toArray) (off := k * 1) (v := .int .u8 (xs[k] : Int)) (by rw [Nat.mul_one, List.getElem?_toArray]; exact slV_get (List.getElem?_eq_getElem h1))
    have p2 := run_part_plain (P := Tryz.prog) w plainTy (xs := (slV ys).toArray) (off := k * 1) (v := .int .u8 (ys[k] : Int)) (by rw [Nat.mul_one, List.getElem?_toArray]; exact slV_get (List.getElem?_eq_getElem h2))
    have p3 := run_equalIn_int (P := Tryz.prog) w d 26 .u8 .u8 (xs[k] : Int) (ys[k] : Int) Tryz.underlying26
    have ih := run_eqItems_ty w d xs ys hl n (k + 1) (by omega)
    rw [List.range'_succ]
    simp only [Op.eqItems, Sem.run_bind, p1, p2, p3, Result.andThen_ok]
    have key : (xs.drop k == ys.drop k) = (xs[k] == ys[k] && (xs.drop (k + 1) == ys.drop (k + 1))) := by rw [List.drop_eq_getElem_cons h1, List.drop_eq_getElem_cons h2]; rfl
    rw [key]
    by_cases e : xs[k] = ys[k]
    · rw [e]
      simp only [beq_self_eq_true, Bool.not_true, Bool.false_eq_true, if_false, ih, Bool.true_and]
    · have e' : ((xs[k] : Int) == (ys[k] : Int)) = false := beq_eq_false_iff_ne.2 (by omega)
      have e2 : (xs[k] == ys[k]) = false := beq_eq_false_iff_ne.2 e
      rw [e', e2]
      rfl

theorem run_eqSlots (w : World) (d : Nat) {f g : Fr} (hf : FrOk f) (hg : FrOk g) :
    (Op.equalIn (d + 1 + 1) 27 (.agg (slV f.sl).toArray) (.agg (slV g.sl).toArray)).run Tryz.prog w = .ok (f.sl == g.sl) w := by
  obtain ⟨i, hi⟩ := infoTy
  rw [run_equalIn_array w (d + 1) _ _ Tryz.underlying27 hi, cellsTy, List.range_eq_range']
  have := run_eqItems_ty w d f.sl g.sl (by rw [hf.len, hg.len]) 24 0 (by rw [hf.len])
  simpa using this

theorem fr_struct : Tryz.prog.underlying 29 = some (.struct (Tryz.prog.fieldsOf 29)) := by
  have h := Tryz.underlying29
  unfold Program.fieldsOf
  rw [h]
theorem fr_stood : Tryz.prog.stoodInHeld 29 = false := by kernel_rfl
theorem fr_fields : (Tryz.prog.fieldsOf 29).toList.map (fun f => (f.name, f.type, f.offset)) = [("Locals", 3, 0), ("Height", 3, 1), ("Slots", 27, 2)] := by kernel_rfl
theorem fr_int : Tryz.prog.plainKey 3 = true := by kernel_rfl
theorem sl_cells : Tryz.prog.cellsOf 27 = 24 := by kernel_rfl
theorem sl_part (w : World) {x : Fr} (hx : FrOk x) : (part 27 (frA x) 2).run Tryz.prog w = .ok (.agg (slV x.sl).toArray) w := by
  have ha : (isAgg 27).run Tryz.prog w = .ok true w := by
    unfold isAgg
    rw [Sem.run_bind, run_underlying Tryz.underlying27 w]
    simp
  obtain ⟨i, hi⟩ := info_of_underlying Tryz.underlying27
  have hs : (sizeOf 27).run Tryz.prog w = .ok 24 w := by rw [run_sizeOf w hi, sl_cells]
  simp only [part, Sem.run_bind, ha, hs, Result.andThen_ok, if_true, Sem.run_pure, frA_extract x hx]

theorem eq_step {P : Program} (w : World) (d : Nat) (f : Field) (fs : List Field) (xs ys : Array Value) (va vb : Value) (r : Bool) (hn : f.name ≠ "_")
    (pa : (part f.type xs f.offset).run P w = .ok va w) (pb : (part f.type ys f.offset).run P w = .ok vb w) (q : (Op.equalIn d f.type va vb).run P w = .ok r w) :
    (Op.eqFields d xs ys (f :: fs)).run P w = if r = true then (Op.eqFields d xs ys fs).run P w else .ok false w := by
  simp only [Op.eqFields, if_pos hn, Sem.run_bind, pa, pb, q, Result.andThen_ok]
  cases r <;> simp

theorem eq3 (w : World) (d : Nat) {f g : Fr} (hf : FrOk f) (hg : FrOk g) (a b c : Field) (a1 : a.name = "Locals") (a2 : a.type = 3) (a3 : a.offset = 0)
    (b1 : b.name = "Height") (b2 : b.type = 3) (b3 : b.offset = 1) (c1 : c.name = "Slots") (c2 : c.type = 27) (c3 : c.offset = 2) :
    (Op.eqFields (d + 1 + 1) (frA f) (frA g) [a, b, c]).run Tryz.prog w = .ok (frEq f g) w := by
  rw [eq_step w (d + 1 + 1) a [b, c] (frA f) (frA g) (.int .i64 f.lo) (.int .i64 g.lo) (f.lo == g.lo) (by rw [a1]; decide)
    (by rw [a2, a3]; exact run_part_plain w fr_int (frA_lo f)) (by rw [a2, a3]; exact run_part_plain w fr_int (frA_lo g))
    (by rw [a2]; exact run_equalIn_int w (d + 1) 3 .i64 .i64 f.lo g.lo Tryz.underlying3)]
  rw [eq_step w (d + 1 + 1) b [c] (frA f) (frA g) (.int .i64 f.he) (.int .i64 g.he) (f.he == g.he) (by rw [b1]; decide)
    (by rw [b2, b3]; exact run_part_plain w fr_int (frA_he f)) (by rw [b2, b3]; exact run_part_plain w fr_int (frA_he g))
    (by rw [b2]; exact run_equalIn_int w (d + 1) 3 .i64 .i64 f.he g.he Tryz.underlying3)]
  rw [eq_step w (d + 1 + 1) c [] (frA f) (frA g) (.agg (slV f.sl).toArray) (.agg (slV g.sl).toArray) (f.sl == g.sl) (by rw [c1]; decide)
    (by rw [c2, c3]; exact sl_part w hf) (by rw [c2, c3]; exact sl_part w hg)
    (by rw [c2]; exact run_eqSlots w d hf hg)]
  unfold Op.eqFields
  rw [Sem.run_pure]
  unfold frEq
  cases (f.lo == g.lo)
  · rfl
  · cases (f.he == g.he)
    · rfl
    · cases (f.sl == g.sl) <;> rfl

theorem run_eqFr (w : World) (d : Nat) {f g : Fr} (hf : FrOk f) (hg : FrOk g) :
    (Op.equalIn (d + 1 + 1 + 1) 29 (.agg (frA f)) (.agg (frA g))).run Tryz.prog w = .ok (frEq f g) w := by
  rw [run_equalIn_agg w (d + 1 + 1) _ _ _ fr_struct fr_stood]
  have hF := fr_fields
  generalize (Tryz.prog.fieldsOf 29).toList = L at hF
  have hlen : L.length = 3 := by have := congrArg List.length hF; simpa using this
  match L, hlen, hF with
  | [a, b, c], _, hF =>
    simp only [List.map_cons, List.map_nil, List.cons.injEq, Prod.mk.injEq, and_true] at hF
    obtain ⟨⟨a1, a2, a3⟩, ⟨b1, b2, b3⟩, ⟨c1, c2, c3⟩⟩ := hF
    exact eq3 w d hf hg a b c a1 a2 a3 b1 b2 b3 c1 c2 c3
theorem run_eqlFr (w : World) {f g : Fr} (hf : FrOk f) (hg : FrOk g) : (binOp .eql 29 (.agg (frA f)) (.agg (frA g))).run Tryz.prog w = .ok (.bool (frEq f g)) w := by
  rw [run_eql_struct, show (10000 : Nat) = 9997 + 1 + 1 + 1 from rfl, run_eqFr w 9997 hf hg]
  rfl
theorem run_neqFr (w : World) {f g : Fr} (hf : FrOk f) (hg : FrOk g) : (binOp .neq 29 (.agg (frA f)) (.agg (frA g))).run Tryz.prog w = .ok (.bool (!frEq f g)) w := by
  rw [run_neq_struct, show (10000 : Nat) = 9997 + 1 + 1 + 1 from rfl, run_eqFr w 9997 hf hg]
  rfl
end Go.Proofs.YtkodmpcnndbngaaGreatDoor

/-
  Contracts of frames.size and frames.shapeCanBe (and of provisoref03.Shape): what the plain functions say; nothing old is turned. Conditions: a frame's numbers fit an int.
-/
namespace Go.Proofs.YtkodmpcnndbngaaGreatDoor
open Go.RowKit
set_option maxRecDepth 20000

def shapeD (f : Fr) : Bool := decide (0 ≤ f.lo ∧ f.lo ≤ 16 ∧ 0 ≤ f.he ∧ f.he ≤ 24 - f.lo)
def nF (f : Fr) : Nat := (f.lo + f.he).toNat
theorem shapeD_iff {f : Fr} : shapeD f = true ↔ (0 ≤ f.lo ∧ f.lo ≤ 16 ∧ 0 ≤ f.he ∧ f.he ≤ 24 - f.lo) := by unfold shapeD; exact decide_eq_true_iff
theorem shapeD_no {f : Fr} (h : ¬ (0 ≤ f.lo ∧ f.lo ≤ 16 ∧ 0 ≤ f.he ∧ f.he ≤ 24 - f.lo)) : shapeD f = false := by unfold shapeD; exact decide_eq_false h

set_option maxHeartbeats 400000 in
theorem size_any (f : Fr) (w : World) (hs : shapeD f = true) :
    Calls Tryz.prog 57 #[.agg (frA f)] w fun e w' => e = .returned (.int .i64 (f.lo + f.he)) ∧ Below w.heap.size w w' := by
  obtain ⟨h0, h1, h2, h3⟩ := shapeD_iff.1 hs
  have c0 := frA_lo f
  have c1 := frA_he f
  clear hs
  go_enter Tryz.func57, Tryz.ntmps57
  go_wp2
  go_ret
  exact ⟨rfl, (Below.refl _ _).alloc (Nat.le_refl _) _⟩

set_option maxHeartbeats 400000 in
theorem shapeCanBe_any (f : Fr) (w : World) (hf : FrOk f) :
    Calls Tryz.prog 55 #[.agg (frA f)] w fun e w' => e = .returned (.bool (shapeD f)) ∧ Below w.heap.size w w' := by
  have c0 := frA_lo f
  have c1 := frA_he f
  obtain ⟨l1, l2⟩ := hf.lo
  obtain ⟨m1, m2⟩ := hf.he
  have hB : Below w.heap.size w (w.alloc (.cells (frA f) 29)) := (Below.refl _ _).alloc (Nat.le_refl _) _
  have HB := hide hB
  clear hf hB
  by_cases h0 : f.lo ≥ 0
  · by_cases h1 : f.lo ≤ 16
    · by_cases h2 : f.he ≥ 0
      · by_cases h3 : f.he ≤ 24 - f.lo
        · have HR : Hid (shapeD f = true) := hide (shapeD_iff.2 (by omega))
          go_enter Tryz.func55, Tryz.ntmps55
          go_wp2
          go_ret
          exact ⟨ret_bool (unhide HR).symm, unhide HB⟩
        · have HR : Hid (shapeD f = false) := hide (shapeD_no (by omega))
          go_enter Tryz.func55, Tryz.ntmps55
          go_wp2
          go_ret
          exact ⟨ret_bool (unhide HR).symm, unhide HB⟩
      · have HR : Hid (shapeD f = false) := hide (shapeD_no (by omega))
        go_enter Tryz.func55, Tryz.ntmps55
        go_wp2
        go_ret
        exact ⟨ret_bool (unhide HR).symm, unhide HB⟩
    · have HR : Hid (shapeD f = false) := hide (shapeD_no (by omega))
      go_enter Tryz.func55, Tryz.ntmps55
      go_wp2
      go_ret
      exact ⟨ret_bool (unhide HR).symm, unhide HB⟩
  · have HR : Hid (shapeD f = false) := hide (shapeD_no (by omega))
    go_enter Tryz.func55, Tryz.ntmps55
    go_wp2
    go_ret
    exact ⟨ret_bool (unhide HR).symm, unhide HB⟩
end Go.Proofs.YtkodmpcnndbngaaGreatDoor

/-
  A frame that lies in a block of its own: what is read of it, what a store makes of it. Then the contract of frames.trimmed: nothing stands behind the entries. Conditions: a frame's shape can be.
-/
namespace Go.Proofs.YtkodmpcnndbngaaGreatDoor
open Go.RowKit
set_option maxRecDepth 20000

/-- The frame lies in a block of its own. -/
def FAt (W : World) (g : Nat) (f : Fr) : Prop := W.heap[g]? = some (.cells (frA f) 29 (0, 0))
theorem FAt.lt {W : World} {g : Nat} {f : Fr} (h : FAt W g f) : g < W.heap.size := (Array.getElem?_eq_some_iff.1 h).1
theorem FAt.lo {W : World} {g : Nat} {f : Fr} (h : FAt W g f) : W.cell? ⟨g, 0, none⟩ = some (.int .i64 f.lo) := by rw [cell_of_row _ _ _ _ _ _ h, frA_lo]
theorem FAt.he {W : World} {g : Nat} {f : Fr} (h : FAt W g f) : W.cell? ⟨g, 1, none⟩ = some (.int .i64 f.he) := by rw [cell_of_row _ _ _ _ _ _ h, frA_he]
theorem FAt.slot {W : World} {g : Nat} {f : Fr} (h : FAt W g f) {i t : Nat} (ht : f.sl[i]? = some t) : W.cell? ⟨g, 2 + i, none⟩ = some (.int .u8 (t : Int)) := by rw [cell_of_row _ _ _ _ _ _ h, frA_at ht]
theorem FAt.frozen {W : World} {g : Nat} {f : Fr} (h : FAt W g f) (j : Nat) : W.frozen? ⟨g, j, none⟩ = false := frozen_of_row _ _ _ _ _ h
theorem FAt.below {W W' : World} {g : Nat} {f : Fr} {B : Nat} (h : FAt W g f) (hb : Below B W W') (hg : g < B) : FAt W' g f := (hb.block g hg).trans h
theorem FAt.new (w : World) (f : Fr) : FAt (w.alloc (.cells (frA f) 29)) w.heap.size f := heap_alloc_new w _
theorem FAt.row {W : World} {g : Nat} {f : Fr} (h : FAt W g f) (f' : Fr) : FAt (W.setRow g (frA f')) g f' := setRow_heap _ _ _ _ _ _ h
theorem FAt.rowOther {W : World} {g k : Nat} {f : Fr} (h : FAt W k f) (f' : Fr) (hne : k ≠ g) : FAt (W.setRow g (frA f')) k f := (setRow_other W g k _ hne).trans h
theorem FAt.cellOther {W : World} {k : Nat} {f : Fr} (h : FAt W k f) (a : Addr) (v : Value) (hne : k ≠ a.block) : FAt (W.setCell a v) k f := (heap_setCell_other W a k v hne).trans h

theorem slV_set (l : List Nat) (i t : Nat) : (slV l).set i (.int .u8 (t : Int)) = slV (l.set i t) := by simp [slV, List.map_set, tyV]
theorem frA_set (f : Fr) (i t : Nat) : (frA f).setIfInBounds (2 + i) (.int .u8 (t : Int)) = frA { f with sl := f.sl.set i t } := by
  rw [Nat.add_comm 2 i]
  simp [frA, frL, ← slV_set]
theorem frA_setHe (f : Fr) (n : Int) : (frA f).setIfInBounds 1 (.int .i64 n) = frA { f with he := n } := by simp [frA, frL]
theorem FAt.set {W : World} {g : Nat} {f : Fr} (h : FAt W g f) (i t : Nat) : FAt (W.setCell ⟨g, 2 + i, none⟩ (.int .u8 (t : Int))) g { f with sl := f.sl.set i t } := by
  unfold FAt
  rw [heap_setCell_same W g (2 + i) _ _ _ h, frA_set]
theorem FAt.setHe {W : World} {g : Nat} {f : Fr} (h : FAt W g f) (n : Int) : FAt (W.setCell ⟨g, 1, none⟩ (.int .i64 n)) g { f with he := n } := by
  unfold FAt
  rw [heap_setCell_same W g 1 _ _ _ h, frA_setHe]

theorem below_setRow' {B : Nat} {w W : World} (h : Below B w W) {g : Nat} (hg : B ≤ g) (cs : Array Value) : Below B w (W.setRow g cs) := by
  refine h.trans ⟨rfl, rfl, rfl, by simp, fun k hk => setRow_other W g k cs (by omega)⟩

/-- A load of a row under a guard that lets it through. -/
theorem wpList_load_rowG {P : Program} {ops : Array Oper} {rest : List Oper} {o : Oper} {a : Act} {w : World} {Q : Exit → Act → World → Prop} (hw : Region.wanted o (yielded ops a.tmps) = true) (ty : TypeId) (x : Operand) (ho : o.op = .load ty x)
    (g : Nat) (hx : a.eval x = .pointer (some ⟨g, 0, none⟩)) (t : TypeId) (cs : Array Value) (fr : Nat × Nat) (d : TypeDesc) (hg : w.heap[g]? = some (.cells cs t fr))
    (hu : P.underlying ty = some d) (hd : (match d with | .struct _ | .array _ _ => true | _ => false) = true) (hi : (P.info? ty).map (·.size) = some cs.size)
    (h : wpList P ops Q rest (a.put o.dst (.agg cs)) w) : wpList P ops Q (o :: rest) a w :=
  wpList_step fun _ hK => by rw [if_pos hw]; exact wp_load_row ty x ho g hx t cs fr d hg hu hd hi (hK _ _ h)

/-- The zero frame. -/
def frZ : Fr := ⟨0, 0, List.replicate 24 0⟩
def zeroV : Array Value := #[.int .i64 0, .int .i64 0, .int .u8 0, .int .u8 0, .int .u8 0, .int .u8 0, .int .u8 0, .int .u8 0, .int .u8 0, .int .u8 0, .int .u8 0, .int .u8 0, .int .u8 0, .int .u8 0, .int .u8 0, .int .u8 0, .int .u8 0, .int .u8 0, .int .u8 0, .int .u8 0, .int .u8 0, .int .u8 0, .int .u8 0, .int .u8 0, .int .u8 0, .int .u8 0]
theorem frZ_eq : (#[.int .i64 0, .int .i64 0, .int .u8 0, .int .u8 0, .int .u8 0, .int .u8 0, .int .u8 0, .int .u8 0, .int .u8 0, .int .u8 0, .int .u8 0, .int .u8 0, .int .u8 0, .int .u8 0, .int .u8 0, .int .u8 0, .int .u8 0, .int .u8 0, .int .u8 0, .int .u8 0, .int .u8 0, .int .u8 0, .int .u8 0, .int .u8 0, .int .u8 0, .int .u8 0] : Array Value) = frA frZ := rfl
theorem frZ_ok : FrOk frZ := ⟨rfl, fun t ht => by rw [List.eq_of_mem_replicate ht]; omega, by decide, by decide⟩

/-! ### trimmed -/
def trimL (n : Nat) (l : List Nat) : List Nat := l.take n ++ List.replicate (24 - n) 0
def trimD (f : Fr) : Fr := { f with sl := trimL (nF f) f.sl }
theorem trimL_length {n : Nat} {l : List Nat} (h : l.length = 24) (hn : n ≤ 24) : (trimL n l).length = 24 := by simp [trimL, h]; omega
theorem shape_n {f : Fr} (h : shapeD f = true) : nF f ≤ 24 := by have := shapeD_iff.1 h; unfold nF; omega
theorem trim_ok {f : Fr} (hf : FrOk f) (hs : shapeD f = true) : FrOk (trimD f) := by
  refine ⟨trimL_length hf.len (shape_n hs), fun t ht => ?_, hf.lo, hf.he⟩
  unfold trimD trimL at ht
  rcases List.mem_append.1 ht with h | h
  · exact hf.byte t (List.mem_of_mem_take h)
  · rw [List.eq_of_mem_replicate h]; omega
end Go.Proofs.YtkodmpcnndbngaaGreatDoor

/-
  The contract of frames.trimmed: nothing stands behind the entries. Conditions: a frame's shape can be.
-/
namespace Go.Proofs.YtkodmpcnndbngaaGreatDoor
open Go.RowKit
set_option maxRecDepth 20000

def zeroFrom (l : List Nat) (n : Nat) : Nat → List Nat
  | 0 => l
  | m + 1 => zeroFrom (l.set n 0) (n + 1) m
theorem zeroFrom_eq : ∀ (m n : Nat) (l : List Nat), n + m ≤ l.length → zeroFrom l n m = l.take n ++ List.replicate m 0 ++ l.drop (n + m)
  | 0, n, l, h => by simp [zeroFrom]
  | m + 1, n, l, h => by
    unfold zeroFrom
    rw [zeroFrom_eq m (n + 1) (l.set n 0) (by simp; omega)]
    apply List.ext_getElem?
    intro i
    simp only [List.append_assoc, List.getElem?_append, List.length_take, List.length_set, List.length_replicate, List.getElem?_take, List.getElem?_drop, List.getElem?_replicate, List.getElem?_set]
    have h1 : min (n + 1) l.length = n + 1 := by omega
    have h2 : min n l.length = n := by omega
    rw [h1, h2]
    by_cases c1 : i < n
    · rw [if_pos (by omega), if_pos (by omega), if_neg (by omega), if_pos (by omega), if_pos (by omega)]
    · by_cases c2 : i = n
      · subst c2
        rw [if_pos (by omega), if_pos (by omega), if_pos rfl, if_pos (by omega), if_neg (by omega), if_pos (by omega), if_pos (by omega)]
      · rw [if_neg (show ¬ i < n + 1 by omega)]
        by_cases c3 : i - (n + 1) < m
        · rw [if_pos c3, if_pos c3, if_neg (show ¬ i < n by omega), if_pos (show i - n < m + 1 by omega), if_pos (show i - n < m + 1 by omega)]
        · rw [if_neg c3, if_neg (show ¬ n = n + 1 + m + (i - (n + 1) - m) by omega), if_neg (show ¬ i < n by omega), if_neg (show ¬ i - n < m + 1 by omega)]
          congr 1
          omega
theorem zeroFrom_trim {l : List Nat} {n : Nat} (h : l.length = 24) (hn : n ≤ 24) : zeroFrom l n (24 - n) = trimL n l := by
  rw [zeroFrom_eq _ _ _ (by omega), List.drop_of_length_le (by omega), List.append_nil]
  rfl
theorem FAt.zeros {g : Nat} : ∀ (m n : Nat) (W : World) (f : Fr), FAt W g f → FAt (W.setCells g (2 + n) (List.replicate m (.int .u8 0))) g { f with sl := zeroFrom f.sl n m }
  | 0, n, W, f, h => h
  | m + 1, n, W, f, h => by
    have h1 : FAt (W.setCell ⟨g, 2 + n, none⟩ (.int .u8 0)) g { f with sl := f.sl.set n 0 } := h.set n 0
    exact FAt.zeros m (n + 1) _ _ h1

theorem below_cells {B g : Nat} (hg : B ≤ g) : ∀ (vs : List Value) (o : Nat) {a W : World}, Below B a W → Below B a (W.setCells g o vs)
  | [], _, _, _, h => h
  | v :: vs, o, _, _, h => below_cells hg vs (o + 1) (h.setCell (p := ⟨g, o, none⟩) hg v)

theorem FAt.cellsOther {g k : Nat} {f : Fr} (hne : k ≠ g) : ∀ (vs : List Value) (o : Nat) (W : World), FAt W k f → FAt (W.setCells g o vs) k f
  | [], _, _, h => h
  | v :: vs, o, _, h => FAt.cellsOther hne vs (o + 1) _ (h.cellOther ⟨g, o, none⟩ v hne)

theorem sizeEq {f g : Fr} (hf : FrOk f) (hg : FrOk g) : (frA f).size = (frA g).size := by rw [frA_size hf, frA_size hg]

theorem zeroTy : ∀ w, (zeroValue 26).run Tryz.prog w = .ok (.int .u8 0) w := (zero_of_info (n := 1) (by kernel_rfl)).1

/-- Where the slots from n on lie. -/
def fromA (g n : Nat) : Addr := if n = 24 then ⟨g, 2, none⟩ else ⟨g, 2 + n, none⟩
theorem run_fromFr (W : World) (g n : Nat) (hn : n ≤ 24) :
    (Instr.sliceAt 27 (.pointer (some ⟨g, 2, none⟩)) (some (.int .i64 (n : Int))) none none).run Tryz.prog W = .ok (.slice (some (fromA g n)) (24 - n) (24 - n)) W := by
  have hl : Tryz.prog.arrayLen 27 = 24 := by unfold Program.arrayLen; rw [Tryz.underlying27]
  have hu : Tryz.prog.underlying 27 = some (.array (Tryz.prog.arrayLen 27) (Tryz.prog.elem 27)) := by kernel_rfl
  have hz : ∀ w, (sizeOf (Tryz.prog.elem 27)).run Tryz.prog w = .ok 1 w := fun w => by
    have he : Tryz.prog.elem 27 = 26 := by kernel_rfl
    obtain ⟨i, hi⟩ := infoTy
    rw [he, run_sizeOf w hi, cellsTy]
  rw [run_sliceAt_array_l W _ _ hu .i64 (n : Int) (by omega) (by rw [hl]; omega), hz, hl]
  simp only [Result.andThen_ok, slicedAt, Int.toNat_natCast, Nat.mul_one]
  unfold fromA
  by_cases h : n = 24
  · rw [if_pos h.symm, if_pos h]
  · rw [if_neg (fun e => h e.symm), if_neg h, Addr.add_lit]

theorem run_clearFr {W : World} {g : Nat} {f : Fr} (h : FAt W g f) (hf : FrOk f) (n : Nat) (hn : n ≤ 24) (ty : TypeId) :
    ∃ W', (Builtin.clear_ #[44] ty #[.slice (some (fromA g n)) (24 - n) (24 - n)]).run Tryz.prog W = .ok (.tuple #[]) W' ∧ FAt W' g { f with sl := trimL n f.sl } ∧ (∀ B, B ≤ g → Below B W W') ∧ ∀ k f', FAt W k f' → k ≠ g → FAt W' k f' := by
  by_cases h0 : n = 24
  · subst h0
    refine ⟨W, ?_, ?_, fun B _ => Below.refl _ _, fun _ _ h _ => h⟩
    · simp [Builtin.clear_, run_underlying Tryz.underlying44]
    · have : trimL 24 f.sl = f.sl := by unfold trimL; rw [List.take_of_length_le (by rw [hf.len]; omega)]; simp
      rw [this]; exact h
  · have hc : ∀ j, j < 24 - n → (W.cell? ⟨g, 2 + n + j, none⟩).isSome = true := fun j hj => by
      obtain ⟨t, ht⟩ : ∃ t, f.sl[n + j]? = some t := ⟨_, List.getElem?_eq_getElem (show n + j < f.sl.length by rw [hf.len]; omega)⟩
      rw [Nat.add_assoc, h.slot ht]; rfl
    have ha : fromA g n = ⟨g, 2 + n, none⟩ := by unfold fromA; rw [if_neg h0]
    rw [ha]
    refine ⟨_, Lib.run_clear_slice W 44 26 ty (.int .u8 0) Tryz.underlying44 zeroTy rfl rfl g (2 + n) (24 - n) (24 - n) (by omega) hc (fun j _ => h.frozen _), ?_, fun B hB => below_cells hB _ _ (Below.refl _ _), fun k f' hk hne => FAt.cellsOther hne _ _ _ hk⟩
    rw [← zeroFrom_trim hf.len hn]
    exact FAt.zeros _ _ _ _ h

set_option maxHeartbeats 400000 in
theorem trimmed_any (f : Fr) (w : World) (hf : FrOk f) (hs : shapeD f = true) :
    Calls Tryz.prog 56 #[.agg (frA f)] w fun e w' => e = .returned (.agg (frA (trimD f))) ∧ Below w.heap.size w w' := by
  have HS := hide hs
  have HF := hide hf
  have h1 : FAt ((w.alloc (.cells (frA f) 29)).alloc (.cells (frA frZ) 29)) w.heap.size f := (FAt.new w f).below ((Below.refl _ _).alloc (Nat.le_refl _) _) (by simp)
  have h2 : FAt ((w.alloc (.cells (frA f) 29)).alloc (.cells (frA frZ) 29)) (w.heap.size + 1) frZ := by
    have := FAt.new (w.alloc (.cells (frA f) 29)) frZ
    rw [World.size_alloc] at this
    exact this
  have hB : Below w.heap.size w ((w.alloc (.cells (frA f) 29)).alloc (.cells (frA frZ) 29)) := ((Below.refl _ _).alloc (Nat.le_refl _) _).alloc (by simp) _
  have H1 := hide h1
  have H2 := hide h2
  have HB := hide hB
  clear hs hf h1 h2 hB
  go_enter Tryz.func56, Tryz.ntmps56
  go_wp2_with (refine wpList_load_row rfl 29 _ rfl w.heap.size rfl 29 (frA f) (0, 0) _ (unhide H1) Tryz.underlying29 rfl (sizeFr (unhide HF)) ?_)
  rw [frZ_eq]
  generalize ((w.alloc (.cells (frA f) 29)).alloc (.cells (frA frZ) 29)) = W at H1 H2 HB ⊢
  refine (size_any f _ (unhide HS)).mono ?_
  rintro e W1 ⟨rfl, hB1⟩
  have K1 := hide ((unhide H1).below hB1 (unhide H1).lt)
  have K2 := hide ((unhide H2).below hB1 (unhide H2).lt)
  have HB1 := hide ((unhide HB).trans (hB1.mono (unhide HB).size))
  clear hB1 H1 H2 HB W
  obtain ⟨h0, h1, h2, h3⟩ := shapeD_iff.1 (unhide HS)
  obtain ⟨n, hn⟩ : ∃ n : Nat, f.lo + f.he = (n : Int) := ⟨nF f, by unfold nF; omega⟩
  have hn24 : n ≤ 24 := by omega
  rw [hn]
  have HN : Hid (nF f = n) := hide (by unfold nF; omega)
  clear hn
  have hsl := run_fromFr W1 w.heap.size n hn24
  obtain ⟨W2, hcl, hK1, hB2, hK2⟩ := run_clearFr (unhide K1) (unhide HF) n hn24 0
  have L1 := hide hK1
  have L2 := hide (hK2 _ _ (unhide K2) (by omega))
  have HB2 := hide ((unhide HB1).trans (hB2 _ (Nat.le_refl _)))
  rw [← unhide HN] at L1
  have L1' : Hid (FAt W2 w.heap.size (trimD f)) := L1
  clear L1 hK1 hB2 hK2 K1 K2 HB1
  have HO := hide (trim_ok (unhide HF) (unhide HS))
  go_wp2_with (first | (refine wpList_load_row rfl 29 _ rfl w.heap.size rfl 29 (frA (trimD f)) (0, 0) _ (unhide L1') Tryz.underlying29 rfl (sizeFr (unhide HO)) ?_) | (refine wpList_store_row rfl 29 _ _ rfl (w.heap.size + 1) (frA (trimD f)) rfl rfl 29 (frA frZ) (unhide L2) (sizeFr (unhide HO)) (sizeEq frZ_ok (unhide HO)) (frA_one _) ?_))
  exact bodyPost_ret (v := .agg (frA (trimD f))) (results_cell_row rfl _ _ (w.heap.size + 1) 29 (frA (trimD f)) (0, 0) _ rfl ((unhide L2).row _) Tryz.underlying29 rfl (sizeFr (unhide HO))) rfl ⟨rfl, below_setRow' (unhide HB2) (by omega) _⟩
end Go.Proofs.YtkodmpcnndbngaaGreatDoor

/-
  Contracts of frames.Top and frames.Load: what the plain functions 'topD' and 'loadD' say; nothing old is turned.
-/
namespace Go.Proofs.YtkodmpcnndbngaaGreatDoor
open Go.RowKit
set_option maxRecDepth 20000

def topD (f : Fr) (n : Int) : Nat × Int :=
  if shapeD f = false then (0, 32) else if n < 0 then (0, 1) else if f.he ≤ n then (0, 30) else (f.sl.getD (nF f - 1 - n.toNat) 0, 0)
def loadD (f : Fr) (s : Int) : Nat × Int :=
  if shapeD f = false then (0, 32) else if s < 0 ∨ f.lo ≤ s then (0, 33) else (f.sl.getD s.toNat 0, 0)
def twoV (p : Nat × Int) : Value := .tuple #[.int .u8 (p.1 : Int), .int .i64 p.2]

set_option maxHeartbeats 400000 in
theorem Load_any (f : Fr) (s : Int) (w : World) (hf : FrOk f) (hw : -9223372036854775808 ≤ s ∧ s ≤ 9223372036854775807) :
    Calls Tryz.prog 59 #[.agg (frA f), .int .i64 s] w fun e w' => e = .returned (twoV (loadD f s)) ∧ Below w.heap.size w w' := by
  have HF := hide hf
  have H1 := hide (FAt.new w f)
  have HB : Hid (Below w.heap.size w (w.alloc (.cells (frA f) 29))) := hide ((Below.refl _ _).alloc (Nat.le_refl _) _)
  clear hf
  go_enter Tryz.func59, Tryz.ntmps59
  go_wp2_with (refine wpList_load_row rfl 29 _ rfl w.heap.size rfl 29 (frA f) (0, 0) _ (unhide H1) Tryz.underlying29 rfl (sizeFr (unhide HF)) ?_)
  generalize (w.alloc (.cells (frA f) 29)) = W at H1 HB ⊢
  refine (shapeCanBe_any f _ (unhide HF)).mono ?_
  rintro e W1 ⟨rfl, hB1⟩
  have K1 := hide ((unhide H1).below hB1 (unhide H1).lt)
  have HB1 := hide ((unhide HB).trans (hB1.mono (unhide HB).size))
  clear hB1 H1 HB W
  by_cases hs : shapeD f = true
  · obtain ⟨h0, h1, h2, h3⟩ := shapeD_iff.1 hs
    have c0 := (unhide K1).lo
    have c1 := (unhide K1).he
    by_cases s1 : s < 0
    · have HR : Hid (loadD f s = (0, 33)) := hide (by unfold loadD; rw [if_neg (by rw [hs]; simp), if_pos (Or.inl s1)])
      rw [hs]
      clear hs
      go_wp2
      go_ret2
      exact ⟨by rw [unhide HR]; rfl, unhide HB1⟩
    · by_cases s2 : s ≥ f.lo
      · have HR : Hid (loadD f s = (0, 33)) := hide (by unfold loadD; rw [if_neg (by rw [hs]; simp), if_pos (Or.inr s2)])
        rw [hs]
        clear hs
        go_wp2
        go_ret2
        exact ⟨by rw [unhide HR]; rfl, unhide HB1⟩
      · have HR : Hid (loadD f s = (f.sl.getD s.toNat 0, 0)) := hide (by unfold loadD; rw [if_neg (by rw [hs]; simp), if_neg (by omega)])
        have hlt : s.toNat < f.sl.length := by rw [(unhide HF).len]; omega
        have ct := (unhide K1).slot (List.getElem?_eq_getElem hlt)
        have HG : Hid (f.sl.getD s.toNat 0 = f.sl[s.toNat]) := hide (by rw [List.getD_eq_getElem?_getD, List.getElem?_eq_getElem hlt]; rfl)
        rw [unhide HG] at HR
        generalize f.sl[s.toNat] = t at ct HR
        rw [hs]
        clear hs hlt HG
        go_wp2
        go_ret2
        exact ⟨by rw [unhide HR]; rfl, unhide HB1⟩
  · have hs' : shapeD f = false := by simpa using hs
    have HR : Hid (loadD f s = (0, 32)) := hide (by unfold loadD; rw [if_pos hs'])
    rw [hs']
    clear hs hs'
    go_wp2
    go_ret2
    exact ⟨by rw [unhide HR]; rfl, unhide HB1⟩

set_option maxHeartbeats 400000 in
theorem Top_any (f : Fr) (n : Int) (w : World) (hf : FrOk f) (hw : -9223372036854775808 ≤ n ∧ n ≤ 9223372036854775807) :
    Calls Tryz.prog 103 #[.agg (frA f), .int .i64 n] w fun e w' => e = .returned (twoV (topD f n)) ∧ Below w.heap.size w w' := by
  have HF := hide hf
  have H1 := hide (FAt.new w f)
  have HB : Hid (Below w.heap.size w (w.alloc (.cells (frA f) 29))) := hide ((Below.refl _ _).alloc (Nat.le_refl _) _)
  clear hf
  go_enter Tryz.func103, Tryz.ntmps103
  go_wp2_with (refine wpList_load_row rfl 29 _ rfl w.heap.size rfl 29 (frA f) (0, 0) _ (unhide H1) Tryz.underlying29 rfl (sizeFr (unhide HF)) ?_)
  generalize (w.alloc (.cells (frA f) 29)) = W at H1 HB ⊢
  refine (shapeCanBe_any f _ (unhide HF)).mono ?_
  rintro e W1 ⟨rfl, hB1⟩
  have K1 := hide ((unhide H1).below hB1 (unhide H1).lt)
  have HB1 := hide ((unhide HB).trans (hB1.mono (unhide HB).size))
  clear hB1 H1 HB W
  by_cases hs : shapeD f = true
  · have HS := hide hs
    obtain ⟨h0, h1, h2, h3⟩ := shapeD_iff.1 hs
    have c0 := (unhide K1).lo
    have c1 := (unhide K1).he
    by_cases s1 : n < 0
    · have HR : Hid (topD f n = (0, 1)) := hide (by unfold topD; rw [if_neg (by rw [hs]; simp), if_pos s1])
      rw [hs]
      clear hs
      go_wp2
      go_ret2
      exact ⟨by rw [unhide HR]; rfl, unhide HB1⟩
    · by_cases s2 : n ≥ f.he
      · have HR : Hid (topD f n = (0, 30)) := hide (by unfold topD; rw [if_neg (by rw [hs]; simp), if_neg s1, if_pos s2])
        rw [hs]
        clear hs
        go_wp2
        go_ret2
        exact ⟨by rw [unhide HR]; rfl, unhide HB1⟩
      · have HR : Hid (topD f n = (f.sl.getD (nF f - 1 - n.toNat) 0, 0)) := hide (by unfold topD; rw [if_neg (by rw [hs]; simp), if_neg s1, if_neg s2])
        have hlt : (f.lo + f.he - 1 - n).toNat < f.sl.length := by rw [(unhide HF).len]; omega
        have ei : nF f - 1 - n.toNat = (f.lo + f.he - 1 - n).toNat := by unfold nF; omega
        rw [ei] at HR
        have HG : Hid (f.sl.getD (f.lo + f.he - 1 - n).toNat 0 = f.sl[(f.lo + f.he - 1 - n).toNat]) := hide (by rw [List.getD_eq_getElem?_getD, List.getElem?_eq_getElem hlt]; rfl)
        have ht := List.getElem?_eq_getElem hlt
        rw [unhide HG] at HR
        generalize f.sl[(f.lo + f.he - 1 - n).toNat] = t at ht HR
        rw [hs]
        have HT := hide ht
        clear hs hlt HG ei ht
        go_wp2_with (refine wpList_load_row rfl 29 _ rfl w.heap.size rfl 29 (frA f) (0, 0) _ (unhide K1) Tryz.underlying29 rfl (sizeFr (unhide HF)) ?_)
        refine (size_any f _ (unhide HS)).mono ?_
        rintro e W2 ⟨rfl, hB2⟩
        have K2 := hide ((unhide K1).below hB2 (unhide K1).lt)
        have HB2 := hide ((unhide HB1).trans (hB2.mono (unhide HB1).size))
        have ct := (unhide K2).slot (unhide HT)
        clear hB2 K1 HB1 c0 c1
        go_wp2
        go_ret2
        exact ⟨by rw [unhide HR]; rfl, unhide HB2⟩
  · have hs' : shapeD f = false := by simpa using hs
    have HR : Hid (topD f n = (0, 32)) := hide (by unfold topD; rw [if_pos hs'])
    rw [hs']
    clear hs hs'
    go_wp2
    go_ret2
    exact ⟨by rw [unhide HR]; rfl, unhide HB1⟩
end Go.Proofs.YtkodmpcnndbngaaGreatDoor

/-
  Contracts of frames.Empty, Push, Store and Pop: what the plain functions say; nothing old is turned.
-/
namespace Go.Proofs.YtkodmpcnndbngaaGreatDoor
open Go.RowKit
set_option maxRecDepth 20000

def frTwo (p : Fr × Int) : Value := .tuple #[.agg (frA p.1), .int .i64 p.2]
def frThree (p : Fr × Nat × Int) : Value := .tuple #[.agg (frA p.1), .int .u8 (p.2.1 : Int), .int .i64 p.2.2]
theorem run_addr (g : Nat) (w : World) : (asAddr (.pointer (some ⟨g, 0, none⟩))).run Tryz.prog w = .ok ⟨g, 0, none⟩ w := by simp [asAddr]
theorem results_fr2 {fn : Func} {p u : Tmp} (h : fn.results = #[.cell p 29, .tmp u]) (tmps : Array Value) (W : World) (g : Nat) (f : Fr) (e : Int) (hf : FrOk f)
    (hp : tmps.getD p undef = .pointer (some ⟨g, 0, none⟩)) (hu : tmps.getD u undef = .int .i64 e) (hg : FAt W g f) : (results fn tmps).run Tryz.prog W = .ok (frTwo (f, e)) W := by
  rw [results_cell_tmp h, hp, hu, run_addr, Result.andThen_ok, run_loadVar_row W g 29 29 (frA f) (0, 0) _ hg Tryz.underlying29 rfl (sizeFr hf), Result.andThen_ok]
  rfl
theorem results_cell_tmp2 {fn : Func} {p u v : Tmp} {ty : TypeId} (h : fn.results = #[.cell p ty, .tmp u, .tmp v]) (tmps : Array Value) (P : Program) (w : World) :
    (results fn tmps).run P w =
      ((asAddr (tmps.getD p undef)).run P w).andThen fun a w₁ => ((loadVar ty a).run P w₁).andThen fun x w₂ => .ok (.tuple #[x, tmps.getD u undef, tmps.getD v undef]) w₂ := by
  simp only [results, h]
  simp [Sem.run_bind, Result.andThen]
theorem results_fr3 {fn : Func} {p u v : Tmp} (h : fn.results = #[.cell p 29, .tmp u, .tmp v]) (tmps : Array Value) (W : World) (g : Nat) (f : Fr) (t : Nat) (e : Int) (hf : FrOk f)
    (hp : tmps.getD p undef = .pointer (some ⟨g, 0, none⟩)) (hu : tmps.getD u undef = .int .u8 (t : Int)) (hv : tmps.getD v undef = .int .i64 e) (hg : FAt W g f) : (results fn tmps).run Tryz.prog W = .ok (frThree (f, t, e)) W := by
  rw [results_cell_tmp2 h, hp, hu, hv, run_addr, Result.andThen_ok, run_loadVar_row W g 29 29 (frA f) (0, 0) _ hg Tryz.underlying29 rfl (sizeFr hf), Result.andThen_ok]
  rfl
theorem run_buildZ (w : World) : (Instr.build 29 #[]).run Tryz.prog w = .ok (.agg (frA frZ)) w := run_build w 29 _ _ (by kernel_rfl)

def pushD (f : Fr) (t : Nat) : Fr × Int :=
  if shapeD f = false then (frZ, 32) else if nF f = 24 then (frZ, 31) else (⟨f.lo, f.he + 1, (trimL (nF f) f.sl).set (nF f) t⟩, 0)
theorem set_ok {f : Fr} (hf : FrOk f) {i t : Nat} (ht : t < 256) : FrOk { f with sl := f.sl.set i t } := by
  refine ⟨by simp [hf.len], fun x hx => ?_, hf.lo, hf.he⟩
  rcases List.mem_or_eq_of_mem_set hx with h | h
  · exact hf.byte x h
  · rw [h]; exact ht

set_option maxHeartbeats 400000 in
theorem Push_any (f : Fr) (t : Nat) (w : World) (hf : FrOk f) (ht : t < 256) :
    Calls Tryz.prog 63 #[.agg (frA f), .int .u8 (t : Int)] w fun e w' => e = .returned (frTwo (pushD f t)) ∧ Below w.heap.size w w' := by
  have HF := hide hf
  have h1 : FAt ((w.alloc (.cells (frA f) 29)).alloc (.cells (frA frZ) 29)) w.heap.size f := (FAt.new w f).below ((Below.refl _ _).alloc (Nat.le_refl _) _) (by simp)
  have h2 : FAt ((w.alloc (.cells (frA f) 29)).alloc (.cells (frA frZ) 29)) (w.heap.size + 1) frZ := by
    have := FAt.new (w.alloc (.cells (frA f) 29)) frZ
    rw [World.size_alloc] at this
    exact this
  have hB : Below w.heap.size w ((w.alloc (.cells (frA f) 29)).alloc (.cells (frA frZ) 29)) := ((Below.refl _ _).alloc (Nat.le_refl _) _).alloc (by simp) _
  have H1 := hide h1
  have H2 := hide h2
  have HB := hide hB
  have hbz := run_buildZ
  clear hf h1 h2 hB
  go_enter Tryz.func63, Tryz.ntmps63
  go_wp2_with (refine wpList_load_row rfl 29 _ rfl w.heap.size rfl 29 (frA f) (0, 0) _ (unhide H1) Tryz.underlying29 rfl (sizeFr (unhide HF)) ?_)
  rw [frZ_eq]
  generalize ((w.alloc (.cells (frA f) 29)).alloc (.cells (frA frZ) 29)) = W at H1 H2 HB ⊢
  refine (shapeCanBe_any f _ (unhide HF)).mono ?_
  rintro e W1 ⟨rfl, hB1⟩
  have K1 := hide ((unhide H1).below hB1 (unhide H1).lt)
  have K2 := hide ((unhide H2).below hB1 (unhide H2).lt)
  have HB1 := hide ((unhide HB).trans (hB1.mono (unhide HB).size))
  clear hB1 H1 H2 HB W
  by_cases hs : shapeD f = true
  · have HS := hide hs
    obtain ⟨h0, h1, h2, h3⟩ := shapeD_iff.1 hs
    rw [hs]
    clear hs
    go_wp2_with (refine wpList_load_row rfl 29 _ rfl w.heap.size rfl 29 (frA f) (0, 0) _ (unhide K1) Tryz.underlying29 rfl (sizeFr (unhide HF)) ?_)
    refine (size_any f _ (unhide HS)).mono ?_
    rintro e W2 ⟨rfl, hB2⟩
    have L1 := hide ((unhide K1).below hB2 (unhide K1).lt)
    have L2 := hide ((unhide K2).below hB2 (unhide K2).lt)
    have HB2 := hide ((unhide HB1).trans (hB2.mono (unhide HB1).size))
    clear hB2 K1 K2 HB1 W1
    by_cases hn : nF f = 24
    · have HR : Hid (pushD f t = (frZ, 31)) := hide (by unfold pushD; rw [if_neg (by rw [unhide HS]; simp), if_pos hn])
      have b1 : ((f.lo + f.he : Int) == 24) = true := beq_t (by unfold nF at hn; omega)
      clear hn
      go_wp2_with (refine wpList_store_row rfl 29 _ _ rfl (w.heap.size + 1) (frA frZ) rfl rfl 29 (frA frZ) (unhide L2) (sizeFr frZ_ok) rfl (frA_one _) ?_)
      exact bodyPost_ret (v := frTwo (frZ, 31)) (results_fr2 rfl _ _ (w.heap.size + 1) frZ 31 frZ_ok rfl rfl ((unhide L2).row _)) rfl ⟨by rw [unhide HR], below_setRow' (unhide HB2) (by omega) _⟩
    · have HN24 : Hid (nF f < 24) := hide (by have := shape_n (unhide HS); omega)
      have HR : Hid (pushD f t = (⟨f.lo, f.he + 1, (trimL (nF f) f.sl).set (nF f) t⟩, 0)) := hide (by unfold pushD; rw [if_neg (by rw [unhide HS]; simp), if_neg hn])
      have b1 : ((f.lo + f.he : Int) == 24) = false := beq_f (by unfold nF at hn; omega)
      have b2 : f.lo + f.he < 24 := by have := unhide HN24; unfold nF at this; omega
      clear hn
      go_wp2_with (refine wpList_load_row rfl 29 _ rfl w.heap.size rfl 29 (frA f) (0, 0) _ (unhide L1) Tryz.underlying29 rfl (sizeFr (unhide HF)) ?_)
      refine (trimmed_any f _ (unhide HF) (unhide HS)).mono ?_
      rintro e W3 ⟨rfl, hB3⟩
      have M1 := hide ((unhide L1).below hB3 (unhide L1).lt)
      have M2 := hide ((unhide L2).below hB3 (unhide L2).lt)
      have HB3 := hide ((unhide HB2).trans (hB3.mono (unhide HB2).size))
      clear hB3 L1 L2 HB2 W2
      have HO := hide (trim_ok (unhide HF) (unhide HS))
      have HST : Hid (shapeD (trimD f) = true) := hide (unhide HS)
      have N1 := hide ((unhide M1).row (trimD f))
      have N2 := hide ((unhide M2).rowOther (g := w.heap.size) (trimD f) (by omega))
      have HB4 := hide (below_setRow' (unhide HB3) (Nat.le_refl _) (frA (trimD f)))
      go_wp2_with (first | (refine wpList_load_row rfl 29 _ rfl w.heap.size rfl 29 (frA (trimD f)) (0, 0) _ (unhide N1) Tryz.underlying29 rfl (sizeFr (unhide HO)) ?_) | (refine wpList_store_row rfl 29 _ _ rfl w.heap.size (frA (trimD f)) rfl rfl 29 (frA f) (unhide M1) (sizeFr (unhide HO)) (sizeEq (unhide HF) (unhide HO)) (frA_one _) ?_))
      generalize (W3.setRow w.heap.size (frA (trimD f))) = W4 at N1 N2 HB4 ⊢
      clear M1 M2 HB3 W3
      refine (size_any (trimD f) _ (unhide HST)).mono ?_
      rintro e W5 ⟨rfl, hB5⟩
      have P1 := hide ((unhide N1).below hB5 (unhide N1).lt)
      have P2 := hide ((unhide N2).below hB5 (unhide N2).lt)
      have HB5 := hide ((unhide HB4).trans (hB5.mono (unhide HB4).size))
      clear hB5 N1 N2 HB4 W4
      obtain ⟨n, hn⟩ : ∃ n : Nat, (trimD f).lo + (trimD f).he = (n : Int) := ⟨nF f, by show f.lo + f.he = _; unfold nF; omega⟩
      have hn24 : n < 24 := by have : f.lo + f.he = (n : Int) := hn; omega
      have HN : Hid (nF f = n) := hide (by have : f.lo + f.he = (n : Int) := hn; unfold nF; omega)
      rw [hn]
      clear hn
      have hlen : n < (trimD f).sl.length := by rw [(unhide HO).len]; exact hn24
      have c1 := (unhide P1).slot (List.getElem?_eq_getElem hlen)
      generalize (trimD f).sl[n] = old at c1
      have z1 := (unhide P1).frozen (2 + n)
      have i1 : ((n : Nat) : Int) < 24 := by omega
      have Q1 := hide ((unhide P1).set n t)
      have Q2 := hide ((unhide P2).cellOther ⟨w.heap.size, 2 + n, none⟩ (.int .u8 (t : Int)) (by simp))
      have HB6 : Hid (Below w.heap.size w (W5.setCell ⟨w.heap.size, 2 + n, none⟩ (.int .u8 (t : Int)))) := hide ((unhide HB5).setCell (p := ⟨w.heap.size, 2 + n, none⟩) (Nat.le_refl _) _)
      have c2 : (W5.setCell ⟨w.heap.size, 2 + n, none⟩ (.int .u8 (t : Int))).cell? ⟨w.heap.size, 1, none⟩ = some (.int .i64 f.he) := (unhide Q1).he
      have z2 : (W5.setCell ⟨w.heap.size, 2 + n, none⟩ (.int .u8 (t : Int))).frozen? ⟨w.heap.size, 1, none⟩ = false := (unhide Q1).frozen 1
      clear hlen
      have R1 : Hid (FAt ((W5.setCell ⟨w.heap.size, 2 + n, none⟩ (.int .u8 (t : Int))).setCell ⟨w.heap.size, 1, none⟩ (.int .i64 (f.he + 1))) w.heap.size ⟨f.lo, f.he + 1, (trimL (nF f) f.sl).set n t⟩) := hide ((unhide Q1).setHe (f.he + 1))
      have R2 := hide ((unhide Q2).cellOther ⟨w.heap.size, 1, none⟩ (.int .i64 (f.he + 1)) (by simp))
      have HB7 := hide ((unhide HB6).setCell (p := ⟨w.heap.size, 1, none⟩) (Nat.le_refl _) (.int .i64 (f.he + 1)))
      have HOK : Hid (FrOk ⟨f.lo, f.he + 1, (trimL (nF f) f.sl).set n t⟩) := hide (by
        have h := set_ok (unhide HO) (i := n) ht
        exact ⟨h.len, h.byte, h.lo, by constructor <;> show _ ≤ _ <;> simp only <;> omega⟩)
      rw [unhide HN] at R1 HOK HR
      generalize (Fr.mk f.lo (f.he + 1) ((trimL n f.sl).set n t)) = F at R1 HOK HR
      go_wp2_with (first | (refine wpList_load_row rfl 29 _ rfl w.heap.size rfl 29 (frA F) (0, 0) _ (unhide R1) Tryz.underlying29 rfl (sizeFr (unhide HOK)) ?_) | (refine wpList_store_row rfl 29 _ _ rfl (w.heap.size + 1) (frA F) rfl rfl 29 (frA frZ) (unhide R2) (sizeFr (unhide HOK)) (sizeEq frZ_ok (unhide HOK)) (frA_one _) ?_))
      exact bodyPost_ret (v := frTwo (F, 0)) (results_fr2 rfl _ _ (w.heap.size + 1) F 0 (unhide HOK) rfl rfl ((unhide R2).row _)) rfl ⟨by rw [unhide HR], below_setRow' (unhide HB7) (by omega) _⟩
  · have hs' : shapeD f = false := by simpa using hs
    have HR : Hid (pushD f t = (frZ, 32)) := hide (by unfold pushD; rw [if_pos hs'])
    rw [hs']
    clear hs hs'
    go_wp2_with (refine wpList_store_row rfl 29 _ _ rfl (w.heap.size + 1) (frA frZ) rfl rfl 29 (frA frZ) (unhide K2) (sizeFr frZ_ok) rfl (frA_one _) ?_)
    exact bodyPost_ret (v := frTwo (frZ, 32)) (results_fr2 rfl _ _ (w.heap.size + 1) frZ 32 frZ_ok rfl rfl ((unhide K2).row _)) rfl ⟨by rw [unhide HR], below_setRow' (unhide HB1) (by omega) _⟩
end Go.Proofs.YtkodmpcnndbngaaGreatDoor

/-
  Contracts of frames.Store and frames.Pop: what the plain functions say; nothing old is turned.
-/
namespace Go.Proofs.YtkodmpcnndbngaaGreatDoor
open Go.RowKit
set_option maxRecDepth 20000

def storeD (f : Fr) (s : Int) (t : Nat) : Fr × Int :=
  if (loadD f s).2 ≠ 0 then (frZ, (loadD f s).2) else (⟨f.lo, f.he, (trimL (nF f) f.sl).set s.toNat t⟩, 0)
def popD (f : Fr) : Fr × Nat × Int :=
  if (topD f 0).2 ≠ 0 then (frZ, 0, (topD f 0).2) else (⟨f.lo, f.he - 1, trimL (nF f - 1) f.sl⟩, (topD f 0).1, 0)
theorem load_good {f : Fr} {s : Int} (h : (loadD f s).2 = 0) : shapeD f = true ∧ 0 ≤ s ∧ s < f.lo := by
  unfold loadD at h
  by_cases h1 : shapeD f = false
  · rw [if_pos h1] at h; cases h
  · rw [if_neg h1] at h
    by_cases h2 : s < 0 ∨ f.lo ≤ s
    · rw [if_pos h2] at h; cases h
    · exact ⟨by simpa using h1, by omega, by omega⟩
theorem top_good {f : Fr} {n : Int} (h : (topD f n).2 = 0) : shapeD f = true ∧ 0 ≤ n ∧ n < f.he := by
  unfold topD at h
  by_cases h1 : shapeD f = false
  · rw [if_pos h1] at h; cases h
  · rw [if_neg h1] at h
    by_cases h2 : n < 0
    · rw [if_pos h2] at h; cases h
    · rw [if_neg h2] at h
      by_cases h3 : f.he ≤ n
      · rw [if_pos h3] at h; cases h
      · exact ⟨by simpa using h1, by omega, by omega⟩

set_option maxHeartbeats 400000 in
theorem Store_any (f : Fr) (s : Int) (t : Nat) (w : World) (hf : FrOk f) (hw : -9223372036854775808 ≤ s ∧ s ≤ 9223372036854775807) (ht : t < 256) :
    Calls Tryz.prog 36 #[.agg (frA f), .int .i64 s, .int .u8 (t : Int)] w fun e w' => e = .returned (frTwo (storeD f s t)) ∧ Below w.heap.size w w' := by
  have HF := hide hf
  have h1 : FAt ((w.alloc (.cells (frA f) 29)).alloc (.cells (frA frZ) 29)) w.heap.size f := (FAt.new w f).below ((Below.refl _ _).alloc (Nat.le_refl _) _) (by simp)
  have h2 : FAt ((w.alloc (.cells (frA f) 29)).alloc (.cells (frA frZ) 29)) (w.heap.size + 1) frZ := by
    have := FAt.new (w.alloc (.cells (frA f) 29)) frZ
    rw [World.size_alloc] at this
    exact this
  have hB : Below w.heap.size w ((w.alloc (.cells (frA f) 29)).alloc (.cells (frA frZ) 29)) := ((Below.refl _ _).alloc (Nat.le_refl _) _).alloc (by simp) _
  have H1 := hide h1
  have H2 := hide h2
  have HB := hide hB
  have hbz := run_buildZ
  clear hf h1 h2 hB
  go_enter Tryz.func36, Tryz.ntmps36
  go_wp2_with (refine wpList_load_row rfl 29 _ rfl w.heap.size rfl 29 (frA f) (0, 0) _ (unhide H1) Tryz.underlying29 rfl (sizeFr (unhide HF)) ?_)
  rw [frZ_eq]
  generalize ((w.alloc (.cells (frA f) 29)).alloc (.cells (frA frZ) 29)) = W at H1 H2 HB ⊢
  refine (Load_any f s _ (unhide HF) hw).mono ?_
  rintro e W1 ⟨rfl, hB1⟩
  have K1 := hide ((unhide H1).below hB1 (unhide H1).lt)
  have K2 := hide ((unhide H2).below hB1 (unhide H2).lt)
  have HB1 := hide ((unhide HB).trans (hB1.mono (unhide HB).size))
  clear hB1 H1 H2 HB W
  unfold twoV
  by_cases he : (loadD f s).2 = 0
  · obtain ⟨hs, s1, s2⟩ := load_good he
    have HS := hide hs
    obtain ⟨h0, h1, h2, h3⟩ := shapeD_iff.1 hs
    have HR : Hid (storeD f s t = (⟨f.lo, f.he, (trimL (nF f) f.sl).set s.toNat t⟩, 0)) := hide (by unfold storeD; rw [if_neg (by rw [he]; simp)])
    have HE := hide he
    rw [he]
    clear he hs
    generalize (loadD f s).1 = x
    go_wp2_with (refine wpList_load_row rfl 29 _ rfl w.heap.size rfl 29 (frA f) (0, 0) _ (unhide K1) Tryz.underlying29 rfl (sizeFr (unhide HF)) ?_)
    refine (trimmed_any f _ (unhide HF) (unhide HS)).mono ?_
    rintro e W3 ⟨rfl, hB3⟩
    have M1 := hide ((unhide K1).below hB3 (unhide K1).lt)
    have M2 := hide ((unhide K2).below hB3 (unhide K2).lt)
    have HB3 := hide ((unhide HB1).trans (hB3.mono (unhide HB1).size))
    clear hB3 K1 K2 HB1 W1
    have HO := hide (trim_ok (unhide HF) (unhide HS))
    have N1 := hide ((unhide M1).row (trimD f))
    have N2 := hide ((unhide M2).rowOther (g := w.heap.size) (trimD f) (by omega))
    have HB4 := hide (below_setRow' (unhide HB3) (Nat.le_refl _) (frA (trimD f)))
    obtain ⟨n, rfl⟩ : ∃ n : Nat, s = (n : Int) := ⟨s.toNat, by omega⟩
    rw [Int.toNat_natCast] at HR
    have hlen : n < (trimD f).sl.length := by rw [(unhide HO).len]; omega
    have c1 := (unhide N1).slot (List.getElem?_eq_getElem hlen)
    generalize (trimD f).sl[n] = old at c1
    have z1 := (unhide N1).frozen (2 + n)
    have i1 : ((n : Nat) : Int) < 24 := by omega
    have R1 : Hid (FAt ((W3.setRow w.heap.size (frA (trimD f))).setCell ⟨w.heap.size, 2 + n, none⟩ (.int .u8 (t : Int))) w.heap.size ⟨f.lo, f.he, (trimL (nF f) f.sl).set n t⟩) := hide ((unhide N1).set n t)
    have R2 := hide ((unhide N2).cellOther ⟨w.heap.size, 2 + n, none⟩ (.int .u8 (t : Int)) (by simp))
    have HB7 := hide ((unhide HB4).setCell (p := ⟨w.heap.size, 2 + n, none⟩) (Nat.le_refl _) (.int .u8 (t : Int)))
    have HOK : Hid (FrOk ⟨f.lo, f.he, (trimL (nF f) f.sl).set n t⟩) := hide (set_ok (unhide HO) (i := n) ht)
    generalize (Fr.mk f.lo f.he ((trimL (nF f) f.sl).set n t)) = F at R1 HOK HR
    clear hlen
    go_wp2_with (first | (refine wpList_load_row rfl 29 _ rfl w.heap.size rfl 29 (frA F) (0, 0) _ (unhide R1) Tryz.underlying29 rfl (sizeFr (unhide HOK)) ?_) | (refine wpList_store_row rfl 29 _ _ rfl w.heap.size (frA (trimD f)) rfl rfl 29 (frA f) (unhide M1) (sizeFr (unhide HO)) (sizeEq (unhide HF) (unhide HO)) (frA_one _) ?_) | (refine wpList_store_row rfl 29 _ _ rfl (w.heap.size + 1) (frA F) rfl rfl 29 (frA frZ) (unhide R2) (sizeFr (unhide HOK)) (sizeEq frZ_ok (unhide HOK)) (frA_one _) ?_))
    exact bodyPost_ret (v := frTwo (F, 0)) (results_fr2 rfl _ _ (w.heap.size + 1) F 0 (unhide HOK) rfl rfl ((unhide R2).row _)) rfl ⟨by rw [unhide HR], below_setRow' (unhide HB7) (by omega) _⟩
  · have HR : Hid (storeD f s t = (frZ, (loadD f s).2)) := hide (by unfold storeD; rw [if_pos he])
    generalize (loadD f s).2 = er at he HR ⊢
    generalize (loadD f s).1 = x
    have b1 := bne_t he
    clear he
    go_wp2_with (refine wpList_store_row rfl 29 _ _ rfl (w.heap.size + 1) (frA frZ) rfl rfl 29 (frA frZ) (unhide K2) (sizeFr frZ_ok) (sizeEq frZ_ok frZ_ok) (frA_one _) ?_)
    exact bodyPost_ret (v := frTwo (frZ, er)) (results_fr2 rfl _ _ (w.heap.size + 1) frZ er frZ_ok rfl rfl ((unhide K2).row _)) rfl ⟨by rw [unhide HR], below_setRow' (unhide HB1) (by omega) _⟩

set_option maxHeartbeats 400000 in
theorem Pop_any (f : Fr) (w : World) (hf : FrOk f) :
    Calls Tryz.prog 61 #[.agg (frA f)] w fun e w' => e = .returned (frThree (popD f)) ∧ Below w.heap.size w w' := by
  have HF := hide hf
  have h1 : FAt ((w.alloc (.cells (frA f) 29)).alloc (.cells (frA frZ) 29)) w.heap.size f := (FAt.new w f).below ((Below.refl _ _).alloc (Nat.le_refl _) _) (by simp)
  have h2 : FAt ((w.alloc (.cells (frA f) 29)).alloc (.cells (frA frZ) 29)) (w.heap.size + 1) frZ := by
    have := FAt.new (w.alloc (.cells (frA f) 29)) frZ
    rw [World.size_alloc] at this
    exact this
  have hB : Below w.heap.size w ((w.alloc (.cells (frA f) 29)).alloc (.cells (frA frZ) 29)) := ((Below.refl _ _).alloc (Nat.le_refl _) _).alloc (by simp) _
  have H1 := hide h1
  have H2 := hide h2
  have HB := hide hB
  have hbz := run_buildZ
  clear hf h1 h2 hB
  go_enter Tryz.func61, Tryz.ntmps61
  go_wp2_with (refine wpList_load_row rfl 29 _ rfl w.heap.size rfl 29 (frA f) (0, 0) _ (unhide H1) Tryz.underlying29 rfl (sizeFr (unhide HF)) ?_)
  rw [frZ_eq]
  generalize ((w.alloc (.cells (frA f) 29)).alloc (.cells (frA frZ) 29)) = W at H1 H2 HB ⊢
  refine (Top_any f 0 _ (unhide HF) (by omega)).mono ?_
  rintro e W1 ⟨rfl, hB1⟩
  have K1 := hide ((unhide H1).below hB1 (unhide H1).lt)
  have K2 := hide ((unhide H2).below hB1 (unhide H2).lt)
  have HB1 := hide ((unhide HB).trans (hB1.mono (unhide HB).size))
  clear hB1 H1 H2 HB W
  unfold twoV
  by_cases he : (topD f 0).2 = 0
  · obtain ⟨hs, s1, s2⟩ := top_good he
    have HS := hide hs
    obtain ⟨h0, h1, h2, h3⟩ := shapeD_iff.1 hs
    have HR : Hid (popD f = (⟨f.lo, f.he - 1, trimL (nF f - 1) f.sl⟩, (topD f 0).1, 0)) := hide (by unfold popD; rw [if_neg (by rw [he]; simp)])
    rw [he]
    clear he hs
    generalize (topD f 0).1 = x at HR ⊢
    have c1 := (unhide K1).he
    have z1 := (unhide K1).frozen 1
    have N1 : Hid (FAt (W1.setCell ⟨w.heap.size, 1, none⟩ (.int .i64 (f.he - 1))) w.heap.size ⟨f.lo, f.he - 1, f.sl⟩) := hide ((unhide K1).setHe (f.he - 1))
    have N2 := hide ((unhide K2).cellOther ⟨w.heap.size, 1, none⟩ (.int .i64 (f.he - 1)) (by simp))
    have HB4 := hide ((unhide HB1).setCell (p := ⟨w.heap.size, 1, none⟩) (Nat.le_refl _) (.int .i64 (f.he - 1)))
    have HO : Hid (FrOk ⟨f.lo, f.he - 1, f.sl⟩) := hide ⟨(unhide HF).len, (unhide HF).byte, (unhide HF).lo, by constructor <;> show _ ≤ _ <;> simp only <;> omega⟩
    have HS2 : Hid (shapeD ⟨f.lo, f.he - 1, f.sl⟩ = true) := hide (shapeD_iff.2 (by simp only; omega))
    have HT : Hid (trimD ⟨f.lo, f.he - 1, f.sl⟩ = ⟨f.lo, f.he - 1, trimL (nF f - 1) f.sl⟩) := hide (by
      unfold trimD
      have : nF ⟨f.lo, f.he - 1, f.sl⟩ = nF f - 1 := by unfold nF; simp only; omega
      rw [this])
    generalize (Fr.mk f.lo (f.he - 1) f.sl) = F0 at N1 HO HS2 HT
    go_wp2_with (refine wpList_load_row rfl 29 _ rfl w.heap.size rfl 29 (frA F0) (0, 0) _ (unhide N1) Tryz.underlying29 rfl (sizeFr (unhide HO)) ?_)
    generalize (W1.setCell ⟨w.heap.size, 1, none⟩ (.int .i64 (f.he - 1))) = W2 at N1 N2 HB4 ⊢
    refine (trimmed_any F0 _ (unhide HO) (unhide HS2)).mono ?_
    rintro e W3 ⟨rfl, hB3⟩
    have M1 := hide ((unhide N1).below hB3 (unhide N1).lt)
    have M2 := hide ((unhide N2).below hB3 (unhide N2).lt)
    have HB3 := hide ((unhide HB4).trans (hB3.mono (unhide HB4).size))
    clear hB3 N1 N2 HB4 W2
    have HOK := hide (trim_ok (unhide HO) (unhide HS2))
    rw [← unhide HT] at HR
    generalize trimD F0 = F at HOK HR ⊢
    go_wp2_with (refine wpList_store_row rfl 29 _ _ rfl (w.heap.size + 1) (frA F) rfl rfl 29 (frA frZ) (unhide M2) (sizeFr (unhide HOK)) (sizeEq frZ_ok (unhide HOK)) (frA_one _) ?_)
    exact bodyPost_ret (v := frThree (F, x, 0)) (results_fr3 rfl _ _ (w.heap.size + 1) F x 0 (unhide HOK) rfl rfl rfl ((unhide M2).row _)) rfl ⟨by rw [unhide HR], below_setRow' (unhide HB3) (by omega) _⟩
  · have HR : Hid (popD f = (frZ, 0, (topD f 0).2)) := hide (by unfold popD; rw [if_pos he])
    generalize (topD f 0).2 = er at he HR ⊢
    generalize (topD f 0).1 = x
    have b1 := bne_t he
    clear he
    go_wp2_with (refine wpList_store_row rfl 29 _ _ rfl (w.heap.size + 1) (frA frZ) rfl rfl 29 (frA frZ) (unhide K2) (sizeFr frZ_ok) (sizeEq frZ_ok frZ_ok) (frA_one _) ?_)
    exact bodyPost_ret (v := frThree (frZ, 0, er)) (results_fr3 rfl _ _ (w.heap.size + 1) frZ 0 er frZ_ok rfl rfl rfl ((unhide K2).row _)) rfl ⟨by rw [unhide HR], below_setRow' (unhide HB1) (by omega) _⟩
end Go.Proofs.YtkodmpcnndbngaaGreatDoor

/-
  Slots set to zero, one behind another. No Go in it.
-/
namespace Go.Proofs.YtkodmpcnndbngaaGreatDoor
open Go.RowKit
set_option maxRecDepth 20000

/-- Slots n up to k set to zero. -/
def zeroTo (l : List Nat) (n k : Nat) : List Nat := zeroFrom l n (k - n)
theorem zeroFrom_snoc : ∀ (m n : Nat) (l : List Nat), (zeroFrom l n m).set (n + m) 0 = zeroFrom l n (m + 1)
  | 0, n, l => rfl
  | m + 1, n, l => by
    have := zeroFrom_snoc m (n + 1) (l.set n 0)
    unfold zeroFrom
    rw [show n + (m + 1) = n + 1 + m from by omega]
    exact this
theorem zeroTo_succ (l : List Nat) {n k : Nat} (h : n ≤ k) : (zeroTo l n k).set k 0 = zeroTo l n (k + 1) := by
  unfold zeroTo
  have := zeroFrom_snoc (k - n) n l
  rw [show n + (k - n) = k from by omega] at this
  rw [this, show k + 1 - n = k - n + 1 from by omega]
theorem zeroFrom_length : ∀ (m n : Nat) (l : List Nat), (zeroFrom l n m).length = l.length
  | 0, _, _ => rfl
  | m + 1, n, l => by unfold zeroFrom; rw [zeroFrom_length m, List.length_set]

end Go.Proofs.YtkodmpcnndbngaaGreatDoor

/-
  The contract of provisoref03.bare: nothing stands behind the entries. Conditions: a frame's shape can be.
-/
namespace Go.Proofs.YtkodmpcnndbngaaGreatDoor
open Go.RowKit
set_option maxRecDepth 20000

set_option maxHeartbeats 400000 in
theorem bare_any (f : Fr) (w : World) (hf : FrOk f) (hs : shapeD f = true) :
    Calls Tryz.prog 67 #[.agg (frA f)] w fun e w' => e = .returned (.agg (frA (trimD f))) ∧ Below w.heap.size w w' := by
  have HS := hide hs
  have HF := hide hf
  have h1 : FAt ((w.alloc (.cells (frA f) 29)).alloc (.cells (frA frZ) 29)) w.heap.size f := (FAt.new w f).below ((Below.refl _ _).alloc (Nat.le_refl _) _) (by simp)
  have h2 : FAt ((w.alloc (.cells (frA f) 29)).alloc (.cells (frA frZ) 29)) (w.heap.size + 1) frZ := by
    have := FAt.new (w.alloc (.cells (frA f) 29)) frZ
    rw [World.size_alloc] at this
    exact this
  have hB : Below w.heap.size w ((w.alloc (.cells (frA f) 29)).alloc (.cells (frA frZ) 29)) := ((Below.refl _ _).alloc (Nat.le_refl _) _).alloc (by simp) _
  obtain ⟨g0, g1, g2, g3⟩ := shapeD_iff.1 hs
  have e0 := frA_lo f
  have e1 := frA_he f
  have H1 := hide h1
  have H2 := hide h2
  have HB := hide hB
  clear hs hf h1 h2 hB
  go_enter Tryz.func67, Tryz.ntmps67
  go_wp2
  rw [frZ_eq]
  generalize ((w.alloc (.cells (frA f) 29)).alloc (.cells (frA frZ) 29)) = W at H1 H2 HB ⊢
  obtain ⟨n, hn⟩ : ∃ n : Nat, f.lo + f.he = (n : Int) := ⟨nF f, by unfold nF; omega⟩
  have hn24 : n ≤ 24 := by omega
  have HN : Hid (nF f = n) := hide (by unfold nF; omega)
  rw [hn]
  clear hn e0 e1
  go_loopw [3] (fun i wr => ∃ k : Nat, n ≤ k ∧ k ≤ 24 ∧ i = .int .i64 (k : Int) ∧ Hid (FAt wr w.heap.size { f with sl := zeroTo f.sl n k }) ∧ Hid (FAt wr (w.heap.size + 1) frZ) ∧ Hid (Below w.heap.size w wr)) (fun i _ => 24 - (intOf i).toNat)
  case atStart => exact ⟨n, by omega, by omega, rfl, by unfold zeroTo; rw [Nat.sub_self]; exact H1, H2, HB⟩
  case round =>
    clear H1 H2 HB
    obtain ⟨k, hnk, hk, rfl, H1, H2, HB⟩ := hrel
    by_cases hlt : k < 24
    · have i1 : ((k : Nat) : Int) < 24 := by omega
      have hlen : k < (zeroTo f.sl n k).length := by unfold zeroTo; rw [zeroFrom_length, (unhide HF).len]; exact hlt
      have c1 := (unhide H1).slot (List.getElem?_eq_getElem hlen)
      generalize (zeroTo f.sl n k)[k] = old at c1
      have z1 := (unhide H1).frozen (2 + k)
      have R1 : Hid (FAt (wr.setCell ⟨w.heap.size, 2 + k, none⟩ (.int .u8 0)) w.heap.size { f with sl := zeroTo f.sl n (k + 1) }) := hide (by
        have := (unhide H1).set k 0
        rw [show ({ f with sl := zeroTo f.sl n k } : Fr).sl = zeroTo f.sl n k from rfl, zeroTo_succ _ hnk] at this
        exact this)
      have R2 := hide ((unhide H2).cellOther ⟨w.heap.size, 2 + k, none⟩ (.int .u8 0) (by simp))
      have HB2 := hide ((unhide HB).setCell (p := ⟨w.heap.size, 2 + k, none⟩) (Nat.le_refl _) (.int .u8 0))
      clear hlen H1 H2 HB
      go_wp2
      go_roundw
      case rel => exact ⟨k + 1, by omega, by omega, by go_num, R1, R2, HB2⟩
      case measure => simp [intOf]; omega
    · have i1 : ¬ ((k : Nat) : Int) < 24 := by omega
      have HT : Hid (({ f with sl := zeroTo f.sl n k } : Fr) = trimD f) := hide (by
        unfold trimD zeroTo
        rw [show k - n = 24 - n from by omega, zeroFrom_trim (unhide HF).len hn24, unhide HN])
      rw [unhide HT] at H1
      have HO := hide (trim_ok (unhide HF) (unhide HS))
      clear HT
      obtain ⟨F, HE⟩ : ∃ F, Hid (trimD f = F) := ⟨_, hide rfl⟩
      rw [unhide HE] at H1 HO
      go_wp2_with (first | (refine wpList_load_row rfl 29 _ rfl w.heap.size rfl 29 (frA F) (0, 0) _ (unhide H1) Tryz.underlying29 rfl (sizeFr (unhide HO)) ?_) | (refine wpList_store_row rfl 29 _ _ rfl (w.heap.size + 1) (frA F) rfl rfl 29 (frA frZ) (unhide H2) (sizeFr (unhide HO)) (sizeEq frZ_ok (unhide HO)) (frA_one _) ?_))
      exact bodyPost_ret (v := .agg (frA F)) (results_cell_row rfl _ _ (w.heap.size + 1) 29 (frA F) (0, 0) _ rfl ((unhide H2).row _) Tryz.underlying29 rfl (sizeFr (unhide HO))) rfl ⟨by rw [unhide HE], below_setRow' (unhide HB) (by omega) _⟩
end Go.Proofs.YtkodmpcnndbngaaGreatDoor

/-
  The contract of provisoref03.Shape: what the plain function 'shapeD' says; nothing old is turned.
-/
namespace Go.Proofs.YtkodmpcnndbngaaGreatDoor
open Go.RowKit
set_option maxRecDepth 20000

set_option maxHeartbeats 400000 in
theorem refShape_any (f : Fr) (w : World) (hf : FrOk f) :
    Calls Tryz.prog 26 #[.agg (frA f)] w fun e w' => e = .returned (.bool (shapeD f)) ∧ Below w.heap.size w w' := by
  have c0 := frA_lo f
  have c1 := frA_he f
  obtain ⟨l1, l2⟩ := hf.lo
  obtain ⟨m1, m2⟩ := hf.he
  have hB : Below w.heap.size w (w.alloc (.cells (frA f) 29)) := (Below.refl _ _).alloc (Nat.le_refl _) _
  have HB := hide hB
  clear hf hB
  by_cases h0 : f.lo ≥ 0
  · by_cases h1 : f.lo ≤ 16
    · by_cases h2 : f.he ≥ 0
      · by_cases h3 : f.lo + f.he ≤ 24
        · have HR : Hid (shapeD f = true) := hide (shapeD_iff.2 (by omega))
          have h4 : f.he ≤ 24 := by omega
          go_enter Tryz.func26, Tryz.ntmps26
          go_wp2
          go_ret
          exact ⟨ret_bool (unhide HR).symm, unhide HB⟩
        · have HR : Hid (shapeD f = false) := hide (shapeD_no (by omega))
          by_cases h4 : f.he ≤ 24
          · go_enter Tryz.func26, Tryz.ntmps26
            go_wp2
            go_ret
            exact ⟨ret_bool (unhide HR).symm, unhide HB⟩
          · go_enter Tryz.func26, Tryz.ntmps26
            go_wp2
            go_ret
            exact ⟨ret_bool (unhide HR).symm, unhide HB⟩
      · have HR : Hid (shapeD f = false) := hide (shapeD_no (by omega))
        go_enter Tryz.func26, Tryz.ntmps26
        go_wp2
        go_ret
        exact ⟨ret_bool (unhide HR).symm, unhide HB⟩
    · have HR : Hid (shapeD f = false) := hide (shapeD_no (by omega))
      go_enter Tryz.func26, Tryz.ntmps26
      go_wp2
      go_ret
      exact ⟨ret_bool (unhide HR).symm, unhide HB⟩
  · have HR : Hid (shapeD f = false) := hide (shapeD_no (by omega))
    go_enter Tryz.func26, Tryz.ntmps26
    go_wp2
    go_ret
    exact ⟨ret_bool (unhide HR).symm, unhide HB⟩
end Go.Proofs.YtkodmpcnndbngaaGreatDoor

/-
  Contracts of provisoref03's Top, Load, Push, Pop and Store: what the plain functions say; nothing old is turned.
-/
namespace Go.Proofs.YtkodmpcnndbngaaGreatDoor
open Go.RowKit
set_option maxRecDepth 20000

set_option maxHeartbeats 2000000 in
theorem refPush_any (f : Fr) (t : Nat) (w : World) (hf : FrOk f) (ht : t < 256) :
    Calls Tryz.prog 46 #[.agg (frA f), .int .u8 (t : Int)] w fun e w' => e = .returned (frTwo (pushD f t)) ∧ Below w.heap.size w w' := by
  have HF := hide hf
  have h1 : FAt ((w.alloc (.cells (frA f) 29)).alloc (.cells (frA frZ) 29)) w.heap.size f := (FAt.new w f).below ((Below.refl _ _).alloc (Nat.le_refl _) _) (by simp)
  have h2 : FAt ((w.alloc (.cells (frA f) 29)).alloc (.cells (frA frZ) 29)) (w.heap.size + 1) frZ := by
    have := FAt.new (w.alloc (.cells (frA f) 29)) frZ
    rw [World.size_alloc] at this
    exact this
  have hB : Below w.heap.size w ((w.alloc (.cells (frA f) 29)).alloc (.cells (frA frZ) 29)) := ((Below.refl _ _).alloc (Nat.le_refl _) _).alloc (by simp) _
  have H1 := hide h1
  have H2 := hide h2
  have HB := hide hB
  have hbz := run_buildZ
  clear hf h1 h2 hB
  go_enter Tryz.func46, Tryz.ntmps46
  go_wp2_with (refine wpList_load_row rfl 29 _ rfl w.heap.size rfl 29 (frA f) (0, 0) _ (unhide H1) Tryz.underlying29 rfl (sizeFr (unhide HF)) ?_)
  rw [frZ_eq]
  generalize ((w.alloc (.cells (frA f) 29)).alloc (.cells (frA frZ) 29)) = W at H1 H2 HB ⊢
  refine (refShape_any f _ (unhide HF)).mono ?_
  rintro e W1 ⟨rfl, hB1⟩
  have K1 := hide ((unhide H1).below hB1 (unhide H1).lt)
  have K2 := hide ((unhide H2).below hB1 (unhide H2).lt)
  have HB1 := hide ((unhide HB).trans (hB1.mono (unhide HB).size))
  clear hB1 H1 H2 HB W
  by_cases hs : shapeD f = true
  · have HS := hide hs
    obtain ⟨h0, h1, h2, h3⟩ := shapeD_iff.1 hs
    have d0 := (unhide K1).lo
    have d1 := (unhide K1).he
    rw [hs]
    clear hs
    by_cases hn : nF f = 24
    · have HR : Hid (pushD f t = (frZ, 31)) := hide (by unfold pushD; rw [if_neg (by rw [unhide HS]; simp), if_pos hn])
      have b1 : ((f.lo + f.he : Int) == 24) = true := beq_t (by unfold nF at hn; omega)
      clear hn
      go_wp2_with (refine wpList_store_row rfl 29 _ _ rfl (w.heap.size + 1) (frA frZ) rfl rfl 29 (frA frZ) (unhide K2) (sizeFr frZ_ok) (sizeEq frZ_ok frZ_ok) (frA_one _) ?_)
      exact bodyPost_ret (v := frTwo (frZ, 31)) (results_fr2 rfl _ _ (w.heap.size + 1) frZ 31 frZ_ok rfl rfl ((unhide K2).row _)) rfl ⟨by rw [unhide HR], below_setRow' (unhide HB1) (by omega) _⟩
    · have HN24 : Hid (nF f < 24) := hide (by have := shape_n (unhide HS); omega)
      have HR : Hid (pushD f t = (⟨f.lo, f.he + 1, (trimL (nF f) f.sl).set (nF f) t⟩, 0)) := hide (by unfold pushD; rw [if_neg (by rw [unhide HS]; simp), if_neg hn])
      have b1 : ((f.lo + f.he : Int) == 24) = false := beq_f (by unfold nF at hn; omega)
      have b2 : f.lo + f.he < 24 := by have := unhide HN24; unfold nF at this; omega
      clear hn
      go_wp2_with (refine wpList_load_row rfl 29 _ rfl w.heap.size rfl 29 (frA f) (0, 0) _ (unhide K1) Tryz.underlying29 rfl (sizeFr (unhide HF)) ?_)
      refine (bare_any f _ (unhide HF) (unhide HS)).mono ?_
      rintro e W3 ⟨rfl, hB3⟩
      have M1 := hide ((unhide K1).below hB3 (unhide K1).lt)
      have M2 := hide ((unhide K2).below hB3 (unhide K2).lt)
      have HB3 := hide ((unhide HB1).trans (hB3.mono (unhide HB1).size))
      clear hB3 K1 K2 HB1 d0 d1 W1
      have HO := hide (trim_ok (unhide HF) (unhide HS))
      have N1 := hide ((unhide M1).row (trimD f))
      have N2 := hide ((unhide M2).rowOther (g := w.heap.size) (trimD f) (by omega))
      have HB4 := hide (below_setRow' (unhide HB3) (Nat.le_refl _) (frA (trimD f)))
      obtain ⟨n, hn⟩ : ∃ n : Nat, f.lo + f.he = (n : Int) := ⟨nF f, by unfold nF; omega⟩
      have hn24 : n < 24 := by omega
      have HN : Hid (nF f = n) := hide (by unfold nF; omega)
      rw [hn]
      rw [hn] at b1
      clear hn b2
      have hlen : n < (trimD f).sl.length := by rw [(unhide HO).len]; exact hn24
      have c1 := (unhide N1).slot (List.getElem?_eq_getElem hlen)
      generalize (trimD f).sl[n] = old at c1
      have z1 := (unhide N1).frozen (2 + n)
      have i1 : ((n : Nat) : Int) < 24 := by omega
      have Q1 := hide ((unhide N1).set n t)
      have Q2 := hide ((unhide N2).cellOther ⟨w.heap.size, 2 + n, none⟩ (.int .u8 (t : Int)) (by simp))
      have HB6 : Hid (Below w.heap.size w ((W3.setRow w.heap.size (frA (trimD f))).setCell ⟨w.heap.size, 2 + n, none⟩ (.int .u8 (t : Int)))) := hide ((unhide HB4).setCell (p := ⟨w.heap.size, 2 + n, none⟩) (Nat.le_refl _) _)
      have c2 : ((W3.setRow w.heap.size (frA (trimD f))).setCell ⟨w.heap.size, 2 + n, none⟩ (.int .u8 (t : Int))).cell? ⟨w.heap.size, 1, none⟩ = some (.int .i64 f.he) := (unhide Q1).he
      have z2 : ((W3.setRow w.heap.size (frA (trimD f))).setCell ⟨w.heap.size, 2 + n, none⟩ (.int .u8 (t : Int))).frozen? ⟨w.heap.size, 1, none⟩ = false := (unhide Q1).frozen 1
      clear hlen
      have R1 : Hid (FAt (((W3.setRow w.heap.size (frA (trimD f))).setCell ⟨w.heap.size, 2 + n, none⟩ (.int .u8 (t : Int))).setCell ⟨w.heap.size, 1, none⟩ (.int .i64 (f.he + 1))) w.heap.size ⟨f.lo, f.he + 1, (trimL (nF f) f.sl).set n t⟩) := hide ((unhide Q1).setHe (f.he + 1))
      have R2 := hide ((unhide Q2).cellOther ⟨w.heap.size, 1, none⟩ (.int .i64 (f.he + 1)) (by simp))
      have HB7 := hide ((unhide HB6).setCell (p := ⟨w.heap.size, 1, none⟩) (Nat.le_refl _) (.int .i64 (f.he + 1)))
      have HOK : Hid (FrOk ⟨f.lo, f.he + 1, (trimL (nF f) f.sl).set n t⟩) := hide (by
        have h := set_ok (unhide HO) (i := n) ht
        exact ⟨h.len, h.byte, h.lo, by constructor <;> show _ ≤ _ <;> simp only <;> omega⟩)
      rw [unhide HN] at R1 HOK HR
      generalize (Fr.mk f.lo (f.he + 1) ((trimL n f.sl).set n t)) = F at R1 HOK HR
      go_wp2_with (first | (refine wpList_load_row rfl 29 _ rfl w.heap.size rfl 29 (frA F) (0, 0) _ (unhide R1) Tryz.underlying29 rfl (sizeFr (unhide HOK)) ?_) | (refine wpList_store_row rfl 29 _ _ rfl w.heap.size (frA (trimD f)) rfl rfl 29 (frA f) (unhide M1) (sizeFr (unhide HO)) (sizeEq (unhide HF) (unhide HO)) (frA_one _) ?_) | (refine wpList_store_row rfl 29 _ _ rfl (w.heap.size + 1) (frA F) rfl rfl 29 (frA frZ) (unhide R2) (sizeFr (unhide HOK)) (sizeEq frZ_ok (unhide HOK)) (frA_one _) ?_))
      exact bodyPost_ret (v := frTwo (F, 0)) (results_fr2 rfl _ _ (w.heap.size + 1) F 0 (unhide HOK) rfl rfl ((unhide R2).row _)) rfl ⟨by rw [unhide HR], below_setRow' (unhide HB7) (by omega) _⟩
  · have hs' : shapeD f = false := by simpa using hs
    have HR : Hid (pushD f t = (frZ, 32)) := hide (by unfold pushD; rw [if_pos hs'])
    rw [hs']
    clear hs hs'
    go_wp2_with (refine wpList_store_row rfl 29 _ _ rfl (w.heap.size + 1) (frA frZ) rfl rfl 29 (frA frZ) (unhide K2) (sizeFr frZ_ok) (sizeEq frZ_ok frZ_ok) (frA_one _) ?_)
    exact bodyPost_ret (v := frTwo (frZ, 32)) (results_fr2 rfl _ _ (w.heap.size + 1) frZ 32 frZ_ok rfl rfl ((unhide K2).row _)) rfl ⟨by rw [unhide HR], below_setRow' (unhide HB1) (by omega) _⟩

set_option maxHeartbeats 400000 in
theorem refPop_any (f : Fr) (w : World) (hf : FrOk f) :
    Calls Tryz.prog 45 #[.agg (frA f)] w fun e w' => e = .returned (frThree (popD f)) ∧ Below w.heap.size w w' := by
  have HF := hide hf
  have h1 : FAt ((w.alloc (.cells (frA f) 29)).alloc (.cells (frA frZ) 29)) w.heap.size f := (FAt.new w f).below ((Below.refl _ _).alloc (Nat.le_refl _) _) (by simp)
  have h2 : FAt ((w.alloc (.cells (frA f) 29)).alloc (.cells (frA frZ) 29)) (w.heap.size + 1) frZ := by
    have := FAt.new (w.alloc (.cells (frA f) 29)) frZ
    rw [World.size_alloc] at this
    exact this
  have hB : Below w.heap.size w ((w.alloc (.cells (frA f) 29)).alloc (.cells (frA frZ) 29)) := ((Below.refl _ _).alloc (Nat.le_refl _) _).alloc (by simp) _
  have H1 := hide h1
  have H2 := hide h2
  have HB := hide hB
  have hbz := run_buildZ
  clear hf h1 h2 hB
  go_enter Tryz.func45, Tryz.ntmps45
  go_wp2_with (refine wpList_load_row rfl 29 _ rfl w.heap.size rfl 29 (frA f) (0, 0) _ (unhide H1) Tryz.underlying29 rfl (sizeFr (unhide HF)) ?_)
  rw [frZ_eq]
  generalize ((w.alloc (.cells (frA f) 29)).alloc (.cells (frA frZ) 29)) = W at H1 H2 HB ⊢
  refine (refShape_any f _ (unhide HF)).mono ?_
  rintro e W1 ⟨rfl, hB1⟩
  have K1 := hide ((unhide H1).below hB1 (unhide H1).lt)
  have K2 := hide ((unhide H2).below hB1 (unhide H2).lt)
  have HB1 := hide ((unhide HB).trans (hB1.mono (unhide HB).size))
  clear hB1 H1 H2 HB W
  by_cases hs : shapeD f = true
  · have HS := hide hs
    obtain ⟨h0, h1, h2, h3⟩ := shapeD_iff.1 hs
    have d0 := (unhide K1).lo
    have d1 := (unhide K1).he
    by_cases s1 : f.he = 0
    · have HR : Hid (popD f = (frZ, 0, 30)) := hide (by have hl : topD f 0 = (0, 30) := (by unfold topD; rw [if_neg (by rw [hs]; simp), if_neg (by omega), if_pos (by omega)]); unfold popD; rw [hl]; rfl)
      have b1 : (f.he == 0) = true := beq_t s1
      rw [hs]
      clear hs s1
      go_wp2_with (refine wpList_store_row rfl 29 _ _ rfl (w.heap.size + 1) (frA frZ) rfl rfl 29 (frA frZ) (unhide K2) (sizeFr frZ_ok) (sizeEq frZ_ok frZ_ok) (frA_one _) ?_)
      exact bodyPost_ret (v := frThree (frZ, 0, 30)) (results_fr3 rfl _ _ (w.heap.size + 1) frZ 0 30 frZ_ok rfl rfl rfl ((unhide K2).row _)) rfl ⟨by rw [unhide HR], below_setRow' (unhide HB1) (by omega) _⟩
    · have HR : Hid (popD f = (⟨f.lo, f.he - 1, trimL (nF f - 1) f.sl⟩, f.sl.getD (nF f - 1) 0, 0)) := hide (by have hl : topD f 0 = (f.sl.getD (nF f - 1) 0, 0) := (by unfold topD; rw [if_neg (by rw [hs]; simp), if_neg (by omega), if_neg (by omega)]; simp); unfold popD; rw [hl, if_neg (by simp)])
      have b1 : (f.he == 0) = false := beq_f s1
      have hlt : (f.lo + f.he).toNat - 1 < f.sl.length := by rw [(unhide HF).len]; omega
      have HG : Hid (f.sl.getD (nF f - 1) 0 = f.sl[(f.lo + f.he).toNat - 1]) := hide (by unfold nF; rw [List.getD_eq_getElem?_getD, List.getElem?_eq_getElem hlt]; rfl)
      have ct := (unhide K1).slot (List.getElem?_eq_getElem hlt)
      rw [unhide HG] at HR
      generalize f.sl[(f.lo + f.he).toNat - 1] = x at ct HR
      have h2' : 1 ≤ f.he := by omega
      rw [hs]
      clear hs s1 hlt HG
      have z1 := (unhide K1).frozen 1
      have N1 : Hid (FAt (W1.setCell ⟨w.heap.size, 1, none⟩ (.int .i64 (f.he - 1))) w.heap.size ⟨f.lo, f.he - 1, f.sl⟩) := hide ((unhide K1).setHe (f.he - 1))
      have N2 := hide ((unhide K2).cellOther ⟨w.heap.size, 1, none⟩ (.int .i64 (f.he - 1)) (by simp))
      have HB4 := hide ((unhide HB1).setCell (p := ⟨w.heap.size, 1, none⟩) (Nat.le_refl _) (.int .i64 (f.he - 1)))
      have HO : Hid (FrOk ⟨f.lo, f.he - 1, f.sl⟩) := hide ⟨(unhide HF).len, (unhide HF).byte, (unhide HF).lo, by constructor <;> show _ ≤ _ <;> simp only <;> omega⟩
      have HS2 : Hid (shapeD ⟨f.lo, f.he - 1, f.sl⟩ = true) := hide (shapeD_iff.2 (by simp only; omega))
      have HT : Hid (trimD ⟨f.lo, f.he - 1, f.sl⟩ = ⟨f.lo, f.he - 1, trimL (nF f - 1) f.sl⟩) := hide (by
        unfold trimD
        have : nF ⟨f.lo, f.he - 1, f.sl⟩ = nF f - 1 := by unfold nF; simp only; omega
        rw [this])
      generalize (Fr.mk f.lo (f.he - 1) f.sl) = F0 at N1 HO HS2 HT
      go_wp2_with (refine wpList_load_row rfl 29 _ rfl w.heap.size rfl 29 (frA F0) (0, 0) _ (unhide N1) Tryz.underlying29 rfl (sizeFr (unhide HO)) ?_)
      generalize (W1.setCell ⟨w.heap.size, 1, none⟩ (.int .i64 (f.he - 1))) = W2 at N1 N2 HB4 ⊢
      refine (bare_any F0 _ (unhide HO) (unhide HS2)).mono ?_
      rintro e W3 ⟨rfl, hB3⟩
      have M1 := hide ((unhide N1).below hB3 (unhide N1).lt)
      have M2 := hide ((unhide N2).below hB3 (unhide N2).lt)
      have HB3 := hide ((unhide HB4).trans (hB3.mono (unhide HB4).size))
      clear hB3 N1 N2 HB4 W2
      have HOK := hide (trim_ok (unhide HO) (unhide HS2))
      rw [← unhide HT] at HR
      generalize trimD F0 = F at HOK HR ⊢
      go_wp2_with (refine wpList_store_row rfl 29 _ _ rfl (w.heap.size + 1) (frA F) rfl rfl 29 (frA frZ) (unhide M2) (sizeFr (unhide HOK)) (sizeEq frZ_ok (unhide HOK)) (frA_one _) ?_)
      exact bodyPost_ret (v := frThree (F, x, 0)) (results_fr3 rfl _ _ (w.heap.size + 1) F x 0 (unhide HOK) rfl rfl rfl ((unhide M2).row _)) rfl ⟨by rw [unhide HR], below_setRow' (unhide HB3) (by omega) _⟩
  · have hs' : shapeD f = false := by simpa using hs
    have HR : Hid (popD f = (frZ, 0, 32)) := hide (by have hl : topD f 0 = (0, 32) := (by unfold topD; rw [if_pos hs']); unfold popD; rw [hl]; rfl)
    rw [hs']
    clear hs hs'
    go_wp2_with (refine wpList_store_row rfl 29 _ _ rfl (w.heap.size + 1) (frA frZ) rfl rfl 29 (frA frZ) (unhide K2) (sizeFr frZ_ok) (sizeEq frZ_ok frZ_ok) (frA_one _) ?_)
    exact bodyPost_ret (v := frThree (frZ, 0, 32)) (results_fr3 rfl _ _ (w.heap.size + 1) frZ 0 32 frZ_ok rfl rfl rfl ((unhide K2).row _)) rfl ⟨by rw [unhide HR], below_setRow' (unhide HB1) (by omega) _⟩
end Go.Proofs.YtkodmpcnndbngaaGreatDoor
