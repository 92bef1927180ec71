/-
  Texts of contracts and plain lemmas, one behind another; each says at its head what it holds.
-/
import Derived.Test.YtibgfdjopikafaaGreatDoorMem
import Derived.ChangeKeysEq
import Derived.Deep.MidRow
import Derived.Deep.WholeRow
import Derived.Lib.SliceRun
import Derived.Laws.ResultCell
/-
  A frame as a plain thing: its cells, how they lie in a block, and what '==' tells of two frames. Conditions: a frame has 24 slots.
-/
namespace Go.Proofs.YtibgfdjopikafaaGreatDoor
open Go.RowKit
set_option maxRecDepth 20000

structure Fr where
  lo : Int
  he : Int
  sl : List Nat

def tyV (t : Nat) : Value := .int .u8 (t : Int)
def slV (l : List Nat) : List Value := l.map tyV
def frL (f : Fr) : List Value := .int .i64 f.lo :: .int .i64 f.he :: slV f.sl
def frA (f : Fr) : Array Value := (frL f).toArray
structure FrOk (f : Fr) : Prop where
  len : f.sl.length = 24
  byte : ∀ t ∈ f.sl, t < 256
  lo : -9223372036854775808 ≤ f.lo ∧ f.lo ≤ 9223372036854775807
  he : -9223372036854775808 ≤ f.he ∧ f.he ≤ 9223372036854775807
def frEq (f g : Fr) : Bool := f.lo == g.lo && (f.he == g.he && f.sl == g.sl)
theorem frEq_iff {f g : Fr} : frEq f g = true ↔ f = g := by
  cases f; cases g
  simp [frEq]

theorem slV_length (l : List Nat) : (slV l).length = l.length := by simp [slV]
theorem slV_get {l : List Nat} {i : Nat} {t : Nat} (h : l[i]? = some t) : (slV l)[i]? = some (.int .u8 (t : Int)) := by simp [slV, h, tyV]
theorem frA_size {f : Fr} (h : FrOk f) : (frA f).size = 26 := by simp [frA, frL, slV_length, h.len]
theorem frA_lo (f : Fr) : (frA f)[0]? = some (.int .i64 f.lo) := by simp [frA, frL]
theorem frA_he (f : Fr) : (frA f)[1]? = some (.int .i64 f.he) := by simp [frA, frL]
theorem frA_at {f : Fr} {i t : Nat} (h : f.sl[i]? = some t) : (frA f)[2 + i]? = some (.int .u8 (t : Int)) := by
  rw [Nat.add_comm 2 i]
  simp [frA, frL, slV_get h]
theorem frA_one (f : Fr) : (frA f).all (·.oneCell') = true := by
  refine all_oneCell_toArray ?_
  intro v hv
  simp only [frL, slV, List.mem_cons, List.mem_map] at hv
  rcases hv with rfl | rfl | ⟨t, _, rfl⟩ <;> rfl
theorem frA_extract (f : Fr) (h : FrOk f) : (frA f).extract 2 (2 + 24) = (slV f.sl).toArray := by
  unfold frA frL
  rw [List.extract_toArray]
  congr 1
  rw [List.extract_eq_take_drop]
  simp only [List.drop_succ_cons, List.drop_zero]
  rw [List.take_of_length_le (by rw [slV_length, h.len]; omega)]

/-! ### '==' of two frames -/
theorem infoTy : ∃ i, Tryz.prog.info? 40 = some i := info_of_underlying Tryz.underlying40
theorem cellsTy : Tryz.prog.cellsOf 40 = 1 := by kernel_rfl
theorem plainTy : Tryz.prog.plainKey 40 = true := by kernel_rfl

theorem run_eqItems_ty (w : World) (d : Nat) (xs ys : List Nat) (hl : xs.length = ys.length) : ∀ (n k : Nat), k + n = xs.length →
    (Op.eqItems (d + 1) 40 1 (slV xs).toArray (slV ys).toArray (List.range' k n)).run Tryz.prog w = .ok (xs.drop k == ys.drop k) w
  | 0, k, h => by
    rw [List.drop_of_length_le (by omega), List.drop_of_length_le (by omega)]
    simp [Op.eqItems]
  | n + 1, k, h => by
    have h1 : k < xs.length := by omega
    have h2 : k < ys.length := by omega
    have p1 := run_part_plain (P := Tryz.prog) w plainTy (xs := (slV xs).toArray) (off := k * 1) (v := .int .u8 (xs[k] : Int)) (by rw [Nat.mul_one, List.getElem?_toArray]; exact slV_get (List.getElem?_eq_getElem h1))
    have p2 := run_part_plain (P := Tryz.prog) w plainTy (xs := (slV ys).toArray) (off := k * 1) (v := .int .u8 (ys[k] : Int)) (by rw [Nat.mul_one, List.getElem?_toArray]; exact slV_get (List.getElem?_eq_getElem h2))
    have p3 := run_equalIn_int (P := Tryz.prog) w d 40 .u8 .u8 (xs[k] : Int) (ys[k] : Int) Tryz.underlying40
    have ih := run_eqItems_ty w d xs ys hl n (k + 1) (by omega)
    rw [List.range'_succ]
    simp only [Op.eqItems, Sem.run_bind, p1, p2, p3, Result.andThen_ok]
    have key : (xs.drop k == ys.drop k) = (xs[k] == ys[k] && (xs.drop (k + 1) == ys.drop (k + 1))) := by rw [List.drop_eq_getElem_cons h1, List.drop_eq_getElem_cons h2]; rfl
    rw [key]
    by_cases e : xs[k] = ys[k]
    · rw [e]
      simp only [beq_self_eq_true, Bool.not_true, Bool.false_eq_true, if_false, ih, Bool.true_and]
    · have e' : ((xs[k] : Int) == (ys[k] : Int)) = false := beq_eq_false_iff_ne.2 (by omega)
      have e2 : (xs[k] == ys[k]) = false := beq_eq_false_iff_ne.2 e
      rw [e', e2]
      rfl

theorem fr_int : Tryz.prog.plainKey 3 = true := by kernel_rfl
theorem eq_step {P : Program} (w : World) (d : Nat) (f : Field) (fs : List Field) (xs ys : Array Value) (va vb : Value) (r : Bool) (hn : f.name ≠ "_")
    (pa : (part f.type xs f.offset).run P w = .ok va w) (pb : (part f.type ys f.offset).run P w = .ok vb w) (q : (Op.equalIn d f.type va vb).run P w = .ok r w) :
    (Op.eqFields d xs ys (f :: fs)).run P w = if r = true then (Op.eqFields d xs ys fs).run P w else .ok false w := by
  simp only [Op.eqFields, if_pos hn, Sem.run_bind, pa, pb, q, Result.andThen_ok]
  cases r <;> simp

end Go.Proofs.YtibgfdjopikafaaGreatDoor

/-
  Contracts of frames.size and frames.shapeCanBe (and of provisoref03.Shape): what the plain functions say; nothing old is turned. Conditions: a frame's numbers fit an int.
-/
namespace Go.Proofs.YtibgfdjopikafaaGreatDoor
open Go.RowKit
set_option maxRecDepth 20000

def shapeD (f : Fr) : Bool := decide (0 ≤ f.lo ∧ f.lo ≤ 16 ∧ 0 ≤ f.he ∧ f.he ≤ 24 - f.lo)
def nF (f : Fr) : Nat := (f.lo + f.he).toNat
theorem shapeD_iff {f : Fr} : shapeD f = true ↔ (0 ≤ f.lo ∧ f.lo ≤ 16 ∧ 0 ≤ f.he ∧ f.he ≤ 24 - f.lo) := by unfold shapeD; exact decide_eq_true_iff
theorem shapeD_no {f : Fr} (h : ¬ (0 ≤ f.lo ∧ f.lo ≤ 16 ∧ 0 ≤ f.he ∧ f.he ≤ 24 - f.lo)) : shapeD f = false := by unfold shapeD; exact decide_eq_false h

end Go.Proofs.YtibgfdjopikafaaGreatDoor

/-
  A frame that lies in a block of its own: what is read of it, what a store makes of it. Then the contract of frames.trimmed: nothing stands behind the entries. Conditions: a frame's shape can be.
-/
namespace Go.Proofs.YtibgfdjopikafaaGreatDoor
open Go.RowKit
set_option maxRecDepth 20000

theorem slV_set (l : List Nat) (i t : Nat) : (slV l).set i (.int .u8 (t : Int)) = slV (l.set i t) := by simp [slV, List.map_set, tyV]
theorem frA_set (f : Fr) (i t : Nat) : (frA f).setIfInBounds (2 + i) (.int .u8 (t : Int)) = frA { f with sl := f.sl.set i t } := by
  rw [Nat.add_comm 2 i]
  simp [frA, frL, ← slV_set]
theorem frA_setHe (f : Fr) (n : Int) : (frA f).setIfInBounds 1 (.int .i64 n) = frA { f with he := n } := by simp [frA, frL]
theorem below_setRow' {B : Nat} {w W : World} (h : Below B w W) {g : Nat} (hg : B ≤ g) (cs : Array Value) : Below B w (W.setRow g cs) := by
  refine h.trans ⟨rfl, rfl, rfl, by simp, fun k hk => setRow_other W g k cs (by omega)⟩

/-- A load of a row under a guard that lets it through. -/
theorem wpList_load_rowG {P : Program} {ops : Array Oper} {rest : List Oper} {o : Oper} {a : Act} {w : World} {Q : Exit → Act → World → Prop} (hw : Region.wanted o (yielded ops a.tmps) = true) (ty : TypeId) (x : Operand) (ho : o.op = .load ty x)
    (g : Nat) (hx : a.eval x = .pointer (some ⟨g, 0, none⟩)) (t : TypeId) (cs : Array Value) (fr : Nat × Nat) (d : TypeDesc) (hg : w.heap[g]? = some (.cells cs t fr))
    (hu : P.underlying ty = some d) (hd : (match d with | .struct _ | .array _ _ => true | _ => false) = true) (hi : (P.info? ty).map (·.size) = some cs.size)
    (h : wpList P ops Q rest (a.put o.dst (.agg cs)) w) : wpList P ops Q (o :: rest) a w :=
  wpList_step fun _ hK => by rw [if_pos hw]; exact wp_load_row ty x ho g hx t cs fr d hg hu hd hi (hK _ _ h)

/-- The zero frame. -/
def frZ : Fr := ⟨0, 0, List.replicate 24 0⟩
def zeroV : Array Value := #[.int .i64 0, .int .i64 0, .int .u8 0, .int .u8 0, .int .u8 0, .int .u8 0, .int .u8 0, .int .u8 0, .int .u8 0, .int .u8 0, .int .u8 0, .int .u8 0, .int .u8 0, .int .u8 0, .int .u8 0, .int .u8 0, .int .u8 0, .int .u8 0, .int .u8 0, .int .u8 0, .int .u8 0, .int .u8 0, .int .u8 0, .int .u8 0, .int .u8 0, .int .u8 0]
theorem frZ_eq : (#[.int .i64 0, .int .i64 0, .int .u8 0, .int .u8 0, .int .u8 0, .int .u8 0, .int .u8 0, .int .u8 0, .int .u8 0, .int .u8 0, .int .u8 0, .int .u8 0, .int .u8 0, .int .u8 0, .int .u8 0, .int .u8 0, .int .u8 0, .int .u8 0, .int .u8 0, .int .u8 0, .int .u8 0, .int .u8 0, .int .u8 0, .int .u8 0, .int .u8 0, .int .u8 0] : Array Value) = frA frZ := rfl
theorem frZ_ok : FrOk frZ := ⟨rfl, fun t ht => by rw [List.eq_of_mem_replicate ht]; omega, by decide, by decide⟩

/-! ### trimmed -/
def trimL (n : Nat) (l : List Nat) : List Nat := l.take n ++ List.replicate (24 - n) 0
def trimD (f : Fr) : Fr := { f with sl := trimL (nF f) f.sl }
theorem trimL_length {n : Nat} {l : List Nat} (h : l.length = 24) (hn : n ≤ 24) : (trimL n l).length = 24 := by simp [trimL, h]; omega
theorem shape_n {f : Fr} (h : shapeD f = true) : nF f ≤ 24 := by have := shapeD_iff.1 h; unfold nF; omega
theorem trim_ok {f : Fr} (hf : FrOk f) (hs : shapeD f = true) : FrOk (trimD f) := by
  refine ⟨trimL_length hf.len (shape_n hs), fun t ht => ?_, hf.lo, hf.he⟩
  unfold trimD trimL at ht
  rcases List.mem_append.1 ht with h | h
  · exact hf.byte t (List.mem_of_mem_take h)
  · rw [List.eq_of_mem_replicate h]; omega
end Go.Proofs.YtibgfdjopikafaaGreatDoor

/-
  The contract of frames.trimmed: nothing stands behind the entries. Conditions: a frame's shape can be.
-/
namespace Go.Proofs.YtibgfdjopikafaaGreatDoor
open Go.RowKit
set_option maxRecDepth 20000

def zeroFrom (l : List Nat) (n : Nat) : Nat → List Nat
  | 0 => l
  | m + 1 => zeroFrom (l.set n 0) (n + 1) m
theorem zeroFrom_eq : ∀ (m n : Nat) (l : List Nat), n + m ≤ l.length → zeroFrom l n m = l.take n ++ List.replicate m 0 ++ l.drop (n + m)
  | 0, n, l, h => by simp [zeroFrom]
  | m + 1, n, l, h => by
    unfold zeroFrom
    rw [zeroFrom_eq m (n + 1) (l.set n 0) (by simp; omega)]
    apply List.ext_getElem?
    intro i
    simp only [List.append_assoc, List.getElem?_append, List.length_take, List.length_set, List.length_replicate, List.getElem?_take, List.getElem?_drop, List.getElem?_replicate, List.getElem?_set]
    have h1 : min (n + 1) l.length = n + 1 := by omega
    have h2 : min n l.length = n := by omega
    rw [h1, h2]
    by_cases c1 : i < n
    · rw [if_pos (by omega), if_pos (by omega), if_neg (by omega), if_pos (by omega), if_pos (by omega)]
    · by_cases c2 : i = n
      · subst c2
        rw [if_pos (by omega), if_pos (by omega), if_pos rfl, if_pos (by omega), if_neg (by omega), if_pos (by omega), if_pos (by omega)]
      · rw [if_neg (show ¬ i < n + 1 by omega)]
        by_cases c3 : i - (n + 1) < m
        · rw [if_pos c3, if_pos c3, if_neg (show ¬ i < n by omega), if_pos (show i - n < m + 1 by omega), if_pos (show i - n < m + 1 by omega)]
        · rw [if_neg c3, if_neg (show ¬ n = n + 1 + m + (i - (n + 1) - m) by omega), if_neg (show ¬ i < n by omega), if_neg (show ¬ i - n < m + 1 by omega)]
          congr 1
          omega
theorem zeroFrom_trim {l : List Nat} {n : Nat} (h : l.length = 24) (hn : n ≤ 24) : zeroFrom l n (24 - n) = trimL n l := by
  rw [zeroFrom_eq _ _ _ (by omega), List.drop_of_length_le (by omega), List.append_nil]
  rfl
theorem below_cells {B g : Nat} (hg : B ≤ g) : ∀ (vs : List Value) (o : Nat) {a W : World}, Below B a W → Below B a (W.setCells g o vs)
  | [], _, _, _, h => h
  | v :: vs, o, _, _, h => below_cells hg vs (o + 1) (h.setCell (p := ⟨g, o, none⟩) hg v)

theorem sizeEq {f g : Fr} (hf : FrOk f) (hg : FrOk g) : (frA f).size = (frA g).size := by rw [frA_size hf, frA_size hg]

theorem zeroTy : ∀ w, (zeroValue 40).run Tryz.prog w = .ok (.int .u8 0) w := (zero_of_info (n := 1) (by kernel_rfl)).1

/-- Where the slots from n on lie. -/
def fromA (g n : Nat) : Addr := if n = 24 then ⟨g, 2, none⟩ else ⟨g, 2 + n, none⟩
end Go.Proofs.YtibgfdjopikafaaGreatDoor

/-
  Contracts of frames.Top and frames.Load: what the plain functions 'topD' and 'loadD' say; nothing old is turned.
-/
namespace Go.Proofs.YtibgfdjopikafaaGreatDoor
open Go.RowKit
set_option maxRecDepth 20000

def topD (f : Fr) (n : Int) : Nat × Int :=
  if shapeD f = false then (0, 32) else if n < 0 then (0, 1) else if f.he ≤ n then (0, 30) else (f.sl.getD (nF f - 1 - n.toNat) 0, 0)
def loadD (f : Fr) (s : Int) : Nat × Int :=
  if shapeD f = false then (0, 32) else if s < 0 ∨ f.lo ≤ s then (0, 33) else (f.sl.getD s.toNat 0, 0)
def twoV (p : Nat × Int) : Value := .tuple #[.int .u8 (p.1 : Int), .int .i64 p.2]

end Go.Proofs.YtibgfdjopikafaaGreatDoor

/-
  Contracts of frames.Empty, Push, Store and Pop: what the plain functions say; nothing old is turned.
-/
namespace Go.Proofs.YtibgfdjopikafaaGreatDoor
open Go.RowKit
set_option maxRecDepth 20000

def frTwo (p : Fr × Int) : Value := .tuple #[.agg (frA p.1), .int .i64 p.2]
def frThree (p : Fr × Nat × Int) : Value := .tuple #[.agg (frA p.1), .int .u8 (p.2.1 : Int), .int .i64 p.2.2]
theorem run_addr (g : Nat) (w : World) : (asAddr (.pointer (some ⟨g, 0, none⟩))).run Tryz.prog w = .ok ⟨g, 0, none⟩ w := by simp [asAddr]
theorem results_cell_tmp2 {fn : Func} {p u v : Tmp} {ty : TypeId} (h : fn.results = #[.cell p ty, .tmp u, .tmp v]) (tmps : Array Value) (P : Program) (w : World) :
    (results fn tmps).run P w =
      ((asAddr (tmps.getD p undef)).run P w).andThen fun a w₁ => ((loadVar ty a).run P w₁).andThen fun x w₂ => .ok (.tuple #[x, tmps.getD u undef, tmps.getD v undef]) w₂ := by
  simp only [results, h]
  simp [Sem.run_bind, Result.andThen]
def pushD (f : Fr) (t : Nat) : Fr × Int :=
  if shapeD f = false then (frZ, 32) else if nF f = 24 then (frZ, 31) else (⟨f.lo, f.he + 1, (trimL (nF f) f.sl).set (nF f) t⟩, 0)
theorem set_ok {f : Fr} (hf : FrOk f) {i t : Nat} (ht : t < 256) : FrOk { f with sl := f.sl.set i t } := by
  refine ⟨by simp [hf.len], fun x hx => ?_, hf.lo, hf.he⟩
  rcases List.mem_or_eq_of_mem_set hx with h | h
  · exact hf.byte x h
  · rw [h]; exact ht

end Go.Proofs.YtibgfdjopikafaaGreatDoor
