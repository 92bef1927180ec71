/-
  Texts of contracts and plain lemmas, one behind another; each says at its head what it holds.
-/
import Derived.Test.YtgelbihdcfgjcaaDoorMem
import Derived.ChangeKeysEq
import Derived.Deep.MidRow
import Derived.Deep.WholeRow
import Derived.Lib.SliceRun
import Derived.Laws.ResultCell
import Derived.Test.YtgelbihdcfgjcaaDoorJTY
/-
  A frame as a plain thing: its cells, how they lie in a block, and what '==' tells of two frames. Conditions: a frame has 24 slots.
-/
namespace Go.Proofs.YtgelbihdcfgjcaaDoor
open Go.RowKit
set_option maxRecDepth 20000

structure Fr where
  lo : Int
  he : Int
  sl : List Nat

def tyV (t : Nat) : Value := .int .u8 (t : Int)
def slV (l : List Nat) : List Value := l.map tyV
def frL (f : Fr) : List Value := .int .i64 f.lo :: .int .i64 f.he :: slV f.sl
def frA (f : Fr) : Array Value := (frL f).toArray
structure FrOk (f : Fr) : Prop where
  len : f.sl.length = 24
  byte : ∀ t ∈ f.sl, t < 256
  lo : -9223372036854775808 ≤ f.lo ∧ f.lo ≤ 9223372036854775807
  he : -9223372036854775808 ≤ f.he ∧ f.he ≤ 9223372036854775807
def frEq (f g : Fr) : Bool := f.lo == g.lo && (f.he == g.he && f.sl == g.sl)
theorem frEq_iff {f g : Fr} : frEq f g = true ↔ f = g := by
  cases f; cases g
  simp [frEq]

theorem slV_length (l : List Nat) : (slV l).length = l.length := by simp [slV]
theorem slV_get {l : List Nat} {i : Nat} {t : Nat} (h : l[i]? = some t) : (slV l)[i]? = some (.int .u8 (t : Int)) := by simp [slV, h, tyV]
theorem frA_size {f : Fr} (h : FrOk f) : (frA f).size = 26 := by simp [frA, frL, slV_length, h.len]
theorem frA_lo (f : Fr) : (frA f)[0]? = some (.int .i64 f.lo) := by simp [frA, frL]
theorem frA_he (f : Fr) : (frA f)[1]? = some (.int .i64 f.he) := by simp [frA, frL]
theorem frA_at {f : Fr} {i t : Nat} (h : f.sl[i]? = some t) : (frA f)[2 + i]? = some (.int .u8 (t : Int)) := by
  rw [Nat.add_comm 2 i]
  simp [frA, frL, slV_get h]
theorem frA_one (f : Fr) : (frA f).all (·.oneCell') = true := by
  refine all_oneCell_toArray ?_
  intro v hv
  simp only [frL, slV, List.mem_cons, List.mem_map] at hv
  rcases hv with rfl | rfl | ⟨t, _, rfl⟩ <;> rfl
theorem frA_extract (f : Fr) (h : FrOk f) : (frA f).extract 2 (2 + 24) = (slV f.sl).toArray := by
  unfold frA frL
  rw [List.extract_toArray]
  congr 1
  rw [List.extract_eq_take_drop]
  simp only [List.drop_succ_cons, List.drop_zero]
  rw [List.take_of_length_le (by rw [slV_length, h.len]; omega)]

/-! ### '==' of two frames -/
theorem infoTy : ∃ i, Tryd.prog.info? 35 = some i := info_of_underlying Tryd.underlying35
theorem cellsTy : Tryd.prog.cellsOf 35 = 1 := by kernel_rfl
theorem plainTy : Tryd.prog.plainKey 35 = true := by kernel_rfl

theorem run_eqItems_ty (w : World) (d : Nat) (xs ys : List Nat) (hl : xs.length = ys.length) : ∀ (n k : Nat), k + n = xs.length →
    (Op.eqItems (d + 1) 35 1 (slV xs).toArray (slV ys).toArray (List.range' k n)).run Tryd.prog w = .ok (xs.drop k == ys.drop k) w
  | 0, k, h => by
    rw [List.drop_of_length_le (by omega), List.drop_of_length_le (by omega)]
    simp [Op.eqItems]
  | n + 1, k, h => by
    have h1 : k < xs.length := by omega
    have h2 : k < ys.length := by omega
    have p1 := run_part_plain (P := Tryd.prog) w plainTy (xs := (slV xs).toArray) (off := k * 1) (v := .int .u8 (xs[k] : Int)) (by rw [Nat.mul_one, List.getElem?_toArray]; exact slV_get (List.getElem?_eq_getElem h1))
    have p2 := run_part_plain (P := Tryd.prog) w plainTy (xs := (slV ys).toArray) (off := k * 1) (v := .int .u8 (ys[k] : Int)) (by rw [Nat.mul_one, List.getElem?_toArray]; exact slV_get (List.getElem?_eq_getElem h2))
    have p3 := run_equalIn_int (P := Tryd.prog) w d 35 .u8 .u8 (xs[k] : Int) (ys[k] : Int) Tryd.underlying35
    have ih := run_eqItems_ty w d xs ys hl n (k + 1) (by omega)
    rw [List.range'_succ]
    simp only [Op.eqItems, Sem.run_bind, p1, p2, p3, Result.andThen_ok]
    have key : (xs.drop k == ys.drop k) = (xs[k] == ys[k] && (xs.drop (k + 1) == ys.drop (k + 1))) := by rw [List.drop_eq_getElem_cons h1, List.drop_eq_getElem_cons h2]; rfl
    rw [key]
    by_cases e : xs[k] = ys[k]
    · rw [e]
      simp only [beq_self_eq_true, Bool.not_true, Bool.false_eq_true, if_false, ih, Bool.true_and]
    · have e' : ((xs[k] : Int) == (ys[k] : Int)) = false := beq_eq_false_iff_ne.2 (by omega)
      have e2 : (xs[k] == ys[k]) = false := beq_eq_false_iff_ne.2 e
      rw [e', e2]
      rfl

theorem fr_int : Tryd.prog.plainKey 3 = true := by kernel_rfl
theorem eq_step {P : Program} (w : World) (d : Nat) (f : Field) (fs : List Field) (xs ys : Array Value) (va vb : Value) (r : Bool) (hn : f.name ≠ "_")
    (pa : (part f.type xs f.offset).run P w = .ok va w) (pb : (part f.type ys f.offset).run P w = .ok vb w) (q : (Op.equalIn d f.type va vb).run P w = .ok r w) :
    (Op.eqFields d xs ys (f :: fs)).run P w = if r = true then (Op.eqFields d xs ys fs).run P w else .ok false w := by
  simp only [Op.eqFields, if_pos hn, Sem.run_bind, pa, pb, q, Result.andThen_ok]
  cases r <;> simp

end Go.Proofs.YtgelbihdcfgjcaaDoor

/-
  Contracts of frames.size and frames.shapeCanBe (and of provisoref03.Shape): what the plain functions say; nothing old is turned. Conditions: a frame's numbers fit an int.
-/
namespace Go.Proofs.YtgelbihdcfgjcaaDoor
open Go.RowKit
set_option maxRecDepth 20000

def shapeD (f : Fr) : Bool := decide (0 ≤ f.lo ∧ f.lo ≤ 16 ∧ 0 ≤ f.he ∧ f.he ≤ 24 - f.lo)
def nF (f : Fr) : Nat := (f.lo + f.he).toNat
theorem shapeD_iff {f : Fr} : shapeD f = true ↔ (0 ≤ f.lo ∧ f.lo ≤ 16 ∧ 0 ≤ f.he ∧ f.he ≤ 24 - f.lo) := by unfold shapeD; exact decide_eq_true_iff
theorem shapeD_no {f : Fr} (h : ¬ (0 ≤ f.lo ∧ f.lo ≤ 16 ∧ 0 ≤ f.he ∧ f.he ≤ 24 - f.lo)) : shapeD f = false := by unfold shapeD; exact decide_eq_false h

end Go.Proofs.YtgelbihdcfgjcaaDoor

/-
  A frame that lies in a block of its own: what is read of it, what a store makes of it. Then the contract of frames.trimmed: nothing stands behind the entries. Conditions: a frame's shape can be.
-/
namespace Go.Proofs.YtgelbihdcfgjcaaDoor
open Go.RowKit
set_option maxRecDepth 20000

theorem slV_set (l : List Nat) (i t : Nat) : (slV l).set i (.int .u8 (t : Int)) = slV (l.set i t) := by simp [slV, List.map_set, tyV]
theorem frA_set (f : Fr) (i t : Nat) : (frA f).setIfInBounds (2 + i) (.int .u8 (t : Int)) = frA { f with sl := f.sl.set i t } := by
  rw [Nat.add_comm 2 i]
  simp [frA, frL, ← slV_set]
theorem frA_setHe (f : Fr) (n : Int) : (frA f).setIfInBounds 1 (.int .i64 n) = frA { f with he := n } := by simp [frA, frL]
theorem below_setRow' {B : Nat} {w W : World} (h : Below B w W) {g : Nat} (hg : B ≤ g) (cs : Array Value) : Below B w (W.setRow g cs) := by
  refine h.trans ⟨rfl, rfl, rfl, by simp, fun k hk => setRow_other W g k cs (by omega)⟩

/-- A load of a row under a guard that lets it through. -/
theorem wpList_load_rowG {P : Program} {ops : Array Oper} {rest : List Oper} {o : Oper} {a : Act} {w : World} {Q : Exit → Act → World → Prop} (hw : Region.wanted o (yielded ops a.tmps) = true) (ty : TypeId) (x : Operand) (ho : o.op = .load ty x)
    (g : Nat) (hx : a.eval x = .pointer (some ⟨g, 0, none⟩)) (t : TypeId) (cs : Array Value) (fr : Nat × Nat) (d : TypeDesc) (hg : w.heap[g]? = some (.cells cs t fr))
    (hu : P.underlying ty = some d) (hd : (match d with | .struct _ | .array _ _ => true | _ => false) = true) (hi : (P.info? ty).map (·.size) = some cs.size)
    (h : wpList P ops Q rest (a.put o.dst (.agg cs)) w) : wpList P ops Q (o :: rest) a w :=
  wpList_step fun _ hK => by rw [if_pos hw]; exact wp_load_row ty x ho g hx t cs fr d hg hu hd hi (hK _ _ h)

/-- The zero frame. -/
def frZ : Fr := ⟨0, 0, List.replicate 24 0⟩
def zeroV : Array Value := #[.int .i64 0, .int .i64 0, .int .u8 0, .int .u8 0, .int .u8 0, .int .u8 0, .int .u8 0, .int .u8 0, .int .u8 0, .int .u8 0, .int .u8 0, .int .u8 0, .int .u8 0, .int .u8 0, .int .u8 0, .int .u8 0, .int .u8 0, .int .u8 0, .int .u8 0, .int .u8 0, .int .u8 0, .int .u8 0, .int .u8 0, .int .u8 0, .int .u8 0, .int .u8 0]
theorem frZ_eq : (#[.int .i64 0, .int .i64 0, .int .u8 0, .int .u8 0, .int .u8 0, .int .u8 0, .int .u8 0, .int .u8 0, .int .u8 0, .int .u8 0, .int .u8 0, .int .u8 0, .int .u8 0, .int .u8 0, .int .u8 0, .int .u8 0, .int .u8 0, .int .u8 0, .int .u8 0, .int .u8 0, .int .u8 0, .int .u8 0, .int .u8 0, .int .u8 0, .int .u8 0, .int .u8 0] : Array Value) = frA frZ := rfl
theorem frZ_ok : FrOk frZ := ⟨rfl, fun t ht => by rw [List.eq_of_mem_replicate ht]; omega, by decide, by decide⟩

/-! ### trimmed -/
def trimL (n : Nat) (l : List Nat) : List Nat := l.take n ++ List.replicate (24 - n) 0
def trimD (f : Fr) : Fr := { f with sl := trimL (nF f) f.sl }
theorem trimL_length {n : Nat} {l : List Nat} (h : l.length = 24) (hn : n ≤ 24) : (trimL n l).length = 24 := by simp [trimL, h]; omega
theorem shape_n {f : Fr} (h : shapeD f = true) : nF f ≤ 24 := by have := shapeD_iff.1 h; unfold nF; omega
theorem trim_ok {f : Fr} (hf : FrOk f) (hs : shapeD f = true) : FrOk (trimD f) := by
  refine ⟨trimL_length hf.len (shape_n hs), fun t ht => ?_, hf.lo, hf.he⟩
  unfold trimD trimL at ht
  rcases List.mem_append.1 ht with h | h
  · exact hf.byte t (List.mem_of_mem_take h)
  · rw [List.eq_of_mem_replicate h]; omega
end Go.Proofs.YtgelbihdcfgjcaaDoor

/-
  The contract of frames.trimmed: nothing stands behind the entries. Conditions: a frame's shape can be.
-/
namespace Go.Proofs.YtgelbihdcfgjcaaDoor
open Go.RowKit
set_option maxRecDepth 20000

def zeroFrom (l : List Nat) (n : Nat) : Nat → List Nat
  | 0 => l
  | m + 1 => zeroFrom (l.set n 0) (n + 1) m
theorem zeroFrom_eq : ∀ (m n : Nat) (l : List Nat), n + m ≤ l.length → zeroFrom l n m = l.take n ++ List.replicate m 0 ++ l.drop (n + m)
  | 0, n, l, h => by simp [zeroFrom]
  | m + 1, n, l, h => by
    unfold zeroFrom
    rw [zeroFrom_eq m (n + 1) (l.set n 0) (by simp; omega)]
    apply List.ext_getElem?
    intro i
    simp only [List.append_assoc, List.getElem?_append, List.length_take, List.length_set, List.length_replicate, List.getElem?_take, List.getElem?_drop, List.getElem?_replicate, List.getElem?_set]
    have h1 : min (n + 1) l.length = n + 1 := by omega
    have h2 : min n l.length = n := by omega
    rw [h1, h2]
    by_cases c1 : i < n
    · rw [if_pos (by omega), if_pos (by omega), if_neg (by omega), if_pos (by omega), if_pos (by omega)]
    · by_cases c2 : i = n
      · subst c2
        rw [if_pos (by omega), if_pos (by omega), if_pos rfl, if_pos (by omega), if_neg (by omega), if_pos (by omega), if_pos (by omega)]
      · rw [if_neg (show ¬ i < n + 1 by omega)]
        by_cases c3 : i - (n + 1) < m
        · rw [if_pos c3, if_pos c3, if_neg (show ¬ i < n by omega), if_pos (show i - n < m + 1 by omega), if_pos (show i - n < m + 1 by omega)]
        · rw [if_neg c3, if_neg (show ¬ n = n + 1 + m + (i - (n + 1) - m) by omega), if_neg (show ¬ i < n by omega), if_neg (show ¬ i - n < m + 1 by omega)]
          congr 1
          omega
theorem zeroFrom_trim {l : List Nat} {n : Nat} (h : l.length = 24) (hn : n ≤ 24) : zeroFrom l n (24 - n) = trimL n l := by
  rw [zeroFrom_eq _ _ _ (by omega), List.drop_of_length_le (by omega), List.append_nil]
  rfl
theorem below_cells {B g : Nat} (hg : B ≤ g) : ∀ (vs : List Value) (o : Nat) {a W : World}, Below B a W → Below B a (W.setCells g o vs)
  | [], _, _, _, h => h
  | v :: vs, o, _, _, h => below_cells hg vs (o + 1) (h.setCell (p := ⟨g, o, none⟩) hg v)

theorem sizeEq {f g : Fr} (hf : FrOk f) (hg : FrOk g) : (frA f).size = (frA g).size := by rw [frA_size hf, frA_size hg]

theorem zeroTy : ∀ w, (zeroValue 35).run Tryd.prog w = .ok (.int .u8 0) w := (zero_of_info (n := 1) (by kernel_rfl)).1

/-- Where the slots from n on lie. -/
def fromA (g n : Nat) : Addr := if n = 24 then ⟨g, 2, none⟩ else ⟨g, 2 + n, none⟩
end Go.Proofs.YtgelbihdcfgjcaaDoor

/-
  Contracts of frames.Top and frames.Load: what the plain functions 'topD' and 'loadD' say; nothing old is turned.
-/
namespace Go.Proofs.YtgelbihdcfgjcaaDoor
open Go.RowKit
set_option maxRecDepth 20000

def topD (f : Fr) (n : Int) : Nat × Int :=
  if shapeD f = false then (0, 32) else if n < 0 then (0, 1) else if f.he ≤ n then (0, 30) else (f.sl.getD (nF f - 1 - n.toNat) 0, 0)
def loadD (f : Fr) (s : Int) : Nat × Int :=
  if shapeD f = false then (0, 32) else if s < 0 ∨ f.lo ≤ s then (0, 33) else (f.sl.getD s.toNat 0, 0)
def twoV (p : Nat × Int) : Value := .tuple #[.int .u8 (p.1 : Int), .int .i64 p.2]

end Go.Proofs.YtgelbihdcfgjcaaDoor

/-
  Contracts of frames.Empty, Push, Store and Pop: what the plain functions say; nothing old is turned.
-/
namespace Go.Proofs.YtgelbihdcfgjcaaDoor
open Go.RowKit
set_option maxRecDepth 20000

def frTwo (p : Fr × Int) : Value := .tuple #[.agg (frA p.1), .int .i64 p.2]
def frThree (p : Fr × Nat × Int) : Value := .tuple #[.agg (frA p.1), .int .u8 (p.2.1 : Int), .int .i64 p.2.2]
theorem run_addr (g : Nat) (w : World) : (asAddr (.pointer (some ⟨g, 0, none⟩))).run Tryd.prog w = .ok ⟨g, 0, none⟩ w := by simp [asAddr]
theorem results_cell_tmp2 {fn : Func} {p u v : Tmp} {ty : TypeId} (h : fn.results = #[.cell p ty, .tmp u, .tmp v]) (tmps : Array Value) (P : Program) (w : World) :
    (results fn tmps).run P w =
      ((asAddr (tmps.getD p undef)).run P w).andThen fun a w₁ => ((loadVar ty a).run P w₁).andThen fun x w₂ => .ok (.tuple #[x, tmps.getD u undef, tmps.getD v undef]) w₂ := by
  simp only [results, h]
  simp [Sem.run_bind, Result.andThen]
def pushD (f : Fr) (t : Nat) : Fr × Int :=
  if shapeD f = false then (frZ, 32) else if nF f = 24 then (frZ, 31) else (⟨f.lo, f.he + 1, (trimL (nF f) f.sl).set (nF f) t⟩, 0)
theorem set_ok {f : Fr} (hf : FrOk f) {i t : Nat} (ht : t < 256) : FrOk { f with sl := f.sl.set i t } := by
  refine ⟨by simp [hf.len], fun x hx => ?_, hf.lo, hf.he⟩
  rcases List.mem_or_eq_of_mem_set hx with h | h
  · exact hf.byte x h
  · rw [h]; exact ht

end Go.Proofs.YtgelbihdcfgjcaaDoor

/-
  Contracts of frames.Empty, isOfValues and Start and of provisoref03's: what the plain functions say; nothing old is turned.
-/
namespace Go.Proofs.YtgelbihdcfgjcaaDoor
open Go.RowKit
set_option maxRecDepth 20000

/-- From an address on the cells hold these types. -/
def PAt (w : World) (ao : Option Addr) (l : List Nat) : Prop := ∀ (i t : Nat), l[i]? = some t → ∃ b off, ao = some ⟨b, off, none⟩ ∧ w.cell? ⟨b, off + i, none⟩ = some (.int .u8 (t : Int))
theorem PAt.below {w w' : World} {ao : Option Addr} {l : List Nat} (h : PAt w ao l) (hb : Below w.heap.size w w') : PAt w' ao l := fun i t ht => by
  obtain ⟨b, off, e, hc⟩ := h i t ht
  exact ⟨b, off, e, (hb.cell (p := ⟨b, off + i, none⟩) (World.block_lt_of_cell? w _ hc)).trans hc⟩

def emptyF (lo : Int) : Fr := ⟨lo, 0, List.replicate 24 0⟩
def emptyD (lo : Int) : Fr × Int := if lo < 0 ∨ 16 < lo then (frZ, 1) else (emptyF lo, 0)
theorem empty_ok {lo : Int} (h0 : 0 ≤ lo) (h1 : lo ≤ 16) : FrOk (emptyF lo) := ⟨rfl, fun t ht => by rw [List.eq_of_mem_replicate ht]; omega, by constructor <;> show _ ≤ _ <;> simp only [emptyF] <;> omega, by constructor <;> show _ ≤ _ <;> simp only [emptyF] <;> omega⟩
def startTo (lo : Int) (ps : List Nat) : Nat → Fr
  | 0 => emptyF lo
  | k + 1 => { startTo lo ps k with sl := (startTo lo ps k).sl.set k (ps.getD k 0) }
theorem startTo_ok {lo : Int} (h0 : 0 ≤ lo) (h1 : lo ≤ 16) {ps : List Nat} (hp : ∀ t ∈ ps, t < 256) : ∀ k, FrOk (startTo lo ps k)
  | 0 => empty_ok h0 h1
  | k + 1 => by
    have h := startTo_ok h0 h1 hp k
    refine set_ok h (i := k) ?_
    rw [List.getD_eq_getElem?_getD]
    cases hx : ps[k]? with
    | none => simp
    | some x => exact hp x (List.mem_of_getElem? hx)
def startD (n : Nat) (ps : List Nat) (lo : Int) : Fr × Int :=
  if lo < 0 ∨ 16 < lo ∨ 8 < ps.length ∨ lo < (ps.length : Int) then (frZ, 1) else if ps.all (storedD n) = true then (startTo lo ps ps.length, 0) else (frZ, 1)

end Go.Proofs.YtgelbihdcfgjcaaDoor

/-
  Contracts of slices.Clone and slices.Equal at types. Conditions: lengths fit.
-/
namespace Go.Proofs.YtgelbihdcfgjcaaDoor
open Go.RowKit
set_option maxRecDepth 20000

theorem infoTyV : (Tryd.prog.info? 35).map (fun i => (i.zero, i.size, i.bytes)) = some (some (.int .u8 0), 1, 1) := by kernel_rfl
theorem slV_one (l : List Nat) : ∀ u ∈ slV l, u.oneCell' = true := by
  intro u hu
  obtain ⟨x, _, rfl⟩ := List.mem_map.1 hu
  rfl
def OwnP (w : World) (base : Nat) (v : Value) (l : List Nat) : Prop := w.ownsRow base 35 1 v l.length (slV l)
theorem OwnP.at {w : World} {base : Nat} {v : Value} {l : List Nat} (h : OwnP w base v l) : ∃ ga gc, v = .slice ga l.length gc ∧ PAt w ga l ∧ (∀ b off, ga = some ⟨b, off, none⟩ → base ≤ b) := by
  rcases h.2 with ⟨h1, h2⟩ | ⟨g, cap, cur, hv, hb, hh, hn, hm, hs, ht⟩
  · have := List.eq_nil_of_length_eq_zero h2
    subst this
    exact ⟨none, 0, h1, fun i t ht => by simp at ht, fun b off e => by cases e⟩
  · refine ⟨_, cap, hv, fun i t ht => ⟨g, 0, rfl, ?_⟩, fun b off e => by injection e with e; injection e with e; omega⟩
    have hi := (List.getElem?_eq_some_iff.1 ht).1
    have h' : w.ownsRow base 35 1 (.slice (some ⟨g, 0, none⟩) l.length cap) l.length (slV l) := hv ▸ h
    rw [Nat.zero_add, h'.cellAt i (by omega), slV_get ht]

set_option maxHeartbeats 400000 in
theorem cloneP_any (po : Option Addr) (c : Nat) (l : List Nat) (w : World) (hl : PAt w po l) (hn : po = none → l = []) (hb : l.length ≤ 140737488351232) :
    Calls Tryd.prog 15 #[.slice po l.length c] w fun e w' => ∃ ga gc, e = .returned (.slice ga l.length gc) ∧ PAt w' ga l ∧ (∀ b off, ga = some ⟨b, off, none⟩ → w.heap.size ≤ b) ∧ Below w.heap.size w w' := by
  have q22 : ∀ (w : World) (a : Option Addr) (n c n' c' : Nat), (binOp .eql 34 (.slice a n c) (.slice none n' c')).run Tryd.prog w = .ok (.bool a.isNone) w := fun w a n c n' c' => Lib.run_eql_slice_nil w _ _ a n c n' c' Tryd.underlying34
  obtain ⟨i0, hi, hz0, hz1, hz2⟩ := info_parts infoTyV
  cases po with
  | none =>
    have hl0 := hn rfl
    subst hl0
    go_enter Tryd.func15, Tryd.ntmps15
    go_wp2
    go_ret
    exact ⟨none, ⟨0, rfl⟩, fun i t ht => by simp at ht, fun b off e => (by cases e), Below.refl _ _⟩
  | some x =>
    go_enter Tryd.func15, Tryd.ntmps15
    go_wp2_with (at_builtin; refine wpList_append_own _ rfl _ _ 34 rfl w.heap.size 35 i0 (.int .u8 0) 1 1 Tryd.underlying34 hi hz0 hz1 hz2 rfl (by decide) _ 0 [] rfl (World.ownsRow_made w #[] 0 (Nat.le_refl _) (by decide) rfl) x l.length c (slV l) rfl ?c0 ?c1 ?c2 ?c3 ?c4 ?c5 ?_)
    case c0 => simp [slV_length]
    case c1 =>
      intro j u hj
      have hjl : j < l.length := by
        have := (List.getElem?_eq_some_iff.1 hj).1
        rw [slV_length] at this; exact this
      have hx := List.getElem?_eq_getElem hjl
      obtain ⟨b, off, e, hc⟩ := hl j _ hx
      injection e with e
      subst e
      rw [slV_get hx] at hj
      injection hj with hj
      subst hj
      have hlt := World.block_lt_of_cell? w _ hc
      rw [Addr.add_lit]
      exact (((Below.refl w.heap.size w).alloc (Nat.le_refl _) _).cell (p := ⟨b, off + j, none⟩) hlt).trans hc
    case c2 => exact slV_one l
    case c3 => unfold maxLen; omega
    case c4 => omega
    case c5 => simp
    · intro v' w1 hown hgrow hnil
      go_wp2
      go_ret
      have hO : OwnP w1 w.heap.size v' l := hown
      obtain ⟨ga, gc, rfl, hP, hFr⟩ := hO.at
      refine ⟨ga, gc, rfl, hP, hFr, ?_⟩
      exact ((Below.refl w.heap.size w).alloc (Nat.le_refl _) _).trans ((Below.refl _ _).grown hgrow (by simp) (fun k e => by simp [Value.ownBlock] at e; omega))

set_option maxHeartbeats 400000 in
theorem equalP_yes (po go : Option Addr) (pc gc : Nat) (l : List Nat) (w : World) (h : PAt w po l) (hg : PAt w go l) (hb : l.length ≤ 140737488351232) :
    Calls Tryd.prog 28 #[.slice po l.length pc, .slice go l.length gc] w fun e w' => e = .returned (.bool true) ∧ ∃ k, w' = w.drewN k := by
  have e0 : (((l.length : Nat) : Int) != ((l.length : Nat) : Int)) = false := by simp
  have hb' : l.length < 9223372036854775000 := by omega
  clear hb
  go_enter Tryd.func28, Tryd.ntmps28
  go_wp2
  go_loopw [13] (fun i wr => ∃ k : Nat, k ≤ l.length ∧ i = .int .i64 (k : Int) ∧ ∃ q, wr = w.drewN q) (fun i _ => l.length - (intOf i).toNat)
  case atStart => exact ⟨0, by omega, rfl, 0, rfl⟩
  case round =>
    obtain ⟨k, hk, rfl, q, rfl⟩ := hrel
    by_cases hlt : k < l.length
    · have i1 : ((k : Nat) : Int) < ((l.length : Nat) : Int) := by omega
      obtain ⟨b, off, rfl, d0⟩ := h k _ (List.getElem?_eq_getElem hlt)
      obtain ⟨b', off', rfl, g0⟩ := hg k _ (List.getElem?_eq_getElem hlt)
      generalize l[k] = x at d0 g0
      clear h hg
      go_wp2
      go_quiet (fail)
      go_wp2
      go_roundw
      case rel => exact ⟨k + 1, by omega, by go_num, _, rfl⟩
      case measure => simp [intOf]; omega
    · have i1 : ¬ ((k : Nat) : Int) < ((l.length : Nat) : Int) := by omega
      go_wp2
      go_ret
      exact ⟨rfl, _, rfl⟩

theorem PAt.row {W : World} {ao : Option Addr} {l : List Nat} (h : PAt W ao l) {g : Nat} (cs : Array Value) (hne : ∀ b off, ao = some ⟨b, off, none⟩ → b ≠ g) : PAt (W.setRow g cs) ao l := fun i t ht => by
  obtain ⟨b, off, e, hc⟩ := h i t ht
  exact ⟨b, off, e, (cell_setRow_other W g cs _ (hne b off e)).trans hc⟩
end Go.Proofs.YtgelbihdcfgjcaaDoor
