/-
  Frames: the order, plainly; and three frames in a row of their own. No Go in it.
-/
import Derived.Test.YtihkodfcgfnjoaaMeetF
import Derived.Test.YtihkodfcgfnjoaaTbl
import Derived.Great.BuildSlice
namespace Go.Proofs.Ytihkodfcgfnjoaa
open Go.RowKit

theorem subF_refl {T : List Cl} {a : Fr} (ha : FrOk a) (h0 : chkF T.length a = 0) : subF T a a = true :=
  (subF_iff ha ha h0 h0 rfl rfl).2 (fun i x y hi hx hy => by
    rw [hx] at hy
    injection hy with hy
    rw [← hy]
    exact subD_iff.2 (Le.refl (good_valid ha h0 hi hx)))
theorem subF_self {T : List Cl} {a : Fr} (ha : FrOk a) : subF T a a = (chkF T.length a == 0) := by
  by_cases h : chkF T.length a = 0
  · rw [subF_refl ha h, h]; rfl
  · rw [subF_no1 h, beq_f h]
theorem subF_trans {T : List Cl} {a b c : Fr} (ha : FrOk a) (hb : FrOk b) (hc : FrOk c) (h1 : subF T a b = true) (h2 : subF T b c = true) : subF T a c = true := by
  obtain ⟨ca, cb, p1, p2⟩ := subF_parts h1
  obtain ⟨_, cc, q1, q2⟩ := subF_parts h2
  have n1 : nF a = nF b := by unfold nF; rw [p1, p2]
  have h24 : nF a ≤ 24 := shape_n (check_good ca).1
  refine (subF_iff ha hc ca cc (p1.trans q1) (p2.trans q2)).2 (fun i x z hi hx hz => ?_)
  obtain ⟨y, hy⟩ := slot_of hb (show i < 24 by omega)
  exact subD_iff.2 ((subD_iff.1 ((subF_iff ha hb ca cb p1 p2).1 h1 i x y hi hx hy)).trans (subD_iff.1 ((subF_iff hb hc cb cc q1 q2).1 h2 i y z (by omega) hy hz)))
theorem subF_antisymm {T : List Cl} {a b : Fr} (ha : FrOk a) (hb : FrOk b) (h1 : subF T a b = true) (h2 : subF T b a = true) : frEq a b = true := by
  obtain ⟨ca, cb, p1, p2⟩ := subF_parts h1
  have n1 : nF a = nF b := by unfold nF; rw [p1, p2]
  have h24 : nF a ≤ 24 := shape_n (check_good ca).1
  have hs : a.sl = b.sl := by
    apply List.ext_getElem?
    intro i
    by_cases hi : i < nF a
    · obtain ⟨x, hx⟩ := slot_of ha (show i < 24 by omega)
      obtain ⟨y, hy⟩ := slot_of hb (show i < 24 by omega)
      rw [hx, hy, (subD_iff.1 ((subF_iff ha hb ca cb p1 p2).1 h1 i x y hi hx hy)).antisymm (subD_iff.1 ((subF_iff hb ha cb ca p1.symm p2.symm).1 h2 i y x (by omega) hy hx))]
    · by_cases h : i < 24
      · rw [good_zero ha ca (by omega) h, good_zero hb cb (by omega) h]
      · rw [List.getElem?_eq_none (by rw [ha.len]; omega), List.getElem?_eq_none (by rw [hb.len]; omega)]
  unfold frEq
  rw [p1, p2, hs]
  simp
theorem chk_zero (n : Nat) : chkF n frZ = 0 := by
  refine chk_ok frZ_ok rfl (fun j _ h => ?_) (fun j t hj _ => ?_)
  · show (List.replicate 24 0)[j]? = some 0
    rw [List.getElem?_replicate, if_pos h]
  · have : nF frZ = 0 := rfl
    omega

/-! ### A row of three frames -/
/-- One part laid into the cells of a row. -/
def layA (off : Nat) (vs cs : Array Value) : Array Value := vs.zipIdx.foldl (fun cs (c, j) => cs.setIfInBounds (off + j) c) cs
theorem lay_list : ∀ (vs : List Value) (k off : Nat) (cs : Array Value), off + k + vs.length ≤ cs.size → ∀ i, ((vs.zipIdx k).foldl (fun cs (x : Value × Nat) => cs.setIfInBounds (off + x.2) x.1) cs)[i]? = if off + k ≤ i ∧ i < off + k + vs.length then vs[i - (off + k)]? else cs[i]?
  | [], k, off, cs, h, i => by
    rw [if_neg (by simp)]
    rfl
  | v :: vs, k, off, cs, h, i => by
    rw [List.zipIdx_cons, List.foldl_cons, lay_list vs (k + 1) off _ (by simp at h ⊢; omega) i]
    simp only [List.length_cons] at h ⊢
    by_cases h1 : off + (k + 1) ≤ i ∧ i < off + (k + 1) + vs.length
    · rw [if_pos h1, if_pos (by omega), show i - (off + k) = i - (off + (k + 1)) + 1 from by omega]
      rfl
    · rw [if_neg h1, Array.getElem?_setIfInBounds]
      by_cases h2 : off + k = i
      · subst h2
        rw [if_pos rfl, if_pos (by omega), if_pos (by omega)]
        simp
      · rw [if_neg h2, if_neg (by omega)]
theorem layA_get (off : Nat) (vs cs : Array Value) (h : off + vs.size ≤ cs.size) (i : Nat) : (layA off vs cs)[i]? = if off ≤ i ∧ i < off + vs.size then vs[i - off]? else cs[i]? := by
  unfold layA
  have := lay_list vs.toList 0 off cs (by simpa using h) i
  simp only [Nat.add_zero, Array.length_toList, Array.getElem?_toList] at this
  rw [← this, ← Array.foldl_toList]
  congr 1
  simp [Array.toList_zipIdx]
theorem layA_size (off : Nat) (vs cs : Array Value) : (layA off vs cs).size = cs.size := by
  unfold layA
  rw [← Array.foldl_toList]
  generalize vs.zipIdx.toList = l
  induction l generalizing cs with
  | nil => rfl
  | cons x l ih => rw [List.foldl_cons, ih]; simp
def rowZ : Array Value := (Array.range (3 * 26)).map (fun i => (Value.agg (frA frZ)).cells[i % (Value.agg (frA frZ)).cells.size]!)
def row3 (a b c : Fr) : Array Value := layA 52 (frA c) (layA 26 (frA b) (layA 0 (frA a) rowZ))
theorem rowZ_size : rowZ.size = 78 := by unfold rowZ; simp
theorem row3_size (a b c : Fr) : (row3 a b c).size = 78 := by unfold row3; rw [layA_size, layA_size, layA_size, rowZ_size]
theorem row3_fill {a b c : Fr} (ha : FrOk a) (hb : FrOk b) (hc : FrOk c) :
    Instr.fill (fun i => some (i * 26, 26)) rowZ [(0, .agg (frA a)), (1, .agg (frA b)), (2, .agg (frA c))] = some (row3 a b c) := by
  have sa := frA_size ha
  have sb := frA_size hb
  have sc := frA_size hc
  have z := rowZ_size
  have l1 := layA_size 0 (frA a) rowZ
  have l2 := layA_size 26 (frA b) (layA 0 (frA a) rowZ)
  have ca : (Value.agg (frA a)).cells = frA a := rfl
  have cb : (Value.agg (frA b)).cells = frA b := rfl
  have cc : (Value.agg (frA c)).cells = frA c := rfl
  unfold Instr.fill
  simp only [ca]
  rw [if_neg (by rw [sa, z]; decide)]
  unfold Instr.fill
  simp only [cb]
  rw [show (frA a).zipIdx.foldl (fun cs (x : Value × Nat) => cs.setIfInBounds (0 * 26 + x.2) x.1) rowZ = layA 0 (frA a) rowZ from rfl]
  rw [if_neg (by rw [sb, l1, z]; decide)]
  unfold Instr.fill
  simp only [cc]
  rw [show (frA b).zipIdx.foldl (fun cs (x : Value × Nat) => cs.setIfInBounds (1 * 26 + x.2) x.1) (layA 0 (frA a) rowZ) = layA 26 (frA b) (layA 0 (frA a) rowZ) from rfl]
  rw [if_neg (by rw [sc, l2, l1, z]; decide)]
  rfl
/-- The row of three lies in a block. -/
def RAt (W : World) (g : Nat) (a b c : Fr) : Prop := W.heap[g]? = some (.cells (row3 a b c) 27 (0, 0))
theorem RAt.lt {W : World} {g : Nat} {a b c : Fr} (h : RAt W g a b c) : g < W.heap.size := (Array.getElem?_eq_some_iff.1 h).1
theorem RAt.below {W W' : World} {g : Nat} {a b c : Fr} (h : RAt W g a b c) (hb : Below W.heap.size W W') : RAt W' g a b c := (hb.block g h.lt).trans h
theorem row3_get {a b c : Fr} (ha : FrOk a) (hb : FrOk b) (hc : FrOk c) (j : Nat) (hj : j < 26) : (row3 a b c)[j]? = (frA a)[j]? ∧ (row3 a b c)[26 + j]? = (frA b)[j]? ∧ (row3 a b c)[52 + j]? = (frA c)[j]? := by
  have sa := frA_size ha
  have sb := frA_size hb
  have sc := frA_size hc
  have z := rowZ_size
  have l1 := layA_size 0 (frA a) rowZ
  have l2 := layA_size 26 (frA b) (layA 0 (frA a) rowZ)
  unfold row3
  have g3 := layA_get 52 (frA c) (layA 26 (frA b) (layA 0 (frA a) rowZ)) (by omega)
  have g2 := layA_get 26 (frA b) (layA 0 (frA a) rowZ) (by omega)
  have g1 := layA_get 0 (frA a) rowZ (by omega)
  refine ⟨?_, ?_, ?_⟩
  · rw [g3, if_neg (by omega), g2, if_neg (by omega), g1, if_pos (by omega), Nat.sub_zero]
  · rw [g3, if_neg (by omega), g2, if_pos (by omega), show 26 + j - 26 = j from by omega]
  · rw [g3, if_pos (by omega), show 52 + j - 52 = j from by omega]
theorem RAt.range {W : World} {g : Nat} {a b c : Fr} (h : RAt W g a b c) (ha : FrOk a) (hb : FrOk b) (hc : FrOk c) : W.rangeAt g 0 (frL a) ∧ W.rangeAt g 26 (frL b) ∧ W.rangeAt g 52 (frL c) := by
  have k : ∀ (f : Fr) (j : Nat) (v : Value), (frL f)[j]? = some v → (frA f)[j]? = some v := fun f j v hv => by simpa [frA] using hv
  refine ⟨fun j v hv => ?_, fun j v hv => ?_, fun j v hv => ?_⟩
  · have hj : j < 26 := by have := (List.getElem?_eq_some_iff.1 hv).1; rw [frL_len ha] at this; exact this
    rw [cell_of_row _ _ _ _ _ _ h, Nat.zero_add, (row3_get ha hb hc j hj).1]; exact k _ _ _ hv
  · have hj : j < 26 := by have := (List.getElem?_eq_some_iff.1 hv).1; rw [frL_len hb] at this; exact this
    rw [cell_of_row _ _ _ _ _ _ h, (row3_get ha hb hc j hj).2.1]; exact k _ _ _ hv
  · have hj : j < 26 := by have := (List.getElem?_eq_some_iff.1 hv).1; rw [frL_len hc] at this; exact this
    rw [cell_of_row _ _ _ _ _ _ h, (row3_get ha hb hc j hj).2.2]; exact k _ _ _ hv
theorem infoFr : (Try.prog.info? 27).map (fun i => (i.zero, i.size)) = some (some (.agg (frA frZ)), 26) := by kernel_rfl
theorem run_row3 {a b c : Fr} (ha : FrOk a) (hb : FrOk b) (hc : FrOk c) (w : World) :
    (Instr.buildSlice 47 3 #[(0, .agg (frA a)), (1, .agg (frA b)), (2, .agg (frA c))]).run Try.prog w = .ok (.slice (some ⟨w.heap.size, 0, none⟩) 3 3) (w.alloc (.cells (row3 a b c) 27)) := by
  cases hq : Try.prog.info? 27 with
  | none => have := infoFr; simp [hq] at this
  | some i =>
    have h := infoFr
    rw [hq] at h
    simp only [Option.map_some, Option.some.injEq, Prod.mk.injEq] at h
    refine run_buildSlice w _ _ 3 _ _ i (.agg (frA frZ)) Try.underlying47 hq h.1 (by rw [h.2]; decide) (by rw [h.2]; decide) ?_
    rw [h.2]
    exact row3_fill ha hb hc
theorem wpList_row3 {ops : Array Oper} {rest : List Oper} {o : Oper} {a : Act} {w : World} {Q : Exit → Act → World → Prop} (hg : o.guard = none) (x y z : Tmp)
    (ho : o.op = .buildSlice 47 3 #[(0, .tmp x), (1, .tmp y), (2, .tmp z)]) (f g h : Fr) (hf : FrOk f) (hg' : FrOk g) (hh : FrOk h)
    (ex : a.eval (.tmp x) = .agg (frA f)) (ey : a.eval (.tmp y) = .agg (frA g)) (ez : a.eval (.tmp z) = .agg (frA h))
    (hK : wpList Try.prog ops Q rest (a.put o.dst (.slice (some ⟨w.heap.size, 0, none⟩) 3 3)) (w.alloc (.cells (row3 f g h) 27))) : wpList Try.prog ops Q (o :: rest) a w :=
  wpList_plain hg fun _ k => by
    have hp : ((#[(0, .tmp x), (1, .tmp y), (2, .tmp z)] : Array (Nat × Operand)).map fun (i, x) => (i, a.eval x)) = #[(0, .agg (frA f)), (1, .agg (frA g)), (2, .agg (frA h))] := by simp [ex, ey, ez]
    unfold Oper.wp execOp
    simp only [ho, hp, Sem.run_bind, run_row3 hf hg' hh w, Result.andThen_ok]
    exact k _ _ hK
end Go.Proofs.Ytihkodfcgfnjoaa
