/-
  provisoplain.Module: a module's copy in memory of its own, the same but for where it lies. Conditions: lengths fit.
-/
import Derived.Test.YtibgfdjopikafaaGreatDoorKMd1
namespace Go.Proofs.YtibgfdjopikafaaGreatDoor
open Go.RowKit
set_option maxRecDepth 20000

structure Md where
  nm : ByteArray
  ao : Option Addr
  cap : Nat
  T : List Cl
  fo : Option Addr
  fc : Nat
  F : List Fn
  co : Option Addr
  cc : Nat
  C : List Bs
structure MdOk (W : World) (m : Md) : Prop where
  tab : TabAt W m.ao m.T
  tz : m.T.length * 48 ≤ 140737488351232
  fns : FnsAt W m.fo m.F
  fz : m.F.length * 80 ≤ 140737488351232
  cts : BssAt W m.co m.C
  cz : m.C.length * 24 ≤ 140737488351232
  name : m.nm.size ≤ 140737488351232
theorem MdOk.below {W w : World} {m : Md} (h : MdOk W m) (hb : Below W.heap.size W w) : MdOk w m := ⟨h.tab.below hb, h.tz, h.fns.below hb, h.fz, h.cts.below hb, h.cz, h.name⟩
structure SameMd (x y : Md) : Prop where
  nm : y.nm = x.nm
  tab : SameT x.T y.T
  fns : SameFns x.F y.F
  cts : SameBss x.C y.C

/-- No number lies in a block. -/
def NoNum (W : World) (k : Nat) : Prop := ∀ o ik n, W.cell? ⟨k, o, none⟩ ≠ some (.int ik n)
theorem NoNum.of4 {W : World} {k : Nat} {t : TypeId} {s : ByteArray} {a b c : Option Addr} {l1 l2 l3 c1 c2 c3 : Nat} (h : Bx W k t #[.string s, .slice a l1 c1, .slice b l2 c2, .slice c l3 c3]) : NoNum W k := by
  intro o ik n e
  rw [cell_of_row _ _ _ _ _ _ h] at e
  match o, e with
  | 0, e => simp at e
  | 1, e => simp at e
  | 2, e => simp at e
  | 3, e => simp at e
  | o + 4, e => simp at e
theorem farK {W W' : World} {k b : Nat} (hg : W.grownBy W' (some k)) (hn : NoNum W k) {o : Nat} {ik : IntKind} {n : Int} (h : W.cell? ⟨b, o, none⟩ = some (.int ik n)) : ∀ j, W'.cell? ⟨b, j, none⟩ = W.cell? ⟨b, j, none⟩ := by
  have hb : b ≠ k := fun e => hn o ik n (by rw [← e]; exact h)
  have hl : b < W.heap.size := World.block_lt_of_cell? W _ h
  exact fun j => hg.cell_far ⟨b, j, none⟩ hl (fun e => hb (by injection e))
theorem TabAt.noNum {W W' : World} {ao : Option Addr} {T : List Cl} {k : Nat} (h : TabAt W ao T) (hg : W.grownBy W' (some k)) (hn : NoNum W k) : TabAt W' ao T := fun i x hx => by
  obtain ⟨b, off, e, hc⟩ := h i x hx
  have kk := farK hg hn hc.c1
  refine ⟨b, off, e, ⟨(kk _).trans hc.c0, (kk _).trans hc.c1, (kk _).trans hc.c2, ?_, hc.nil, hc.cap, hc.fit, hc.name, hc.par⟩⟩
  intro i f hf'
  obtain ⟨b', off', e', hfl⟩ := hc.flds i f hf'
  have k' := farK hg hn hfl.c1
  exact ⟨b', off', e', ⟨(k' _).trans hfl.c0, (k' _).trans hfl.c1, hfl.name, hfl.ty⟩⟩
theorem FnsAt.noNum {W W' : World} {ao : Option Addr} {L : List Fn} {k : Nat} (h : FnsAt W ao L) (hg : W.grownBy W' (some k)) (hn : NoNum W k) : FnsAt W' ao L := fun i x hx => by
  obtain ⟨b, off, e, hc⟩ := h i x hx
  have kk := farK hg hn hc.c2
  refine ⟨b, off, e, ⟨(kk _).trans hc.c0, (kk _).trans hc.c1, (kk _).trans hc.c2, (kk _).trans hc.c3, (kk _).trans hc.c4, ⟨⟨?_, hc.ok.sg.nil, hc.ok.sg.bts, hc.ok.sg.fit, hc.ok.sg.res⟩, ?_, hc.ok.nil, hc.ok.fit, hc.ok.name, hc.ok.loc⟩⟩⟩
  · intro j t ht
    obtain ⟨b', off', e', h'⟩ := hc.ok.sg.prm j t ht
    exact ⟨b', off', e', (farK hg hn h' _).trans h'⟩
  · intro j hj
    obtain ⟨b', off', e', h'⟩ := hc.ok.code j hj
    exact ⟨b', off', e', (farK hg hn h' _).trans h'⟩

/-! ### Rows of functions, rows of slices of bytes -/
def fncells (y : Fn) : List Value := [.string y.nm, .slice y.sg.po y.sg.ps.length y.sg.pc, .int .u8 (y.sg.rt : Int), .int .i64 y.lo, .slice y.ca y.cd.length y.cc]
def fnvals (G : List Fn) : List Value := G.flatMap fncells
theorem fnvals_length (l : List Fn) : (fnvals l).length = l.length * 5 := by
  unfold fnvals
  induction l with
  | nil => rfl
  | cons f l ih => rw [List.flatMap_cons, List.length_append, ih]; simp [fncells]; omega
theorem fnvals_snoc (l : List Fn) (y : Fn) : fnvals (l ++ [y]) = fnvals l ++ fncells y := by unfold fnvals; simp
theorem fnvals_get : ∀ {l : List Fn} {i : Nat} {f : Fn}, l[i]? = some f → ∀ j, j < 5 → (fnvals l)[i * 5 + j]? = (fncells f)[j]?
  | [], i, f, h, _, _ => by simp at h
  | g :: l, 0, f, h, j, hj => by
    simp at h
    subst h
    unfold fnvals
    rw [List.flatMap_cons, List.getElem?_append_left (by simp [fncells]; omega)]
    simp
  | g :: l, i + 1, f, h, j, hj => by
    have h' : l[i]? = some f := by simpa using h
    have h1 := fnvals_get h' j hj
    unfold fnvals at h1 ⊢
    rw [List.flatMap_cons, List.getElem?_append_right (by simp [fncells]; omega), ← h1]
    congr 1; simp [fncells]; omega
theorem fncells_one (y : Fn) : ∀ u ∈ fncells y, u.oneCell' = true := by
  intro u hu
  simp only [fncells, List.mem_cons, List.mem_nil_iff, or_false] at hu
  rcases hu with rfl | rfl | rfl | rfl | rfl <;> rfl
theorem infoFn : (Tryz.prog.info? 44).map (fun i => (i.zero, i.size, i.bytes)) = some (some (.agg #[.string ⟨#[]⟩, .slice none 0 0, .int .u8 0, .int .i64 0, .slice none 0 0]), 5, 80) := by kernel_rfl
def OwnFn (w : World) (base : Nat) (v : Value) (G : List Fn) : Prop := w.ownsRow base 44 5 v G.length (fnvals G)
def bscells (y : Bs) : Value := .slice y.ca y.cd.length y.cc
def bsvals (G : List Bs) : List Value := G.map bscells
theorem bsvals_snoc (l : List Bs) (y : Bs) : bsvals (l ++ [y]) = bsvals l ++ [bscells y] := by unfold bsvals; simp
theorem infoBs : (Tryz.prog.info? 28).map (fun i => (i.zero, i.size, i.bytes)) = some (some (.slice none 0 0), 1, 24) := by kernel_rfl
def OwnBs (w : World) (base : Nat) (v : Value) (G : List Bs) : Prop := w.ownsRow base 28 1 v G.length (bsvals G)
theorem ownSlice {w : World} {base : Nat} {t : TypeId} {s : Nat} {v : Value} {n : Nat} {cs : List Value} (h : w.ownsRow base t s v n cs) : ∃ va vc, v = .slice va n vc := by
  rcases h.2 with ⟨h1, h2⟩ | ⟨g, cap, cur, rfl, _⟩
  · exact ⟨none, 0, by rw [h1, h2]⟩
  · exact ⟨_, _, rfl⟩

theorem CopyFn.grownAny {w w' : World} {base : Nat} {x y : Fn} {row : Option Nat} (h : CopyFn w base x y) (hg : w.grownBy w' row) (h1 : ∀ g, (Value.slice y.sg.po y.sg.ps.length y.sg.pc).ownBlock = some g → row ≠ some g) (h2 : ∀ g, (Value.slice y.ca y.cd.length y.cc).ownBlock = some g → row ≠ some g) : CopyFn w' base x y :=
  ⟨h.same, rows_grownG h.ownP hg h1, rows_grownG h.ownB hg h2⟩
theorem CopyFn.grown {w w' : World} {base : Nat} {x y : Fn} {v : Value} {n : Nat} {cs : List Value} (h : CopyFn w base x y) (hv : w.ownsRow base 44 5 v n cs) (hg : w.grownBy w' v.ownBlock) : CopyFn w' base x y := by
  refine h.grownAny hg ?_ ?_
  · intro g hb e
    obtain ⟨c1, g1⟩ := rowTy h.ownP g hb
    obtain ⟨c2, g2⟩ := rowTy hv g e
    rw [g1] at g2
    simp at g2
  · intro g hb e
    obtain ⟨c1, g1⟩ := rowTy h.ownB g hb
    obtain ⟨c2, g2⟩ := rowTy hv g e
    rw [g1] at g2
    simp at g2
theorem CopyFn.below {w w' : World} {base : Nat} {x y : Fn} (h : CopyFn w base x y) (hb : Below w.heap.size w w') : CopyFn w' base x y := ⟨h.same, rowBelow h.ownP hb, rowBelow h.ownB hb⟩
theorem CopyFn.box {w w' : World} {base k : Nat} {x y : Fn} (h : CopyFn w base x y) (hg : w.grownBy w' (some k)) (hk : k < base) : CopyFn w' base x y :=
  h.grownAny hg (fun g e e2 => by have := (World.ownsRow.lt h.ownP g e).1; injection e2 with e2; omega) (fun g e e2 => by have := (World.ownsRow.lt h.ownB g e).1; injection e2 with e2; omega)
theorem CopyFn.mono {w : World} {base base' : Nat} {x y : Fn} (h : CopyFn w base x y) (hb : base' ≤ base) : CopyFn w base' x y := ⟨h.same, rowMono h.ownP hb, rowMono h.ownB hb⟩
structure CopyBs (w : World) (base : Nat) (x y : Bs) : Prop where
  same : y.cd = x.cd
  own : OwnB w base (.slice y.ca y.cd.length y.cc) y.cd
theorem CopyBs.grown {w w' : World} {base : Nat} {x y : Bs} {v : Value} {n : Nat} {cs : List Value} (h : CopyBs w base x y) (hv : w.ownsRow base 28 1 v n cs) (hg : w.grownBy w' v.ownBlock) : CopyBs w' base x y := by
  refine ⟨h.same, rows_grownG h.own hg ?_⟩
  intro g hb e
  obtain ⟨c1, g1⟩ := rowTy h.own g hb
  obtain ⟨c2, g2⟩ := rowTy hv g e
  rw [g1] at g2
  simp at g2
theorem CopyBs.below {w w' : World} {base : Nat} {x y : Bs} (h : CopyBs w base x y) (hb : Below w.heap.size w w') : CopyBs w' base x y := ⟨h.same, rowBelow h.own hb⟩
theorem CopyBs.box {w w' : World} {base k : Nat} {x y : Bs} (h : CopyBs w base x y) (hg : w.grownBy w' (some k)) (hk : k < base) : CopyBs w' base x y :=
  ⟨h.same, rows_grownG h.own hg (fun g e e2 => by have := (World.ownsRow.lt h.own g e).1; injection e2 with e2; omega)⟩

theorem nil_of_B {w : World} {base : Nat} {ca : Option Addr} {cc : Nat} {l : List UInt8} (h : OwnB w base (.slice ca l.length cc) l) : BAt w ca l ∧ (ca = none → l = []) := by
  obtain ⟨ba, bc, e, hb⟩ := h.at
  injection e with e1 _ e2
  rw [← e1] at hb
  refine ⟨hb, fun e => ?_⟩
  cases hl : l with
  | nil => rfl
  | cons t l' =>
    obtain ⟨b, off, e', _⟩ := hb 0 (by rw [hl]; simp)
    rw [e] at e'
    cases e'
theorem nil_of_P {w : World} {base : Nat} {ca : Option Addr} {cc : Nat} {l : List Nat} (h : OwnP w base (.slice ca l.length cc) l) : PAt w ca l ∧ (ca = none → l = []) := by
  obtain ⟨ba, bc, e, hb, _⟩ := h.at
  injection e with e1 _ e2
  rw [← e1] at hb
  refine ⟨hb, fun e => ?_⟩
  cases hl : l with
  | nil => rfl
  | cons t l' =>
    obtain ⟨b, off, e', _⟩ := hb 0 t (by rw [hl]; rfl)
    rw [e] at e'
    cases e'
theorem CopyFn.ok {w w0 : World} {base : Nat} {x y : Fn} (h : CopyFn w base x y) (hx : FnOk w0 x) : FnOk w y := by
  obtain ⟨p1, p2⟩ := nil_of_P h.ownP
  obtain ⟨b1, b2⟩ := nil_of_B h.ownB
  exact ⟨⟨p1, p2, by rw [h.same.sg.ps]; exact hx.sg.bts, by rw [h.same.sg.ps]; exact hx.sg.fit, by rw [h.same.sg.rt]; exact hx.sg.res⟩, b1, b2, by rw [h.same.cd]; exact hx.fit, by rw [h.same.nm]; exact hx.name, by rw [h.same.lo]; exact hx.loc⟩
theorem copy_fns {w w0 : World} {base : Nat} {ao : Option Addr} {L M : List Fn} {v : Value} (hL : FnsAt w0 ao L) (hO : OwnFn w base v M) (hl : M.length = L.length) (hc : ∀ (i : Nat) x y, L[i]? = some x → M[i]? = some y → CopyFn w base x y) : ∃ sa sc, v = .slice sa M.length sc ∧ FnsAt w sa M ∧ SameFns L M := by
  have hs : SameFns L M := ⟨hl, fun i x y hx hy => (hc i x y hx hy).same⟩
  rcases hO.2 with ⟨h1, h2⟩ | ⟨g, cap, cur, rfl, hb, hh, hn, hm, hsz, ht⟩
  · have := List.eq_nil_of_length_eq_zero h2
    subst this
    exact ⟨none, 0, h1, fun i x hx => by simp at hx, hs⟩
  · refine ⟨_, cap, rfl, fun i y hy => ⟨g, 0, rfl, ?_⟩, hs⟩
    have hi := (List.getElem?_eq_some_iff.1 hy).1
    have hx := List.getElem?_eq_getElem (show i < L.length by omega)
    have hcy := hc i _ y hx hy
    obtain ⟨_, _, _, hxa⟩ := hL i _ hx
    have hq : ∀ j, j < 5 → w.cell? ⟨g, 0 + i * 5 + j, none⟩ = (fncells y)[j]? := fun j hj => by
      rw [show 0 + i * 5 + j = 0 + (i * 5 + j) by omega, Nat.zero_add, World.ownsRow.cellAt hO (i * 5 + j) (by omega)]
      exact fnvals_get hy j hj
    exact ⟨hq 0 (by omega), hq 1 (by omega), hq 2 (by omega), hq 3 (by omega), hq 4 (by omega), hcy.ok hxa.ok⟩
theorem copy_bss {w w0 : World} {base : Nat} {ao : Option Addr} {L M : List Bs} {v : Value} (hL : BssAt w0 ao L) (hO : OwnBs w base v M) (hl : M.length = L.length) (hc : ∀ (i : Nat) x y, L[i]? = some x → M[i]? = some y → CopyBs w base x y) : ∃ sa sc, v = .slice sa M.length sc ∧ BssAt w sa M ∧ SameBss L M := by
  have hs : SameBss L M := ⟨hl, fun i x y hx hy => (hc i x y hx hy).same⟩
  rcases hO.2 with ⟨h1, h2⟩ | ⟨g, cap, cur, rfl, hb, hh, hn, hm, hsz, ht⟩
  · have := List.eq_nil_of_length_eq_zero h2
    subst this
    exact ⟨none, 0, h1, fun i x hx => by simp at hx, hs⟩
  · refine ⟨_, cap, rfl, fun i y hy => ⟨g, 0, rfl, ?_⟩, hs⟩
    have hi := (List.getElem?_eq_some_iff.1 hy).1
    have hx := List.getElem?_eq_getElem (show i < L.length by omega)
    have hcy := hc i _ y hx hy
    obtain ⟨_, _, _, hxa⟩ := hL i _ hx
    obtain ⟨b1, b2⟩ := nil_of_B hcy.own
    refine ⟨?_, b1, b2, by rw [hcy.same]; exact hxa.fit⟩
    rw [Nat.zero_add, World.ownsRow.cellAt hO i (by omega)]
    unfold bsvals
    rw [List.getElem?_map, hy]
    rfl

/-- Where a module's copy is made: the new box, the table's copy. -/
structure MMid (w W : World) (m : Md) (g : Nat) (ga : Option Addr) (gc : Nat) (G : List Cl) : Prop where
  box : Bx W g 26 #[.string m.nm, .slice ga G.length gc, .slice none 0 0, .slice none 0 0]
  ge : w.heap.size + 2 ≤ g
  old : Bx W (w.heap.size + 1) 26 #[.string ⟨#[]⟩, .slice none 0 0, .slice none 0 0, .slice none 0 0]
  par : Bx W w.heap.size 26 #[.string m.nm, .slice m.ao m.T.length m.cap, .slice m.fo m.F.length m.fc, .slice m.co m.C.length m.cc]
  tab : TabAt W ga G
  same : SameT m.T G
  cap : G.length ≤ gc
  bel : Below w.heap.size w W

/-- While functions are copied. -/
structure FRun (wc wr : World) (L : List Fn) (c0 c1 c3 : Value) (g : Nat) (v : Value) (M : List Fn) : Prop where
  box : Bx wr g 26 #[c0, c1, v, c3]
  own : OwnFn wr wc.heap.size v M
  cps : ∀ (i : Nat) x y, L[i]? = some x → M[i]? = some y → CopyFn wr wc.heap.size x y
  grw : wc.grownBy wr (some g)
theorem FRun.step {wc wr w2 w3 : World} {L M : List Fn} {c0 c1 c3 v v' : Value} {g : Nat} {x y : Fn} {b2 : Nat} {obj : Obj} (h : FRun wc wr L c0 c1 c3 g v M) (hgl : g < wc.heap.size) (hB : Below wr.heap.size wr w2) (hC2 : CopyFn w2 b2 x y) (hb2 : wc.heap.size ≤ b2) (hx : L[M.length]? = some x) (hown : w3.ownsRow wc.heap.size 44 5 v' (M.length + 1) (fnvals M ++ fncells y)) (hg : (w2.alloc obj).grownBy w3 v.ownBlock) : FRun wc (w3.setCell ⟨g, 2, none⟩ v') L c0 c1 c3 g v' (M ++ [y]) := by
  have hB3 : Below wr.heap.size wr (w2.alloc obj) := hB.alloc hB.size _
  have hS3 : OwnFn (w2.alloc obj) wc.heap.size v M := rowBelow h.own hB3
  have hvg : v.ownBlock ≠ some g := fun e => by have := (World.ownsRow.lt h.own g e).1; omega
  have hbx := ((h.box.below hB3).grown hg hvg)
  have hset := grownBy_set w3 g 2 v'
  refine ⟨hbx.set 2 v' rfl, ?_, ?_, ?_⟩
  · unfold OwnFn
    rw [fnvals_snoc, List.length_append]
    exact rows_grownG hown hset (fun q e e2 => by have := (World.ownsRow.lt hown q e).1; injection e2 with e2; omega)
  · intro i x' y' hx' hy'
    by_cases e : i < M.length
    · rw [List.getElem?_append_left e] at hy'
      exact (((h.cps i x' y' hx' hy').below hB3).grown hS3 hg).box hset hgl
    · rw [List.getElem?_append_right (by omega)] at hy'
      have e2 : i - M.length = 0 := by
        have := (List.getElem?_eq_some_iff.1 hy').1
        simp at this
        omega
      rw [e2] at hy'
      simp at hy'
      subst hy'
      have e3 : i = M.length := by omega
      subst e3
      rw [hx] at hx'
      injection hx' with hx'
      subst hx'
      have hcc : CopyFn (w2.alloc obj) wc.heap.size x y := (hC2.below ((Below.refl _ _).alloc (Nat.le_refl _) _)).mono hb2
      exact (hcc.grown hS3 hg).box hset hgl
  · exact grownBy_more (grownBy_more (grownBy_more h.grw (grown_ofBelow hB3 none) (fun q e => by cases e)) hg (fun q e => .inl (World.ownsRow.lt h.own q e).1)) hset (fun q e => .inr (by injection e with e; exact e.symm))
/-- While certificates are copied. -/
structure CRun (wc wr : World) (L : List Bs) (c0 c1 c2 : Value) (g : Nat) (v : Value) (M : List Bs) : Prop where
  box : Bx wr g 26 #[c0, c1, c2, v]
  own : OwnBs wr wc.heap.size v M
  cps : ∀ (i : Nat) x y, L[i]? = some x → M[i]? = some y → CopyBs wr wc.heap.size x y
  grw : wc.grownBy wr (some g)
theorem CRun.step {wc wr w2 w3 : World} {L M : List Bs} {c0 c1 c2 v v' : Value} {g : Nat} {x y : Bs} {b2 : Nat} {obj : Obj} (h : CRun wc wr L c0 c1 c2 g v M) (hgl : g < wc.heap.size) (hB : Below wr.heap.size wr w2) (hC2 : CopyBs w2 b2 x y) (hb2 : wc.heap.size ≤ b2) (hx : L[M.length]? = some x) (hown : w3.ownsRow wc.heap.size 28 1 v' (M.length + 1) (bsvals M ++ [bscells y])) (hg : (w2.alloc obj).grownBy w3 v.ownBlock) : CRun wc (w3.setCell ⟨g, 3, none⟩ v') L c0 c1 c2 g v' (M ++ [y]) := by
  have hB3 : Below wr.heap.size wr (w2.alloc obj) := hB.alloc hB.size _
  have hS3 : OwnBs (w2.alloc obj) wc.heap.size v M := rowBelow h.own hB3
  have hvg : v.ownBlock ≠ some g := fun e => by have := (World.ownsRow.lt h.own g e).1; omega
  have hbx := ((h.box.below hB3).grown hg hvg)
  have hset := grownBy_set w3 g 3 v'
  refine ⟨hbx.set 3 v' rfl, ?_, ?_, ?_⟩
  · unfold OwnBs
    rw [bsvals_snoc, List.length_append]
    exact rows_grownG hown hset (fun q e e2 => by have := (World.ownsRow.lt hown q e).1; injection e2 with e2; omega)
  · intro i x' y' hx' hy'
    by_cases e : i < M.length
    · rw [List.getElem?_append_left e] at hy'
      exact (((h.cps i x' y' hx' hy').below hB3).grown hS3 hg).box hset hgl
    · rw [List.getElem?_append_right (by omega)] at hy'
      have e2 : i - M.length = 0 := by
        have := (List.getElem?_eq_some_iff.1 hy').1
        simp at this
        omega
      rw [e2] at hy'
      simp at hy'
      subst hy'
      have e3 : i = M.length := by omega
      subst e3
      rw [hx] at hx'
      injection hx' with hx'
      subst hx'
      have hcc : CopyBs (w2.alloc obj) wc.heap.size x y := ⟨hC2.same, rowMono (World.ownsRow.alloc hC2.own _) hb2⟩
      exact (hcc.grown hS3 hg).box hset hgl
  · exact grownBy_more (grownBy_more (grownBy_more h.grw (grown_ofBelow hB3 none) (fun q e => by cases e)) hg (fun q e => .inl (World.ownsRow.lt h.own q e).1)) hset (fun q e => .inr (by injection e with e; exact e.symm))
end Go.Proofs.YtibgfdjopikafaaGreatDoor
