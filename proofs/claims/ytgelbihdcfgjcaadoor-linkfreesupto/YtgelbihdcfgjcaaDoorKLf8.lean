/-
  What LinkFrees' walk stands on: copies make no odds to Free; a copy's code being spoilt. No Go in it but slices.Equal.
-/
import Derived.Test.YtgelbihdcfgjcaaDoorJLF
import Derived.Test.YtgelbihdcfgjcaaDoorJLG
import Derived.Test.YtgelbihdcfgjcaaDoorKLf4
import Derived.Shelf.Slices.Equal
import Derived.Test.YtgelbihdcfgjcaaDoorLayEq
namespace Go.Proofs.YtgelbihdcfgjcaaDoor
open Go.RowKit
set_option maxRecDepth 20000
set_option linter.unusedVariables false

theorem EqualL_same {w : World} {a1 a2 : Option Addr} {c d : Nat} {l : List Int} (h1 : JsAt w a1 l) (h2 : JsAt w a2 l) (hl : l.length ≤ 17592186044416) :
    Calls Tryd.prog 10 #[.slice a1 l.length c, .slice a2 l.length d] w fun e w' => e = .returned (.bool true) ∧ ∃ q, w' = w.drewN q := by
  cases l with
  | nil =>
    refine (Any.slices_Equal_int_empty Tryd.laysEq a1 a2 c 0 d w (by omega)).mono ?_
    rintro e w' ⟨rfl, rfl⟩
    exact ⟨rfl, 0, rfl⟩
  | cons x l =>
    obtain ⟨b1, o1, rfl, _⟩ := h1 0 x rfl
    obtain ⟨b2, o2, rfl, _⟩ := h2 0 x rfl
    refine (Any.slices_Equal_int Tryd.laysEq b1 o1 (x :: l).length c b2 o2 (x :: l).length d (x :: l) (x :: l) w (Nat.le_refl _) (Nat.le_refl _) (by omega) (by omega) (fun j hj => ?_) (fun j hj => ?_)).mono ?_
    · obtain ⟨b, off, e, hc⟩ := h1 j _ (List.getElem?_eq_getElem hj)
      injection e with e
      injection e with e1 e2
      subst e1 e2
      rw [hc, List.getD_eq_getElem?_getD, List.getElem?_eq_getElem hj]
      rfl
    · obtain ⟨b, off, e, hc⟩ := h2 j _ (List.getElem?_eq_getElem hj)
      injection e with e
      injection e with e1 e2
      subst e1 e2
      rw [hc, List.getD_eq_getElem?_getD, List.getElem?_eq_getElem hj]
      rfl
    · rintro e w' ⟨rfl, q, rfl⟩
      exact ⟨by simp, q, rfl⟩
theorem lfW_map : ∀ (F G : List Fn) (i : Nat), F.map (·.cd) = G.map (·.cd) → lfW F i = lfW G i
  | [], [], _, _ => rfl
  | [], _ :: _, _, h => by simp at h
  | _ :: _, [], _, h => by simp at h
  | f :: F, g :: G, i, h => by
    simp only [List.map_cons, List.cons.injEq] at h
    rw [lfW, lfW, h.1, lfW_map F G (i + 1) h.2]
theorem lfL_map (n m : Nat) : ∀ (F G : List Fn), F.map (·.cd) = G.map (·.cd) → lfL n m F = lfL n m G
  | [], [], _ => rfl
  | [], _ :: _, h => by simp at h
  | _ :: _, [], h => by simp at h
  | f :: F, g :: G, h => by
    simp only [List.map_cons, List.cons.injEq] at h
    have := lfL_map n m F G h.2
    unfold lfL at this ⊢
    rw [List.flatMap_cons, List.flatMap_cons, h.1, this]
theorem lfR_same {p y : Pt} (h : SamePt p y) : lfR y = lfR p := by
  have h1 : y.m.F.map (·.cd) = p.m.F.map (·.cd) := con_map h.m.fns.1 (fun i a b ha hb => (h.m.fns.2 i a b ha hb).cd)
  unfold lfR
  rw [lfW_map _ _ _ h1, lfL_map _ _ _ _ h1, h.m.fns.1, h.imp.1]
theorem lfR_len (p : Pt) : (lfR p).1.length ≤ p.m.F.length * 4097 := by
  unfold lfR
  split
  · simp
  · exact Nat.le_trans (onceJ_len _) (lfL_len _ _ _)
theorem two_back {L M : List Im} (h : Two sameI L M) : Two sameI M L := ⟨h.1.symm, fun i x y hx hy => by
  obtain ⟨h1, h2, h3⟩ := h.2 i y x hy hx
  exact ⟨h1.symm, h2.symm, h3.symm⟩⟩
theorem sameT_trans {A B C : List Cl} (h : SameT A B) (k : SameT B C) : SameT A C := ⟨k.1.trans h.1, fun i x z hx hz => by
  have hi := (List.getElem?_eq_some_iff.1 hx).1
  have hy := List.getElem?_eq_getElem (show i < B.length by rw [h.1]; exact hi)
  have h1 := h.2 i x _ hx hy
  have h2 := k.2 i _ z hy hz
  exact ⟨h2.nm.trans h1.nm, h2.par.trans h1.par, h2.fs.trans h1.fs⟩⟩
theorem sameFns_trans {A B C : List Fn} (h : SameFns A B) (k : SameFns B C) : SameFns A C := ⟨k.1.trans h.1, fun i x z hx hz => by
  have hi := (List.getElem?_eq_some_iff.1 hx).1
  have hy := List.getElem?_eq_getElem (show i < B.length by rw [h.1]; exact hi)
  have h1 := h.2 i x _ hx hy
  have h2 := k.2 i _ z hy hz
  exact ⟨h2.nm.trans h1.nm, ⟨h2.sg.ps.trans h1.sg.ps, h2.sg.rt.trans h1.sg.rt⟩, h2.lo.trans h1.lo, h2.cd.trans h1.cd⟩⟩
/-- A module without its certificates. -/
def bare (m : Md) : Md := { m with co := none, cc := 0, C := [] }
theorem bare_ok {W : World} {m : Md} (h : MdOk W m) : MdOk W (bare m) := ⟨h.tab, h.tz, h.fns, h.fz, fun i x hx => by simp [bare] at hx, by simp [bare], h.name⟩
theorem bare_same {p a w : Md} (h1 : a.nm = p.nm) (h2 : SameT p.T a.T) (h3 : SameFns p.F a.F) (h4 : a.C = []) (k : SameMd p w) : mdEq a (bare w) = true := by
  have ha : SameMd (bare p) a := ⟨h1, h2, h3, by rw [h4]; exact ⟨rfl, fun i x y hx => by simp [bare] at hx⟩⟩
  have hw : SameMd (bare p) (bare w) := ⟨k.nm, k.tab, k.fns, ⟨rfl, fun i x y hx => by simp [bare] at hx⟩⟩
  rw [mdEq_same ha hw]
  exact mdEq_self ⟨rfl, ⟨rfl, fun i x y hx hy => by rw [hx] at hy; injection hy with hy; subst hy; exact ⟨rfl, rfl, rfl⟩⟩, ⟨rfl, fun i x y hx hy => by rw [hx] at hy; injection hy with hy; subst hy; exact ⟨rfl, ⟨rfl, rfl⟩, rfl, rfl⟩⟩, ⟨rfl, fun i x y hx => by simp [bare] at hx⟩⟩

/-- A copy whose code is being spoilt: what was there before it stays. -/
structure Sp (V W : World) (a : Md) (g : Nat) : Prop where
  box : Bx W g 29 #[.string a.nm, .slice a.ao a.T.length a.cap, .slice a.fo a.F.length a.fc, .slice none 0 0, .slice none 0 0]
  row : W.ownsRow V.heap.size 40 5 (.slice a.fo a.F.length a.fc) a.F.length (vals fnM a.F)
  pl : ∀ x ∈ a.F, ∀ i, i < x.cd.length → ∃ b off v cur, x.ca = some ⟨b, off, none⟩ ∧ V.heap.size ≤ b ∧ W.heap[b]? = some (.cells cur 5 (0, 0)) ∧ cur[off + i]? = some v
  bel : Below V.heap.size V W
theorem Sp.below {V W W' : World} {a : Md} {g : Nat} (h : Sp V W a g) (hb : Below W.heap.size W W') : Sp V W' a g := ⟨h.box.below hb, rowBelow h.row hb, fun x hx i hi => by
  obtain ⟨b, off, v, cur, e, h1, h2, h3⟩ := h.pl x hx i hi
  exact ⟨b, off, v, cur, e, h1, (hb.block b (Array.getElem?_eq_some_iff.1 h2).1).trans h2, h3⟩, h.bel.trans (hb.mono h.bel.size)⟩
theorem Sp.set {V W : World} {a : Md} {g q k : Nat} {cur : Array Value} {u : Value} (h : Sp V W a g) (hq : V.heap.size ≤ q) (hc : W.heap[q]? = some (.cells cur 5 (0, 0))) : Sp V (W.setCell ⟨q, k, none⟩ u) a g := by
  refine ⟨h.box.other _ _ (fun e => ?_), rows_grownG h.row (grownBy_set W q k u) (fun r hr e => ?_), fun x hx i hi => ?_, h.bel.setCell (p := ⟨q, k, none⟩) hq _⟩
  · have e : g = q := e
    subst e
    have := h.box
    unfold Bx at this
    rw [hc] at this
    simp at this
  · injection e with e
    subst e
    obtain ⟨c1, g1⟩ := rowTy h.row q hr
    rw [hc] at g1
    simp at g1
  · obtain ⟨b, off, v, cur', e, hb, hh, hv⟩ := h.pl x hx i hi
    by_cases hbq : b = q
    · subst hbq
      rw [hc] at hh
      injection hh with hh
      injection hh with hh
      subst hh
      have hlt := (Array.getElem?_eq_some_iff.1 hv).1
      refine ⟨b, off, _, cur.setIfInBounds k u, e, hb, heap_setCell_same W b k cur 5 u hc, Array.getElem?_eq_getElem (by simpa using hlt)⟩
    · refine ⟨b, off, v, cur', e, hb, (Below.heap_setCell W ⟨q, k, none⟩ u b hbq).trans hh, hv⟩
theorem Sp.other {V W : World} {a : Md} {g q k : Nat} {t : TypeId} {cs : Array Value} {u : Value} (h : Sp V W a g) (hq : V.heap.size ≤ q) (hg : g ≠ q) (hb : Bx W q t cs) (h1 : t ≠ 5) (h2 : t ≠ 40) : Sp V (W.setCell ⟨q, k, none⟩ u) a g := by
  have hb : W.heap[q]? = some (.cells cs t (0, 0)) := hb
  refine ⟨h.box.other _ _ hg, rows_grownG h.row (grownBy_set W q k u) (fun r hr e => ?_), fun x hx i hi => ?_, h.bel.setCell (p := ⟨q, k, none⟩) hq _⟩
  · injection e with e
    subst e
    obtain ⟨c1, g1⟩ := rowTy h.row q hr
    rw [hb] at g1
    simp at g1
    exact h2 g1.2
  · obtain ⟨b, off, v, cur, e, hb', hh, hv⟩ := h.pl x hx i hi
    refine ⟨b, off, v, cur, e, hb', (Below.heap_setCell W ⟨q, k, none⟩ u b (fun e2 => ?_)).trans hh, hv⟩
    have e2 : b = q := e2
    subst e2
    rw [hb] at hh
    injection hh with hh
    injection hh with _ hh
    exact h1 hh
theorem Sp.fn {V W : World} {a : Md} {g i : Nat} {x : Fn} (h : Sp V W a g) (hx : a.F[i]? = some x) : ∃ r, a.fo = some ⟨r, 0, none⟩ ∧ W.cell? ⟨r, i * 5 + 4, none⟩ = some (.slice x.ca x.cd.length x.cc) := by
  have hi := (List.getElem?_eq_some_iff.1 hx).1
  rcases h.row.2 with ⟨h1, h2⟩ | ⟨r, cap, cur, e, _⟩
  · omega
  · have e' := e
    injection e' with e1 e2 e3
    refine ⟨r, e1, ?_⟩
    have hr := h.row
    rw [e1] at hr
    rw [World.ownsRow.cellAt hr (i * 5 + 4) (by omega)]
    exact vals_get fnM hx 4 (by decide)
theorem Sp.made {V W : World} {m a : Md} (h : AloneR V W m a) : Sp V (W.alloc (.cells #[.string a.nm, .slice a.ao a.T.length a.cap, .slice a.fo a.F.length a.fc, .slice none 0 0, .slice none 0 0] 29)) a W.heap.size := by
  have hal : Below W.heap.size W (W.alloc (.cells #[.string a.nm, .slice a.ao a.T.length a.cap, .slice a.fo a.F.length a.fc, .slice none 0 0, .slice none 0 0] 29)) := (Below.refl _ _).alloc (Nat.le_refl _) _
  refine ⟨heap_alloc_new W _, rowBelow h.row.own hal, fun x hx i hi => ?_, h.bel.trans (hal.mono h.bel.size)⟩
  have hok : FnOk W x := h.row.ok x hx
  obtain ⟨b, off, e, hc⟩ := hok.code i hi
  obtain ⟨p1, p2⟩ := h.pl x hx
  obtain ⟨cur, hh⟩ := p1 b off e (by omega)
  have hbl := (Array.getElem?_eq_some_iff.1 hh).1
  rw [cell_of_row _ _ _ _ _ _ hh] at hc
  exact ⟨b, off, _, cur, e, p2 b off e (by omega), (hal.block b hbl).trans hh, hc⟩
end Go.Proofs.YtgelbihdcfgjcaaDoor
