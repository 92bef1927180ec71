/-
  The contract of the document's Open: what an image keeps, or that it can't be. What is answered is new memory; nothing that lay is turned.
-/
import Derived.Test.YtkcnkfhdbjiggaaSr14
import Derived.Test.YtkcnkfhdbjiggaaBx1
import Derived.Test.YtkcnkfhdbjiggaaRef
import Derived.Test.YtkcnkfhdbjiggaaApp
import Derived.Laws.ResultCell
import Derived.Deep.Cut
namespace Go.Proofs.Ytkcnkfhdbjiggaa
open Go.RowKit
set_option maxRecDepth 20000

theorem run_addrS (g : Nat) (w : World) : (asAddr (.pointer (some ⟨g, 0, none⟩))).run Try.prog w = .ok ⟨g, 0, none⟩ w := rfl
theorem below_rowS {B : Nat} {w W : World} (h : Below B w W) {g : Nat} (hg : B ≤ g) (cs : Array Value) : Below B w (W.setRow g cs) := h.trans ⟨rfl, rfl, rfl, by simp, fun k hk => setRow_other W g k cs (by omega)⟩
theorem results_stS {fn : Func} {q u : Tmp} (h : fn.results = #[.cell q 28, .tmp u]) (tmps : Array Value) (W : World) (g : Nat) (v x0 x1 : Value) (hp : tmps.getD q undef = .pointer (some ⟨g, 0, none⟩)) (hu : tmps.getD u undef = v) (hg : Bx W g 28 #[x0, x1]) :
    (results fn tmps).run Try.prog W = .ok (.tuple #[.agg #[x0, x1], v]) W := by
  rw [results_cell_tmp h, hp, hu, run_addrS, Result.andThen_ok, run_loadVar_row W g 28 28 #[x0, x1] (0, 0) _ hg Try.underlying28 rfl (by kernel_rfl), Result.andThen_ok]
/-- The bytes of each lie there. -/
def RkOk (w : World) (L : List Rk) : Prop := ∀ x ∈ L, BAt w x.ba x.bs ∧ (x.ba = none → x.bs = [])
theorem RkOk.below {w w' : World} {L : List Rk} (h : RkOk w L) (hb : Below w.heap.size w w') : RkOk w' L := fun x hx => ⟨(h x hx).1.below' hb, (h x hx).2⟩
theorem BAt.notBx {w : World} {ao : Option Addr} {l : List UInt8} {g : Nat} {t : TypeId} {x0 x1 : Value} (h : BAt w ao l) (hg : Bx w g t #[x0, x1]) (h0 : ∀ n, x0 ≠ .int .u8 n) (h1 : ∀ n, x1 ≠ .int .u8 n) : ∀ b off, ao = some ⟨b, off, none⟩ → 0 < l.length → b ≠ g := fun b off e hl e2 => by
  subst e2
  obtain ⟨b', off', e', hc⟩ := h 0 hl
  rw [e] at e'
  injection e' with e'
  injection e' with e1 e2
  subst e1 e2
  rw [cell_of_row _ _ _ _ _ _ hg] at hc
  rcases (show off + 0 = 0 ∨ off + 0 = 1 ∨ 2 ≤ off + 0 by omega) with e | e | e
  · rw [e] at hc; injection hc with hc; exact h0 _ hc
  · rw [e] at hc; injection hc with hc; exact h1 _ hc
  · rw [Array.getElem?_eq_none (by simpa using e)] at hc; cases hc
theorem RkOk.setBx {w : World} {L : List Rk} {g i : Nat} {t : TypeId} {x0 x1 v : Value} (h : RkOk w L) (hg : Bx w g t #[x0, x1]) (h0 : ∀ n, x0 ≠ .int .u8 n) (h1 : ∀ n, x1 ≠ .int .u8 n) : RkOk (w.setCell ⟨g, i, none⟩ v) L := fun x hx =>
  ⟨(h x hx).1.keep (kept_setCell w ⟨g, i, none⟩ v) (fun b off e hl e2 => (h x hx).1.notBx hg h0 h1 b off e hl e2), (h x hx).2⟩
theorem slice_ni (a : Option Addr) (n c : Nat) : ∀ m, Value.slice a n c ≠ .int .u8 m := fun m e => by cases e
/-- The three boxes of the call, and the list so far. -/
structure RO (w : World) (B b2 b4 b5 : Nat) (lv : Value) (L : List Rk) : Prop where
  x2 : Bx w b2 28 #[.slice none 0 0, .slice none 0 0]
  x4 : Bx w b4 28 #[.slice none 0 0, .slice none 0 0]
  x5 : Bx w b5 28 #[.slice none 0 0, lv]
  own : OwnR w B lv L
  ok : RkOk w L
  l2 : B ≤ b2
  l5 : B ≤ b5
  n25 : b2 ≠ b5
  n45 : b4 ≠ b5
theorem RO.below {w w' : World} {B b2 b4 b5 : Nat} {lv : Value} {L : List Rk} (h : RO w B b2 b4 b5 lv L) (hb : Below w.heap.size w w') : RO w' B b2 b4 b5 lv L :=
  ⟨h.x2.below hb, h.x4.below hb, h.x5.below hb, h.own.below hb, h.ok.below hb, h.l2, h.l5, h.n25, h.n45⟩
theorem RO.ne5 {w : World} {B b2 b4 b5 : Nat} {lv lv' : Value} {L L' : List Rk} (h : RO w B b2 b4 b5 lv L) {B' : Nat} (ho : OwnR w B' lv' L') : lv'.ownBlock ≠ some b5 := fun e => by
  rcases ho.2 with ⟨h1, _⟩ | ⟨g', cap, cur, hv, hbg, hh, r⟩
  · rw [h1] at e; cases e
  · rw [hv] at e
    injection e with e
    subst e
    exact ty_ne hh h.x5 (by decide) rfl
theorem RO.setL {w : World} {B b2 b4 b5 : Nat} {lv : Value} {L : List Rk} (h : RO w B b2 b4 b5 lv L) {a' : Option Addr} {n' c' : Nat} {L' : List Rk} (ho : OwnR w B (.slice a' n' c') L') (hk : RkOk w L') : RO (w.setCell ⟨b5, 1, none⟩ (.slice a' n' c')) B b2 b4 b5 (.slice a' n' c') L' := by
  obtain ⟨la, lc, hlv, _⟩ := h.own.at
  have hx := h.x5
  rw [hlv] at hx
  refine ⟨h.x2.other _ _ h.n25, h.x4.other _ _ h.n45, h.x5.set 1 _ rfl, ho.keep (kept_setCell w ⟨b5, 1, none⟩ _) (fun k e e2 => h.ne5 ho (by rw [e, e2])), hk.setBx hx (slice_ni _ _ _) (slice_ni _ _ _), h.l2, h.l5, h.n25, h.n45⟩
/-- The document's list is that of the entries. -/
def SameL (l : List UInt8) (K : List Ke) (L : List Rk) : Prop := L.map (fun x => (x.nm, x.bs)) = K.map (fun e => (e.nm, seg l e.fr e.to))
theorem SameL.nm {l : List UInt8} {K : List Ke} {L : List Rk} (h : SameL l K L) : rNm L = kNm K := by
  have := congrArg (List.map Prod.fst) h
  rw [List.map_map, List.map_map] at this
  exact this
theorem SameL.len {l : List UInt8} {K : List Ke} {L : List Rk} (h : SameL l K L) : L.length = K.length := by
  have := congrArg List.length h
  rwa [List.length_map, List.length_map] at this
theorem SameL.put {l : List UInt8} {K : List Ke} {L : List Rk} (h : SameL l K L) (p : Nat) (b : Bool) (x : Rk) (e : Ke) (h1 : x.nm = e.nm) (h2 : x.bs = seg l e.fr e.to) : SameL l (putN p b K e) (putN p b L x) := by
  unfold SameL
  rw [putN_map, putN_map, h, h1, h2]
theorem SameL.cut {l : List UInt8} {K : List Ke} {L : List Rk} (h : SameL l K L) (p : Nat) (b : Bool) : SameL l (cutN p b K) (cutN p b L) := by
  unfold SameL
  rw [cutN_map, cutN_map, h]
theorem numV_one {l : List UInt8} {k : Nat} (h : k < l.length) : numV l k 1 = at8 l k := by
  unfold numV at8
  rw [if_neg (by omega), if_neg (by omega)]
  have : (l.drop k).take 1 = [l[k]] := by rw [List.drop_eq_getElem_cons h]; rfl
  rw [this, List.getD_eq_getElem?_getD, List.getElem?_eq_getElem h]
  simp [beN]
theorem take_ok {l : List UInt8} {k n : Nat} (h : takeE l k (n : Int) = 0) : takeK l k (n : Int) = k + n ∧ takeL l k (n : Int) = seg l k (k + n) ∧ k + n ≤ l.length ∨ l.length < k := by
  by_cases hk : l.length < k
  · exact Or.inr hk
  · left
    unfold takeE at h
    split at h
    · omega
    · split at h
      · omega
      · rename_i h1 h2
        refine ⟨by unfold takeK; rw [if_neg (by omega), if_neg h2, Int.toNat_natCast], ?_, by omega⟩
        unfold takeL seg
        rw [if_neg (by omega), if_neg h2, Int.toNat_natCast, show k + n - k = n by omega]
theorem srcB_take {w : World} {ao : Option Addr} {c : Nat} {l : List UInt8} {k : Nat} (h : BAt w ao l) (hn : ao = none → l = []) (hk : k ≤ l.length) (hc : ao = none → c = 0) : SrcB w (.slice ao k c) (l.take k) := by
  have hl : (l.take k).length = k := by rw [List.length_take]; omega
  cases ao with
  | none =>
    have h1 := hn rfl
    have h2 := hc rfl
    subst h1 h2
    have h3 : k = 0 := by simpa using hk
    subst h3
    exact Or.inl ⟨rfl, by simp⟩
  | some x => exact Or.inr ⟨x, c, by rw [hl], BAt.take (m := l.drop k) (by rw [List.take_append_drop]; exact h)⟩
theorem RkOk.far {W w w' : World} {L : List Rk} (h0 : RkOk W L) (h : RkOk w L) (hk : Kept (fun q => q = W.heap.size) w w') : RkOk w' L := fun x hx => ⟨(h x hx).1.keep hk (fun b off e hl e2 => by
  obtain ⟨b', off', e', hc⟩ := (h0 x hx).1 0 hl
  rw [e] at e'
  injection e' with e'
  injection e' with e1 _
  have := World.block_lt_of_cell? W _ hc
  subst e1
  simp only at this
  omega), (h x hx).2⟩
theorem RO.apart {w w' : World} {B b2 b4 b5 : Nat} {lv : Value} {L : List Rk} {N : Nat} (h : RO w B b2 b4 b5 lv L) (hk : Kept (fun q => q = N) w w') (hb : b2 ≠ N ∧ b4 ≠ N ∧ b5 ≠ N) (hl : ∀ q, lv.ownBlock = some q → q ≠ N) (ho : RkOk w' L) : RO w' B b2 b4 b5 lv L :=
  ⟨(hk.block b2 h.x2.lt hb.1).trans h.x2, (hk.block b4 h.x4.lt hb.2.1).trans h.x4, (hk.block b5 h.x5.lt hb.2.2).trans h.x5, h.own.keep hk hl, ho, h.l2, h.l5, h.n25, h.n45⟩
theorem RO.setI {w : World} {B b2 b4 b5 : Nat} {la : Option Addr} {ln lc : Nat} {L : List Rk} {I : List UInt8} (h : RO w B b2 b4 b5 (.slice la ln lc) L) (iv : Value) (ho : OwnB w B iv I) (hv : iv.ownBlock ≠ some b5) : Bx (w.setCell ⟨b5, 0, none⟩ iv) b5 28 #[iv, .slice la ln lc] ∧ Bx (w.setCell ⟨b5, 0, none⟩ iv) b2 28 #[.slice none 0 0, .slice none 0 0] ∧ OwnB (w.setCell ⟨b5, 0, none⟩ iv) B iv I ∧ OwnR (w.setCell ⟨b5, 0, none⟩ iv) B (.slice la ln lc) L ∧ RkOk (w.setCell ⟨b5, 0, none⟩ iv) L := by
  have hs := kept_setCell w ⟨b5, 0, none⟩ iv
  exact ⟨h.x5.set 0 _ rfl, h.x2.other _ _ h.n25, ho.keep hs (fun k e e2 => hv (by rw [e, e2])), h.own.keep hs (fun k e e2 => h.ne5 h.own (by rw [e, e2])), h.ok.setBx h.x5 (slice_ni _ _ _) (slice_ni _ _ _)⟩
def ROPost (w : World) (l : List UInt8) (e : Ending) (w' : World) : Prop :=
  Below w.heap.size w w' ∧ ((e = .returned (.tuple #[.agg #[.slice none 0 0, .slice none 0 0], .bool false]) ∧ openS l = none) ∨ ∃ iv lv k K L, e = .returned (.tuple #[.agg #[iv, lv], .bool true]) ∧ openS l = some (k, K) ∧ OwnB w' w.heap.size iv (l.take k) ∧ OwnR w' w.heap.size lv L ∧ RkOk w' L ∧ SameL l K L ∧ EnK k K ∧ k ≤ l.length)
end Go.Proofs.Ytkcnkfhdbjiggaa
