/-
  A module and its copy hold the same. No Go in it.
-/
import Derived.Test.YtgelbihdcfgjcaaDoorKMd5
namespace Go.Proofs.YtgelbihdcfgjcaaDoor
open Go.RowKit
set_option maxRecDepth 20000

theorem con_map {α β : Type} [DecidableEq β] {c : α → β} {L M : List α} (hl : M.length = L.length) (h : ∀ (i : Nat) x y, L[i]? = some x → M[i]? = some y → c y = c x) : M.map c = L.map c := by
  have := eqL_yes (c := c) (L := M) (M := L) hl (fun i x y h1 h2 => h i y x h2 h1)
  unfold eqL at this
  exact eqOfDec this
theorem SameMd.T {x y : Md} (h : SameMd x y) : y.T.map clC = x.T.map clC := con_map h.tab.1 (fun i a b h1 h2 => by have := h.tab.2 i a b h1 h2; unfold clC; rw [this.nm, this.par, this.fs])
theorem SameMd.F {x y : Md} (h : SameMd x y) : y.F.map fnC = x.F.map fnC := con_map h.fns.1 (fun i a b h1 h2 => by have := h.fns.2 i a b h1 h2; unfold fnC sgC; rw [this.nm, this.sg.ps, this.sg.rt, this.lo, this.cd])
theorem SameMd.C {x y : Md} (h : SameMd x y) : y.C.map bsC = x.C.map bsC := con_map h.cts.1 (fun i a b h1 h2 => by have := h.cts.2 i a b h1 h2; unfold bsC; rw [this])
theorem mdEq_same {a b X Y : Md} (hx : SameMd a X) (hy : SameMd b Y) : mdEq X Y = mdEq a b := by
  unfold mdEq eqL
  rw [hx.nm, hy.nm, hx.T, hy.T, hx.F, hy.F, hx.C, hy.C]
theorem mdEq_self {a X : Md} (hx : SameMd a X) : mdEq a X = true := by
  unfold mdEq eqL
  rw [hx.nm, hx.T, hx.F, hx.C]
  simp
theorem mdEq_back {a X : Md} (hx : SameMd a X) : mdEq X a = true := by
  unfold mdEq eqL
  rw [hx.nm, hx.T, hx.F, hx.C]
  simp
end Go.Proofs.YtgelbihdcfgjcaaDoor
