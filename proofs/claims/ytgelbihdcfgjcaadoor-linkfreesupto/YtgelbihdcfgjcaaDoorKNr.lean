/-
  The contract of provisoref05.Next; slices.Equal of numbers that are alike; the walk of the law FlowNexts. Conditions: the widths lie there.
-/
import Derived.Test.YtgelbihdcfgjcaaDoorKNx
import Derived.Test.YtgelbihdcfgjcaaDoorLayEq
namespace Go.Proofs.YtgelbihdcfgjcaaDoor
open Go.RowKit
set_option maxRecDepth 20000

theorem EqualJ_same {w : World} {a1 a2 : Option Addr} {c d : Nat} {l : List Int} (h1 : JsAt w a1 l) (h2 : JsAt w a2 l) (hl : l.length ≤ 17592186044416) :
    Calls Tryd.prog 10 #[.slice a1 l.length c, .slice a2 l.length d] w fun e w' => e = .returned (.bool true) ∧ ∃ q, w' = w.drewN q := by
  cases l with
  | nil =>
    refine (Any.slices_Equal_int_empty Tryd.laysEq a1 a2 c 0 d w (by omega)).mono ?_
    rintro e w' ⟨rfl, rfl⟩
    exact ⟨rfl, 0, rfl⟩
  | cons x l =>
    obtain ⟨b1, o1, rfl, _⟩ := h1 0 x rfl
    obtain ⟨b2, o2, rfl, _⟩ := h2 0 x rfl
    refine (Any.slices_Equal_int Tryd.laysEq b1 o1 (x :: l).length c b2 o2 (x :: l).length d (x :: l) (x :: l) w (Nat.le_refl _) (Nat.le_refl _) (by omega) (by omega) (fun j hj => ?_) (fun j hj => ?_)).mono ?_
    · obtain ⟨b, off, e, hc⟩ := h1 j _ (List.getElem?_eq_getElem hj)
      injection e with e
      injection e with e1 e2
      subst e1 e2
      rw [hc, List.getD_eq_getElem?_getD, List.getElem?_eq_getElem hj]
      rfl
    · obtain ⟨b, off, e, hc⟩ := h2 j _ (List.getElem?_eq_getElem hj)
      injection e with e
      injection e with e1 e2
      subst e1 e2
      rw [hc, List.getD_eq_getElem?_getD, List.getElem?_eq_getElem hj]
      rfl
    · rintro e w' ⟨rfl, q, rfl⟩
      exact ⟨by simp, q, rfl⟩
end Go.Proofs.YtgelbihdcfgjcaaDoor
