/-
  Contracts of slices.Index, Contains, Clone and Equal at numbers; provisolaw14.live: those of some references that are objects'. Conditions: lengths fit.
-/
import Derived.Test.YtbbfnampjbdnbaaDoorKHq13
import Derived.Test.YtbbfnampjbdnbaaDoorLayEq
import Derived.Shelf.Slices.Equal
import Derived.Lib.SliceRun
namespace Go.Proofs.YtbbfnampjbdnbaaDoor
open Go.RowKit
set_option maxRecDepth 20000

theorem jvals_oneH (l : List Int) : ∀ u ∈ jvals l, u.oneCell' = true := by
  intro u hu
  unfold jvals at hu
  obtain ⟨x, _, rfl⟩ := List.mem_map.1 hu
  rfl
theorem below_grownH {B : Nat} {w w' : World} {row : Option Nat} (hg : w.grownBy w' row) (hB : B ≤ w.heap.size) (hr : ∀ k, row = some k → B ≤ k) : Below B w w' := (Below.refl B w).grown hg hB hr
set_option maxHeartbeats 400000 in
theorem CloneH_any (ao : Option Addr) (c : Nat) (l : List Int) (w : World) (hl : JsAt w ao l) (hn : ao = none → l = []) (hb : l.length ≤ 17592186043904) :
    Calls Tryd.prog 15 #[.slice ao l.length c] w fun e w' => ∃ v, e = .returned v ∧ OwnJ w' w.heap.size v l ∧ Below w.heap.size w w' := by
  have q22 : ∀ (w : World) (a : Option Addr) (n c n' c' : Nat), (binOp .eql 42 (.slice a n c) (.slice none n' c')).run Tryd.prog w = .ok (.bool a.isNone) w := fun w a n c n' c' => Lib.run_eql_slice_nil w _ _ a n c n' c' Tryd.underlying42
  obtain ⟨i0, hi, hz0, hz1, hz2⟩ := info_parts infoJ
  cases ao with
  | none =>
    have hl0 := hn rfl
    subst hl0
    go_enter Tryd.func15, Tryd.ntmps15
    go_wp2
    go_ret
    exact ⟨_, rfl, World.ownsRow_nil _ _ _ _, Below.refl _ _⟩
  | some x =>
    go_enter Tryd.func15, Tryd.ntmps15
    go_wp2_with (at_builtin; refine wpList_append_own _ rfl _ _ 42 rfl w.heap.size 3 i0 (.int .i64 0) 1 8 Tryd.underlying42 hi hz0 hz1 hz2 rfl (by decide) _ 0 [] rfl (World.ownsRow_made w #[] 0 (Nat.le_refl _) (by decide) rfl) x l.length c (jvals l) rfl ?c0 ?c1 ?c2 ?c3 ?c4 ?c5 ?_)
    case c0 => simp [jvals]
    case c1 =>
      intro j u hj
      unfold jvals at hj
      rw [List.getElem?_map] at hj
      obtain ⟨a, ha, rfl⟩ := Option.map_eq_some_iff.1 hj
      obtain ⟨b, off, e, hcell⟩ := hl j a ha
      injection e with e
      subst e
      have hlt := World.block_lt_of_cell? w _ hcell
      rw [Addr.add_lit]
      exact (((Below.refl w.heap.size w).alloc (Nat.le_refl _) _).cell (p := ⟨b, off + j, none⟩) hlt).trans hcell
    case c2 => exact jvals_oneH l
    case c3 => unfold maxLen; omega
    case c4 => omega
    case c5 => simp
    · intro v' w1 hown hgrow _
      have HX : Hid (OwnJ w1 w.heap.size v' l) := hide (by simpa [OwnJ] using hown)
      have HB : Hid (Below w.heap.size w w1) := hide (((Below.refl w.heap.size w).alloc (Nat.le_refl _) _).trans (below_grownH hgrow (by simp) (fun k e => by simp [Value.ownBlock] at e; omega)))
      clear hown hgrow hl
      go_wp2
      go_ret
      exact ⟨_, rfl, unhide HX, unhide HB⟩

theorem EqualH_same {w : World} {a1 a2 : Option Addr} {c d : Nat} {l : List Int} (h1 : JsAt w a1 l) (h2 : JsAt w a2 l) (hl : l.length ≤ 17592186044416) :
    Calls Tryd.prog 28 #[.slice a1 l.length c, .slice a2 l.length d] w fun e w' => e = .returned (.bool true) ∧ ∃ q, w' = w.drewN q := by
  cases l with
  | nil =>
    refine (Any.slices_Equal_int_empty Tryd.laysEq a1 a2 c 0 d w (by omega)).mono ?_
    rintro e w' ⟨rfl, rfl⟩
    exact ⟨rfl, 0, rfl⟩
  | cons x l =>
    obtain ⟨b1, o1, rfl, _⟩ := h1 0 x rfl
    obtain ⟨b2, o2, rfl, _⟩ := h2 0 x rfl
    refine (Any.slices_Equal_int Tryd.laysEq b1 o1 (x :: l).length c b2 o2 (x :: l).length d (x :: l) (x :: l) w (Nat.le_refl _) (Nat.le_refl _) (by omega) (by omega) (fun j hj => ?_) (fun j hj => ?_)).mono ?_
    · obtain ⟨b, off, e, hc⟩ := h1 j _ (List.getElem?_eq_getElem hj)
      injection e with e
      injection e with e1 e2
      subst e1 e2
      rw [hc, List.getD_eq_getElem?_getD, List.getElem?_eq_getElem hj]
      rfl
    · obtain ⟨b, off, e, hc⟩ := h2 j _ (List.getElem?_eq_getElem hj)
      injection e with e
      injection e with e1 e2
      subst e1 e2
      rw [hc, List.getD_eq_getElem?_getD, List.getElem?_eq_getElem hj]
      rfl
    · rintro e w' ⟨rfl, q, rfl⟩
      exact ⟨by simp, q, rfl⟩
/-- Those that are objects'. -/
def liveD (h : Hm) (R : List Int) : List Int := R.filter (fun r => decide (r ∈ h.O.map Ob.ref))
end Go.Proofs.YtbbfnampjbdnbaaDoor
