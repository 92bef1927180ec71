/-
  Contracts of slices.Index, Contains, Clone and Equal at numbers; provisolaw14.live: those of some references that are objects'. Conditions: lengths fit.
-/
import Derived.Test.YtnkhkppddlpcmaaDoorKHq13
import Derived.Test.YtnkhkppddlpcmaaDoorLayEq
import Derived.Shelf.Slices.Equal
import Derived.Lib.SliceRun
namespace Go.Proofs.YtnkhkppddlpcmaaDoor
open Go.RowKit
set_option maxRecDepth 20000

theorem jvals_oneH (l : List Int) : ∀ u ∈ jvals l, u.oneCell' = true := by
  intro u hu
  unfold jvals at hu
  obtain ⟨x, _, rfl⟩ := List.mem_map.1 hu
  rfl
theorem below_grownH {B : Nat} {w w' : World} {row : Option Nat} (hg : w.grownBy w' row) (hB : B ≤ w.heap.size) (hr : ∀ k, row = some k → B ≤ k) : Below B w w' := (Below.refl B w).grown hg hB hr
set_option maxRecDepth 20000 in
set_option maxHeartbeats 4000000 in
theorem IndexH_any (ao : Option Addr) (c : Nat) (l : List Int) (a : Int) (w : World) (hx : JsAt w ao l) (hz : l.length ≤ 100000000000000) :
    Calls Tryd.prog 60 #[.slice ao l.length c, .int .i64 a] w fun e w' => ∃ n : Int, e = .returned (.int .i64 n) ∧ Hid (decide (n ≥ 0) = decide (a ∈ l)) ∧ w' = w := by
  have HX := hide hx
  clear hx
  go_enter Tryd.func60, Tryd.ntmps60
  go_wp2
  go_loopw [8] (fun i wr => ∃ k : Nat, k ≤ l.length ∧ i = .int .i64 (k : Int) ∧ Hid (a ∉ l.take k) ∧ wr = w) (fun i _ => l.length - (intOf i).toNat)
  case atStart => exact ⟨0, by omega, rfl, hide (by simp), rfl⟩
  case round =>
    obtain ⟨k, hk, rfl, HN, rfl⟩ := hrel
    by_cases hkl : k < l.length
    · have j1 : ((k : Nat) : Int) < ((l.length : Nat) : Int) := by omega
      have hy := List.getElem?_eq_getElem hkl
      generalize l[k] = y at hy
      obtain ⟨b, off, rfl, hyc⟩ := (unhide HX) k y hy
      have HTk := hide (take_step hy)
      have HM := hide (List.mem_of_getElem? hy)
      clear hy
      by_cases hp : a = y
      · have hq : (a == y) = true := by simpa using hp
        have HF : Hid (a ∈ l) := hide (by rw [hp]; exact unhide HM)
        clear hp
        go_wp2
        go_ret
        exact ⟨_, rfl, hide (by rw [decide_eq_true (unhide HF)]; simp), rfl⟩
      · have hq : (a == y) = false := by simpa using hp
        have HT2 : Hid (a ∉ l.take (k + 1)) := hide (by rw [unhide HTk, List.mem_append, List.mem_singleton]; rintro (h | h); exact unhide HN h; exact hp h)
        clear hp
        go_wp2
        go_roundw
        case rel => exact ⟨k + 1, by omega, by go_num, HT2, trivial⟩
        case measure => simp [intOf]; omega
    · obtain rfl : k = l.length := by omega
      rw [List.take_length] at HN
      go_wp2
      go_ret
      exact ⟨_, rfl, hide (by rw [decide_eq_false (unhide HN)]; simp), rfl⟩
set_option maxRecDepth 20000 in
theorem ContainsH_any (ao : Option Addr) (c : Nat) (l : List Int) (a : Int) (w : World) (hx : JsAt w ao l) (hz : l.length ≤ 100000000000000) :
    Calls Tryd.prog 33 #[.slice ao l.length c, .int .i64 a] w fun e w' => e = .returned (.bool (decide (a ∈ l))) ∧ w' = w := by
  have HI := hide (IndexH_any ao c l a w hx hz)
  clear hx
  go_enter Tryd.func33, Tryd.ntmps33
  go_wp2_with (go_at_call 60; refine (unhide HI).mono ?_; rintro e w1 ⟨n, rfl, hn, rfl⟩)
  go_ret
  exact ⟨by rw [← unhide hn]; rfl, rfl⟩
set_option maxHeartbeats 400000 in
theorem CloneH_any (ao : Option Addr) (c : Nat) (l : List Int) (w : World) (hl : JsAt w ao l) (hn : ao = none → l = []) (hb : l.length ≤ 17592186043904) :
    Calls Tryd.prog 30 #[.slice ao l.length c] w fun e w' => ∃ v, e = .returned v ∧ OwnJ w' w.heap.size v l ∧ Below w.heap.size w w' := by
  have q22 : ∀ (w : World) (a : Option Addr) (n c n' c' : Nat), (binOp .eql 42 (.slice a n c) (.slice none n' c')).run Tryd.prog w = .ok (.bool a.isNone) w := fun w a n c n' c' => Lib.run_eql_slice_nil w _ _ a n c n' c' Tryd.underlying42
  obtain ⟨i0, hi, hz0, hz1, hz2⟩ := info_parts infoJ
  cases ao with
  | none =>
    have hl0 := hn rfl
    subst hl0
    go_enter Tryd.func30, Tryd.ntmps30
    go_wp2
    go_ret
    exact ⟨_, rfl, World.ownsRow_nil _ _ _ _, Below.refl _ _⟩
  | some x =>
    go_enter Tryd.func30, Tryd.ntmps30
    go_wp2_with (at_builtin; refine wpList_append_own _ rfl _ _ 42 rfl w.heap.size 3 i0 (.int .i64 0) 1 8 Tryd.underlying42 hi hz0 hz1 hz2 rfl (by decide) _ 0 [] rfl (World.ownsRow_made w #[] 0 (Nat.le_refl _) (by decide) rfl) x l.length c (jvals l) rfl ?c0 ?c1 ?c2 ?c3 ?c4 ?c5 ?_)
    case c0 => simp [jvals]
    case c1 =>
      intro j u hj
      unfold jvals at hj
      rw [List.getElem?_map] at hj
      obtain ⟨a, ha, rfl⟩ := Option.map_eq_some_iff.1 hj
      obtain ⟨b, off, e, hcell⟩ := hl j a ha
      injection e with e
      subst e
      have hlt := World.block_lt_of_cell? w _ hcell
      rw [Addr.add_lit]
      exact (((Below.refl w.heap.size w).alloc (Nat.le_refl _) _).cell (p := ⟨b, off + j, none⟩) hlt).trans hcell
    case c2 => exact jvals_oneH l
    case c3 => unfold maxLen; omega
    case c4 => omega
    case c5 => simp
    · intro v' w1 hown hgrow _
      have HX : Hid (OwnJ w1 w.heap.size v' l) := hide (by simpa [OwnJ] using hown)
      have HB : Hid (Below w.heap.size w w1) := hide (((Below.refl w.heap.size w).alloc (Nat.le_refl _) _).trans (below_grownH hgrow (by simp) (fun k e => by simp [Value.ownBlock] at e; omega)))
      clear hown hgrow hl
      go_wp2
      go_ret
      exact ⟨_, rfl, unhide HX, unhide HB⟩

theorem EqualH_same {w : World} {a1 a2 : Option Addr} {c d : Nat} {l : List Int} (h1 : JsAt w a1 l) (h2 : JsAt w a2 l) (hl : l.length ≤ 17592186044416) :
    Calls Tryd.prog 29 #[.slice a1 l.length c, .slice a2 l.length d] w fun e w' => e = .returned (.bool true) ∧ ∃ q, w' = w.drewN q := by
  cases l with
  | nil =>
    refine (Any.slices_Equal_int_empty Tryd.laysEq a1 a2 c 0 d w (by omega)).mono ?_
    rintro e w' ⟨rfl, rfl⟩
    exact ⟨rfl, 0, rfl⟩
  | cons x l =>
    obtain ⟨b1, o1, rfl, _⟩ := h1 0 x rfl
    obtain ⟨b2, o2, rfl, _⟩ := h2 0 x rfl
    refine (Any.slices_Equal_int Tryd.laysEq b1 o1 (x :: l).length c b2 o2 (x :: l).length d (x :: l) (x :: l) w (Nat.le_refl _) (Nat.le_refl _) (by omega) (by omega) (fun j hj => ?_) (fun j hj => ?_)).mono ?_
    · obtain ⟨b, off, e, hc⟩ := h1 j _ (List.getElem?_eq_getElem hj)
      injection e with e
      injection e with e1 e2
      subst e1 e2
      rw [hc, List.getD_eq_getElem?_getD, List.getElem?_eq_getElem hj]
      rfl
    · obtain ⟨b, off, e, hc⟩ := h2 j _ (List.getElem?_eq_getElem hj)
      injection e with e
      injection e with e1 e2
      subst e1 e2
      rw [hc, List.getD_eq_getElem?_getD, List.getElem?_eq_getElem hj]
      rfl
    · rintro e w' ⟨rfl, q, rfl⟩
      exact ⟨by simp, q, rfl⟩
/-- Those that are objects'. -/
def liveD (h : Hm) (R : List Int) : List Int := R.filter (fun r => decide (r ∈ h.O.map Ob.ref))
set_option maxHeartbeats 2000000 in
theorem live_any (B g : Nat) (h : Hm) (ao : Option Addr) (cap : Nat) (R : List Int) (w : World) (H : HpAt B w g h) (hlen : h.O.length ≤ 4096) (hR : JsAt w ao R) (hRl : R.length * 8 ≤ 140737488351232) :
    Calls Tryd.prog 27 #[.pointer (some ⟨g, 0, none⟩), .slice ao R.length cap] w fun e w' => ∃ v, e = .returned v ∧ OwnJ w' w.heap.size v (liveD h R) ∧ Below w.heap.size w w' := by
  obtain ⟨i0, hi, hz0, hz1, hz2⟩ := info_parts infoJ
  have HH := hide H
  have HR := hide hR
  have hRn : R.length ≤ 17592186043904 := by omega
  clear H hR hRl
  go_enter Tryd.func27, Tryd.ntmps27
  go_wp2_with fail
  go_loopw [5, 10] (fun v i wr => ∃ (k : Nat) (X : List Int), k ≤ R.length ∧ i = .int .i64 (k : Int) ∧ X.length ≤ k ∧ Hid (X = liveD h (R.take k)) ∧ Hid (OwnJ wr w.heap.size v X) ∧ Hid (Below w.heap.size w wr)) (fun _ i _ => R.length - (intOf i).toNat)
  case atStart => exact ⟨0, [], by omega, rfl, by simp, hide rfl, hide (OwnJ.nil _ _), hide (Below.refl _ _)⟩
  case round =>
    obtain ⟨k, X, hk, rfl, hXk, HXE, HO, HB⟩ := hrel
    obtain ⟨va, vc, rfl, _⟩ := (unhide HO).at
    by_cases hlt : k < R.length
    · have i1 : ((k : Nat) : Int) < ((R.length : Nat) : Int) := by omega
      have hx := List.getElem?_eq_getElem hlt
      obtain ⟨b, off, rfl, hc⟩ := (unhide HR).below (unhide HB) k _ hx
      have HX := hide hx
      generalize R[k] = r at hc HX
      clear hx
      have HL := hide (Live_any B g h wr ((unhide HH).below (unhide HB)) hlen)
      go_wp2_with fail
      refine (unhide HL).mono ?_
      rintro e W2 ⟨lv, rfl, hO2, hb2⟩
      obtain ⟨la, lc, rfl, hj, _⟩ := hO2.at
      have HB2 := hide ((unhide HB).trans (hb2.mono (unhide HB).size))
      have HO2 := hide ((unhide HO).below hb2)
      have HCn := hide (ContainsH_any la lc (h.O.map Ob.ref) r W2 hj (by rw [List.length_map]; omega))
      rw [List.length_map] at HCn
      clear hO2 hb2 hj HL hc
      by_cases hin : r ∈ h.O.map Ob.ref
      · have HST : Hid (liveD h (R.take (k + 1)) = liveD h (R.take k) ++ [r]) := hide (by rw [take_step (unhide HX)]; unfold liveD; rw [List.filter_append]; simp only [List.filter_cons, decide_eq_true hin, if_true, List.filter_nil])
        rw [decide_eq_true hin] at HCn
        clear hin
        go_wp2_with fail
        refine (unhide HCn).mono ?_
        rintro e W3 ⟨rfl, hw⟩
        rw [hw]
        clear hw W3 HCn
        have HR1 := hide ((unhide HO2).alloc (.cells #[.int .i64 r] 3))
        go_wp2_with (at_builtin; refine wpList_append_own _ rfl _ _ 42 rfl (w.heap.size) 3 i0 (.int .i64 0) 1 8 Tryd.underlying42 hi hz0 hz1 hz2 rfl (by decide) _ X.length (jvals X) rfl (unhide HR1) ⟨W2.heap.size, 0, none⟩ 1 1 [.int .i64 r] rfl rfl (cell_one_newJ _ _ _) (by simp [Value.oneCell']) ?a3 ?a4 ?a5 ?_)
        case a3 => unfold maxLen; omega
        case a4 => omega
        case a5 => have := (unhide HB2).size; simp; omega
        intro v1 w1 hO1 hG1 _
        have HO1 : Hid (OwnJ w1 (w.heap.size) v1 (X ++ [r])) := hide (by unfold OwnJ jvals; rw [List.map_append, List.length_append]; exact hO1)
        have HB1 := hide (((unhide HB2).alloc (unhide HB2).size _).grown hG1 (by have := (unhide HB2).size; simp; omega) (fun q e => ((unhide HO2).lt q e).1))
        clear hO1 hG1
        go_wp2
        go_roundw
        case rel => exact ⟨k + 1, X ++ [r], by omega, by go_num, by simp; omega, hide (by rw [unhide HST, ← unhide HXE]), HO1, HB1⟩
        case measure => simp [intOf]; omega
      · have HST : Hid (liveD h (R.take (k + 1)) = liveD h (R.take k)) := hide (by rw [take_step (unhide HX)]; unfold liveD; rw [List.filter_append]; simp only [List.filter_cons, decide_eq_false hin, List.filter_nil]; simp)
        rw [decide_eq_false hin] at HCn
        clear hin
        go_wp2_with fail
        refine (unhide HCn).mono ?_
        rintro e W3 ⟨rfl, hw⟩
        rw [hw]
        clear hw W3 HCn
        go_wp2
        go_roundw
        case rel => exact ⟨k + 1, X, by omega, by go_num, by omega, hide (by rw [unhide HST]; exact unhide HXE), HO2, HB2⟩
        case measure => simp [intOf]; omega
    · have i1 : ¬ ((k : Nat) : Int) < ((R.length : Nat) : Int) := by omega
      have HE : Hid (X = liveD h R) := hide (by have := unhide HXE; rw [List.take_of_length_le (by omega)] at this; exact this)
      go_wp2
      go_ret
      exact ⟨_, rfl, by rw [← unhide HE]; exact unhide HO, unhide HB⟩
end Go.Proofs.YtnkhkppddlpcmaaDoor
