/-
  Contracts of slices.Clone and slices.Equal at types. Conditions: lengths fit.
-/
import Derived.Test.YtibgfdjopikafaaGreatDoorKFrT
namespace Go.Proofs.YtibgfdjopikafaaGreatDoor
open Go.RowKit
set_option maxRecDepth 20000

theorem infoTyV : (Tryz.prog.info? 40).map (fun i => (i.zero, i.size, i.bytes)) = some (some (.int .u8 0), 1, 1) := by kernel_rfl
theorem slV_one (l : List Nat) : ∀ u ∈ slV l, u.oneCell' = true := by
  intro u hu
  obtain ⟨x, _, rfl⟩ := List.mem_map.1 hu
  rfl
def OwnP (w : World) (base : Nat) (v : Value) (l : List Nat) : Prop := w.ownsRow base 40 1 v l.length (slV l)
theorem OwnP.at {w : World} {base : Nat} {v : Value} {l : List Nat} (h : OwnP w base v l) : ∃ ga gc, v = .slice ga l.length gc ∧ PAt w ga l ∧ (∀ b off, ga = some ⟨b, off, none⟩ → base ≤ b) := by
  rcases h.2 with ⟨h1, h2⟩ | ⟨g, cap, cur, hv, hb, hh, hn, hm, hs, ht⟩
  · have := List.eq_nil_of_length_eq_zero h2
    subst this
    exact ⟨none, 0, h1, fun i t ht => by simp at ht, fun b off e => by cases e⟩
  · refine ⟨_, cap, hv, fun i t ht => ⟨g, 0, rfl, ?_⟩, fun b off e => by injection e with e; injection e with e; omega⟩
    have hi := (List.getElem?_eq_some_iff.1 ht).1
    have h' : w.ownsRow base 40 1 (.slice (some ⟨g, 0, none⟩) l.length cap) l.length (slV l) := hv ▸ h
    rw [Nat.zero_add, h'.cellAt i (by omega), slV_get ht]

set_option maxHeartbeats 400000 in
theorem cloneP_any (po : Option Addr) (c : Nat) (l : List Nat) (w : World) (hl : PAt w po l) (hn : po = none → l = []) (hb : l.length ≤ 140737488351232) :
    Calls Tryz.prog 85 #[.slice po l.length c] w fun e w' => ∃ ga gc, e = .returned (.slice ga l.length gc) ∧ PAt w' ga l ∧ (∀ b off, ga = some ⟨b, off, none⟩ → w.heap.size ≤ b) ∧ Below w.heap.size w w' := by
  have q22 : ∀ (w : World) (a : Option Addr) (n c n' c' : Nat), (binOp .eql 39 (.slice a n c) (.slice none n' c')).run Tryz.prog w = .ok (.bool a.isNone) w := fun w a n c n' c' => Lib.run_eql_slice_nil w _ _ a n c n' c' Tryz.underlying39
  obtain ⟨i0, hi, hz0, hz1, hz2⟩ := info_parts infoTyV
  cases po with
  | none =>
    have hl0 := hn rfl
    subst hl0
    go_enter Tryz.func85, Tryz.ntmps85
    go_wp2
    go_ret
    exact ⟨none, ⟨0, rfl⟩, fun i t ht => by simp at ht, fun b off e => (by cases e), Below.refl _ _⟩
  | some x =>
    go_enter Tryz.func85, Tryz.ntmps85
    go_wp2_with (at_builtin; refine wpList_append_own _ rfl _ _ 39 rfl w.heap.size 40 i0 (.int .u8 0) 1 1 Tryz.underlying39 hi hz0 hz1 hz2 rfl (by decide) _ 0 [] rfl (World.ownsRow_made w #[] 0 (Nat.le_refl _) (by decide) rfl) x l.length c (slV l) rfl ?c0 ?c1 ?c2 ?c3 ?c4 ?c5 ?_)
    case c0 => simp [slV_length]
    case c1 =>
      intro j u hj
      have hjl : j < l.length := by
        have := (List.getElem?_eq_some_iff.1 hj).1
        rw [slV_length] at this; exact this
      have hx := List.getElem?_eq_getElem hjl
      obtain ⟨b, off, e, hc⟩ := hl j _ hx
      injection e with e
      subst e
      rw [slV_get hx] at hj
      injection hj with hj
      subst hj
      have hlt := World.block_lt_of_cell? w _ hc
      rw [Addr.add_lit]
      exact (((Below.refl w.heap.size w).alloc (Nat.le_refl _) _).cell (p := ⟨b, off + j, none⟩) hlt).trans hc
    case c2 => exact slV_one l
    case c3 => unfold maxLen; omega
    case c4 => omega
    case c5 => simp
    · intro v' w1 hown hgrow hnil
      go_wp2
      go_ret
      have hO : OwnP w1 w.heap.size v' l := hown
      obtain ⟨ga, gc, rfl, hP, hFr⟩ := hO.at
      refine ⟨ga, gc, rfl, hP, hFr, ?_⟩
      exact ((Below.refl w.heap.size w).alloc (Nat.le_refl _) _).trans ((Below.refl _ _).grown hgrow (by simp) (fun k e => by simp [Value.ownBlock] at e; omega))

set_option maxHeartbeats 400000 in
theorem equalP_yes (po go : Option Addr) (pc gc : Nat) (l : List Nat) (w : World) (h : PAt w po l) (hg : PAt w go l) (hb : l.length ≤ 140737488351232) :
    Calls Tryz.prog 99 #[.slice po l.length pc, .slice go l.length gc] w fun e w' => e = .returned (.bool true) ∧ ∃ k, w' = w.drewN k := by
  have e0 : (((l.length : Nat) : Int) != ((l.length : Nat) : Int)) = false := by simp
  have hb' : l.length < 9223372036854775000 := by omega
  clear hb
  go_enter Tryz.func99, Tryz.ntmps99
  go_wp2
  go_loopw [13] (fun i wr => ∃ k : Nat, k ≤ l.length ∧ i = .int .i64 (k : Int) ∧ ∃ q, wr = w.drewN q) (fun i _ => l.length - (intOf i).toNat)
  case atStart => exact ⟨0, by omega, rfl, 0, rfl⟩
  case round =>
    obtain ⟨k, hk, rfl, q, rfl⟩ := hrel
    by_cases hlt : k < l.length
    · have i1 : ((k : Nat) : Int) < ((l.length : Nat) : Int) := by omega
      obtain ⟨b, off, rfl, d0⟩ := h k _ (List.getElem?_eq_getElem hlt)
      obtain ⟨b', off', rfl, g0⟩ := hg k _ (List.getElem?_eq_getElem hlt)
      generalize l[k] = x at d0 g0
      clear h hg
      go_wp2
      go_quiet (fail)
      go_wp2
      go_roundw
      case rel => exact ⟨k + 1, by omega, by go_num, _, rfl⟩
      case measure => simp [intOf]; omega
    · have i1 : ¬ ((k : Nat) : Int) < ((l.length : Nat) : Int) := by omega
      go_wp2
      go_ret
      exact ⟨rfl, _, rfl⟩

theorem PAt.row {W : World} {ao : Option Addr} {l : List Nat} (h : PAt W ao l) {g : Nat} (cs : Array Value) (hne : ∀ b off, ao = some ⟨b, off, none⟩ → b ≠ g) : PAt (W.setRow g cs) ao l := fun i t ht => by
  obtain ⟨b, off, e, hc⟩ := h i t ht
  exact ⟨b, off, e, (cell_setRow_other W g cs _ (hne b off e)).trans hc⟩
end Go.Proofs.YtibgfdjopikafaaGreatDoor
