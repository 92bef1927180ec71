/-
  Contracts of slices.Grow at the nil slice and of slices.Concat at two slices, of bytes: a row of its own. Conditions: the sum of the lengths fits.
-/
import Derived.Test.YtggaecmjadkopabApp
import Derived.Lib.AppendZerosOnto
import Derived.Lib.SliceRun
namespace Go.Proofs.Ytggaecmjadkopab
open Go.RowKit

theorem wpList_append_runZ {P : Program} (w : World) {ops : Array Oper} {rest : List Oper} {o : Oper} {a : Act} {Q : Exit → Act → World → Prop} (hgd : o.guard = none) (s x : Operand) (t tn : TypeId)
    (ho : o.op = .call { callee := .builtin .append, args := #[s, x], argTypes := #[t, tn] }) (vs vx : Value) (hs : a.eval s = vs) (hx : a.eval x = vx)
    (v' : Value) (w' : World) (hr : (Builtin.append_ #[t, tn] o.type #[vs, vx]).run P w = .ok v' w') (h : wpList P ops Q rest (a.put o.dst v') w') : wpList P ops Q (o :: rest) a w :=
  wpList_plain hgd fun _ hK => Lib.wp_append_run w s x t tn ho vs vx hs hx v' w' hr (hK _ _ h)

set_option maxHeartbeats 1000000 in
set_option maxRecDepth 100000 in
theorem Grow_nil (n : Nat) (w : World) (hn : n ≤ 140737488355328) :
    Calls Try.prog 27 #[.slice none 0 0, .int .i64 (n : Int)] w fun e w' => ∃ v, e = .returned v ∧ OwnB w' w.heap.size v [] ∧ Below w.heap.size w w' := by
  obtain ⟨i0, hi, hz0, hz1, hz2⟩ := info_parts info8
  have h1 : ¬ ((n : Int) < 0) := by omega
  by_cases h0 : n = 0
  · subst h0
    go_enter Try.func27, Try.ntmps27
    go_wp2
    go_ret
    exact ⟨_, rfl, World.ownsRow_nil _ _ _ _, Below.refl _ _⟩
  · have h4 : (n : Int) > 0 := by omega
    have hold : (Builtin.firstCells i0.size 0 (.slice none 0 0)).run Try.prog w.drew = .ok ([] : List Value).toArray w.drew := run_firstCells_none w.drew i0.size 0 0 0
    have hrz : ∀ ty, (Builtin.append_ #[22, 3] ty #[.slice none 0 0, .int .i64 (n : Int)]).run Try.prog w = .ok (.slice (some ⟨w.heap.size, 0, none⟩) n (grownCap w n 0 5)) (w.drew.alloc (.cells (([] : List Value).toArray ++ Builtin.zeroCells (Value.int .u8 0).cells n ++ Builtin.zeroCells (Value.int .u8 0).cells (grownCap w n 0 5 - n)) 5)) := fun ty => by
      have h := Lib.run_append_grow_zeros w 22 3 ty 5 i0 (.int .u8 0) .i64 .i64 Try.underlying22 Try.underlying3 hi hz0 none 0 0 [] hold n (by omega) (by rw [hz1]; decide) (by omega) (by omega) (by rw [hz2]; omega)
        (growslice_fits (by omega) (by rw [hz2]; omega))
      rw [Nat.zero_add] at h
      exact h
    have hGn : n ≤ grownCap w n 0 5 := grownCap_ge w _ _ _
    have hG63 := grownCap_le_maxLen w n 0 5 (by unfold maxLen; omega)
    obtain ⟨G, hG⟩ : ∃ G, G = grownCap w n 0 5 := ⟨_, rfl⟩
    rw [← hG] at hrz hGn hG63
    obtain ⟨C, hC, hCs⟩ : ∃ C : Array Value, C = (([] : List Value).toArray ++ Builtin.zeroCells (Value.int .u8 0).cells n ++ Builtin.zeroCells (Value.int .u8 0).cells (G - n)) ∧ C.size = G := ⟨_, rfl, by simp [size_zeroCells, Value.cells]; omega⟩
    rw [← hC] at hrz
    clear hold hG hC
    have hG' : G ≤ 9223372036854775807 := by unfold maxLen at hG63; omega
    go_enter Try.func27, Try.ntmps27
    go_wp2_with (at_builtin; refine wpList_append_runZ _ rfl _ _ 22 3 rfl _ _ rfl rfl _ _ (hrz _) ?_)
    go_wp2
    go_ret
    refine ⟨_, rfl, ⟨rfl, .inr ⟨w.heap.size, G, C, rfl, Nat.le_refl _, heap_alloc_new w.drew _, Nat.zero_le _, hG63, by omega, by simp [bvals]⟩⟩, (Below.drew (Below.refl _ w)).alloc (Nat.le_refl _) _⟩

theorem SrcB.below {w w' : World} {b : Value} {m : List UInt8} (h : SrcB w b m) (hb : Below w.heap.size w w') : SrcB w' b m := by
  rcases h with h | ⟨x, c, e, h⟩
  · exact .inl h
  · exact .inr ⟨x, c, e, h.below' hb⟩

set_option maxHeartbeats 1000000 in
set_option maxRecDepth 100000 in
theorem Concat_two {w : World} {q : Nat} {v1 v2 : Value} {l1 l2 : List UInt8} {B : Nat} (h1 : OwnB w B v1 l1) (h2 : OwnB w B v2 l2)
    (k0 : w.cell? ⟨q, 0, none⟩ = some v1) (k1 : w.cell? ⟨q, 1, none⟩ = some v2) (hn : l1.length + l2.length ≤ 140737488351232) :
    Calls Try.prog 12 #[.slice (some ⟨q, 0, none⟩) 2 2] w fun e w' => ∃ v, e = .returned v ∧ OwnB w' w.heap.size v (l1 ++ l2) ∧ Below w.heap.size w w' := by
  obtain ⟨a1, c1, rfl, hb1⟩ := h1.at
  obtain ⟨a2, c2, rfl, hb2⟩ := h2.at
  have HS1 := hide h1.src
  have HS2 := hide h2.src
  have hq : q < w.heap.size := World.block_lt_of_cell? w _ k0
  have HN := hide hn
  have n1 : l1.length + l2.length < 9223372036854775808 := by omega
  clear h1 h2 hb1 hb2 hn
  go_enter Try.func12, Try.ntmps12
  go_wp2
  go_loopw [3, 11] (fun s i wr => ((i = .int .i64 0 ∧ s = .int .i64 0) ∨ (i = .int .i64 1 ∧ s = .int .i64 (l1.length : Int)) ∨ (i = .int .i64 2 ∧ s = .int .i64 ((l1.length + l2.length : Nat) : Int))) ∧ wr = w) (fun _ i _ => 2 - (intOf i).toNat)
  case atStart => exact ⟨.inl ⟨rfl, rfl⟩, rfl⟩
  case round =>
    obtain ⟨hc, rfl⟩ := hrel
    rcases hc with ⟨rfl, rfl⟩ | ⟨rfl, rfl⟩ | ⟨rfl, rfl⟩
    · have t1 : ¬ ((l1.length : Int) < 0) := by omega
      go_wp2
      go_roundw
      case rel => exact ⟨.inr (.inl ⟨rfl, rfl⟩), by trivial⟩
      case measure => simp [intOf]
    · have t1 : ¬ ((l1.length : Int) + (l2.length : Int) < 0) := by omega
      go_wp2
      go_roundw
      case rel => exact ⟨.inr (.inr ⟨rfl, by go_num⟩), by trivial⟩
      case measure => simp [intOf]
    · go_wp2_with fail
      refine (Grow_nil (l1.length + l2.length) _ (by have := unhide HN; omega)).mono ?_
      rintro e w1 ⟨v, rfl, hO, hB⟩
      have HO := hide hO
      clear hO n1
      go_wp2
      go_loopw [6, 27] (fun v i w2 => ((i = .int .i64 0 ∧ OwnB w2 wr.heap.size v []) ∨ (i = .int .i64 1 ∧ OwnB w2 wr.heap.size v l1) ∨ (i = .int .i64 2 ∧ OwnB w2 wr.heap.size v (l1 ++ l2))) ∧ Below wr.heap.size wr w2) (fun _ i _ => 2 - (intOf i).toNat)
      case atStart => exact ⟨.inl ⟨rfl, unhide HO⟩, hB⟩
      case round =>
        clear hB HO
        obtain ⟨hc, hB⟩ := hrel
        have k0' := (hB.cell (p := ⟨q, 0, none⟩) hq).trans k0
        have k1' := (hB.cell (p := ⟨q, 1, none⟩) hq).trans k1
        have HS1' := hide ((unhide HS1).below hB)
        have HS2' := hide ((unhide HS2).below hB)
        have hsz := hB.size
        rcases hc with ⟨rfl, hO⟩ | ⟨rfl, hO⟩ | ⟨rfl, hO⟩
        · have HO := hide hO
          have HB := hide hB
          clear hO hB
          go_wp2_with (at_builtin; refine wpList_appendB rfl _ _ rfl _ _ [] rfl (unhide HO) _ l1 rfl (unhide HS1') (by have := unhide HN; simp; omega) hsz ?_)
          intro v' w3 hO' hG' hF' hN'
          have HO3 := hide hO'
          have HB3 := hide ((unhide HB).grown hG' hsz (fun k e => ((unhide HO).lt k e).1))
          clear hO' hG' hF' hN' HO HB k0' k1' HS1' HS2'
          go_wp2
          go_roundw
          case rel => exact ⟨.inr (.inl ⟨rfl, unhide HO3⟩), unhide HB3⟩
          case measure => simp [intOf]
        · have HO := hide hO
          have HB := hide hB
          clear hO hB
          go_wp2_with (at_builtin; refine wpList_appendB rfl _ _ rfl _ _ l1 rfl (unhide HO) _ l2 rfl (unhide HS2') (by have := unhide HN; omega) hsz ?_)
          intro v' w3 hO' hG' hF' hN'
          have HO3 := hide hO'
          have HB3 := hide ((unhide HB).grown hG' hsz (fun k e => ((unhide HO).lt k e).1))
          clear hO' hG' hF' hN' HO HB k0' k1' HS1' HS2'
          go_wp2
          go_roundw
          case rel => exact ⟨.inr (.inr ⟨rfl, unhide HO3⟩), unhide HB3⟩
          case measure => simp [intOf]
        · go_wp2
          go_ret
          exact ⟨_, rfl, hO, hB⟩
end Go.Proofs.Ytggaecmjadkopab
