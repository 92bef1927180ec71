/-
  Contracts of slices.Grow of no bytes and of slices.Concat: all rows' bytes, one behind another, in new memory.
-/
import Derived.Test.YtkcnkfhdbjiggaaSu1
namespace Go.Proofs.Ytkcnkfhdbjiggaa
open Go.RowKit
set_option maxRecDepth 20000

set_option maxHeartbeats 2000000 in
set_option maxRecDepth 100000 in
theorem Grow_nil (n : Nat) (w : World) (h0 : 0 < n) (hn : n ≤ 2000000) :
    Calls Try.prog 81 #[.slice none 0 0, .int .i64 (n : Int)] w fun e w' => ∃ g c, e = .returned (.slice (some ⟨g, 0, none⟩) 0 c) ∧ OwnB w' w.heap.size (.slice (some ⟨g, 0, none⟩) 0 c) [] ∧ Below w.heap.size w w' := by
  obtain ⟨i0, hi0, hz0, hz1, hz2⟩ := info_parts info8
  have mixed := mixedS
  have h1 : ¬ ((n : Int) < 0) := by omega
  have h4 : (0 : Int) < (n : Int) := by omega
  have hold : (Builtin.firstCells i0.size 0 (.slice none 0 0)).run Try.prog w.drew = .ok ([] : List Value).toArray w.drew := run_firstCells_none w.drew i0.size 0 0 0
  obtain ⟨G, hG⟩ : ∃ G, G = grownCap w n 0 5 := ⟨_, rfl⟩
  have hGn : n ≤ G := by rw [hG]; exact grownCap_ge w _ _ _
  have hGm : G ≤ maxLen := by rw [hG]; exact grownCap_le_maxLen w _ _ _ (by unfold maxLen; omega)
  have hG63 : G ≤ 9223372036854775807 := by unfold maxLen at hGm; omega
  obtain ⟨Z, hZ⟩ : ∃ Z : Array Value, Z = Builtin.zeroCells (Value.int .u8 0).cells n ++ Builtin.zeroCells (Value.int .u8 0).cells (G - n) := ⟨_, rfl⟩
  have hZs : Z.size = G := by
    rw [hZ, Array.size_append, size_zeroCells, size_zeroCells]
    simp [Value.cells]
    omega
  have hrz : ∀ ty, (Builtin.append_ #[25, 3] ty #[.slice none 0 0, .int .i64 (n : Int)]).run Try.prog w = .ok (.slice (some ⟨w.heap.size, 0, none⟩) n G) (w.drew.alloc (.cells Z 5)) := fun ty => by
    have hq := Lib.run_append_grow_zeros w 25 3 ty 5 i0 _ .i64 .i64 Try.underlying25 Try.underlying3 hi0 hz0 none 0 0 [] hold n h0 (by omega) (by omega) (by omega) (by rw [hz2]; omega) (by rw [hz2]; exact growslice_fits (by omega) (by omega))
    rw [Nat.zero_add, ← hG] at hq
    rw [hq, hZ]
    congr 3
    simp
  have X : Hid (OwnB (w.drew.alloc (.cells Z 5)) w.heap.size (.slice (some ⟨w.heap.size, 0, none⟩) 0 G) [] ∧ Below w.heap.size w (w.drew.alloc (.cells Z 5))) := hide ⟨⟨rfl, Or.inr ⟨w.heap.size, G, Z, rfl, Nat.le_refl _, heap_alloc_new w.drew _, Nat.zero_le _, hGm, by rw [hZs]; omega, by simp [bvals]⟩⟩, ⟨rfl, rfl, rfl, by simp, fun k hk => heap_alloc_old w.drew _ hk⟩⟩
  clear hold hG hZ hZs
  go_enter Try.func81, Try.ntmps81
  go_wp2_with (at_builtin; refine Lib.wpList_append_run _ rfl _ _ _ _ rfl _ _ rfl rfl _ _ (hrz _) ?_)
  all_goals
    go_ret
    exact ⟨_, _, rfl, X.out⟩
/-- Three rows of bytes stand in a row of their own. -/
structure Three (w : World) (sb : Nat) (a0 a1 a2 : Option Addr) (c0 c1 c2 : Nat) (l0 l1 l2 : List UInt8) : Prop where
  row : w.heap[sb]? = some (.cells #[.slice a0 l0.length c0, .slice a1 l1.length c1, .slice a2 l2.length c2] 25 (0, 0))
  b0 : SrcB w (.slice a0 l0.length c0) l0
  b1 : SrcB w (.slice a1 l1.length c1) l1
  b2 : SrcB w (.slice a2 l2.length c2) l2
def thL (l0 l1 l2 : List UInt8) : List (List UInt8) := [l0, l1, l2]
theorem srcB_below {w w' : World} {b : Value} {m : List UInt8} (h : SrcB w b m) (hb : Below w.heap.size w w') : SrcB w' b m := by
  rcases h with h | ⟨x, c, h1, h2⟩
  · exact .inl h
  · exact .inr ⟨x, c, h1, h2.below' hb⟩
theorem Three.below {w w' : World} {sb : Nat} {a0 a1 a2 : Option Addr} {c0 c1 c2 : Nat} {l0 l1 l2 : List UInt8} (h : Three w sb a0 a1 a2 c0 c1 c2 l0 l1 l2) (hb : Below w.heap.size w w') : Three w' sb a0 a1 a2 c0 c1 c2 l0 l1 l2 :=
  ⟨by rw [hb.block sb (Array.getElem?_eq_some_iff.1 h.row).1]; exact h.row, srcB_below h.b0 hb, srcB_below h.b1 hb, srcB_below h.b2 hb⟩
theorem Three.at {w : World} {sb : Nat} {a0 a1 a2 : Option Addr} {c0 c1 c2 : Nat} {l0 l1 l2 : List UInt8} (h : Three w sb a0 a1 a2 c0 c1 c2 l0 l1 l2) {k : Nat} (hk : k < 3) : ∃ a c m, (thL l0 l1 l2)[k]? = some m ∧ w.cell? ⟨sb, k, none⟩ = some (.slice a m.length c) ∧ SrcB w (.slice a m.length c) m := by
  rcases (show k = 0 ∨ k = 1 ∨ k = 2 by omega) with rfl | rfl | rfl
  · exact ⟨a0, c0, l0, rfl, by rw [cell_of_row _ _ _ _ _ _ h.row]; rfl, h.b0⟩
  · exact ⟨a1, c1, l1, rfl, by rw [cell_of_row _ _ _ _ _ _ h.row]; rfl, h.b1⟩
  · exact ⟨a2, c2, l2, rfl, by rw [cell_of_row _ _ _ _ _ _ h.row]; rfl, h.b2⟩
set_option maxHeartbeats 4000000 in
theorem Concat_any {w : World} {sb : Nat} {a0 a1 a2 : Option Addr} {c0 c1 c2 : Nat} {l0 l1 l2 : List UInt8} (H : Three w sb a0 a1 a2 c0 c1 c2 l0 l1 l2) (hs : l0.length + l1.length + l2.length ≤ 1100000) (hp : 0 < l0.length) :
    Calls Try.prog 66 #[.slice (some ⟨sb, 0, none⟩) 3 3] w fun e w' => ∃ v, e = .returned v ∧ OwnB w' w.heap.size v (l0 ++ l1 ++ l2) ∧ Below w.heap.size w w' := by
  have HH := hide H
  have HT : Hid (∀ k m, (thL l0 l1 l2)[k]? = some m → ((thL l0 l1 l2).take (k + 1)).flatten = ((thL l0 l1 l2).take k).flatten ++ m ∧ ((thL l0 l1 l2).take (k + 1)).flatten.length ≤ 1100000) := hide (fun k m hm => by
    have hk : k < 3 := (List.getElem?_eq_some_iff.1 hm).1
    rcases (show k = 0 ∨ k = 1 ∨ k = 2 by omega) with rfl | rfl | rfl <;> (simp [thL] at hm ⊢; subst hm; first | omega | (refine ⟨?_, ?_⟩ <;> first | rfl | omega | simp)))
  have HF : Hid (((thL l0 l1 l2).take 3).flatten = l0 ++ l1 ++ l2) := hide (by simp [thL])
  have HL : Hid ((l0 ++ l1 ++ l2).length ≤ 1100000 ∧ 0 < (l0 ++ l1 ++ l2).length) := hide (by rw [List.length_append, List.length_append]; omega)
  clear H hs hp
  go_enter Try.func66, Try.ntmps66
  go_wp2_with fail
  go_loopw [3, 11] (fun z i wr => ∃ (k n : Nat), k ≤ 3 ∧ i = .int .i64 (k : Int) ∧ z = .int .i64 (n : Int) ∧ n ≤ 1100000 ∧ Hid (n = ((thL l0 l1 l2).take k).flatten.length) ∧ wr = w) (fun _ i _ => 3 - (intOf i).toNat)
  case atStart => exact ⟨0, 0, by omega, rfl, rfl, by omega, hide (by simp), rfl⟩
  case round =>
    obtain ⟨k, n, hk, rfl, rfl, hn, HNK, hw0⟩ := hrel
    rw [hw0]
    clear hw0
    by_cases hlt : k < 3
    · have j1 : ((k : Nat) : Int) < 3 := by omega
      have j0 : (0 : Int) ≤ ((k : Nat) : Int) := by omega
      obtain ⟨a, c, m, hm, hc, _⟩ := (unhide HH).at hlt
      have HT2 := hide (unhide HT k m hm)
      have hle : n + m.length ≤ 1100000 := by have h1 := (unhide HT2).2; rw [(unhide HT2).1, List.length_append, ← unhide HNK] at h1; exact h1
      have HNK2 : Hid (n + m.length = ((thL l0 l1 l2).take (k + 1)).flatten.length) := hide (by rw [(unhide HT2).1, List.length_append, ← unhide HNK])
      have j2 : ¬ ((n : Int) + (m.length : Int) < 0) := by omega
      clear hm
      go_wp2
      go_roundw
      case rel => exact ⟨k + 1, n + m.length, by omega, by go_num, by go_num, hle, HNK2, trivial⟩
      case measure => simp [intOf]; omega
    · have j1 : ¬ ((k : Nat) : Int) < 3 := by omega
      obtain rfl : k = 3 := by omega
      have hn0 : 0 < n := by rw [unhide HNK, unhide HF]; exact (unhide HL).2
      have HG := hide (Grow_nil n w hn0 (by omega))
      go_wp2_with fail
      refine (unhide HG).mono ?_
      rintro e W1 ⟨g, c, rfl, hO, hb⟩
      have HO := hide hO
      have HB := hide hb
      clear hO hb HG
      go_wp2_with fail
      go_loopw [6, 27] (fun v i wx => ∃ (k : Nat), k ≤ 3 ∧ i = .int .i64 (k : Int) ∧ Hid (OwnB wx w.heap.size v (((thL l0 l1 l2).take k).flatten)) ∧ Hid (Below w.heap.size w wx)) (fun _ i _ => 3 - (intOf i).toNat)
      case atStart => exact ⟨0, by omega, rfl, hide (by simpa using unhide HO), HB⟩
      case round =>
        clear HO HB
        obtain ⟨k, hk, rfl, HO, HB⟩ := hrel
        obtain ⟨va, vc, hv, -⟩ := (unhide HO).at
        obtain ⟨q, hq⟩ : ∃ q, q = (((thL l0 l1 l2).take k).flatten).length := ⟨_, rfl⟩
        rw [← hq] at hv
        subst hv
        have HQ := hide hq
        clear hq
        by_cases hlt : k < 3
        · have j1 : ((k : Nat) : Int) < 3 := by omega
          have j0 : (0 : Int) ≤ ((k : Nat) : Int) := by omega
          obtain ⟨a, c, m, hm, hc, hsb⟩ := ((unhide HH).below (unhide HB)).at hlt
          have HT2 := hide (unhide HT k m hm)
          have HSB := hide hsb
          clear hm hsb
          go_wp2_with (at_builtin; refine wpList_appendB rfl (.tmp 31) (.tmp 32) rfl w.heap.size (.slice va q vc) (((thL l0 l1 l2).take k).flatten) rfl (unhide HO) (.slice a m.length c) m rfl (unhide HSB) ?z6 ?z4 ?_)
          case z6 => have h1 := (unhide HT2).2; rw [(unhide HT2).1, List.length_append] at h1; omega
          case z4 => exact (unhide HB).size
          intro v' w' hO hG _ _
          have HO2 : Hid (OwnB w' w.heap.size v' (((thL l0 l1 l2).take (k + 1)).flatten)) := hide (by rw [(unhide HT2).1]; exact hO)
          have HB2 := hide ((unhide HB).grown hG (unhide HB).size (fun q e => (World.ownsRow.lt (unhide HO) q e).1))
          clear hO hG
          go_wp2
          go_roundw
          case rel => exact ⟨k + 1, by omega, by go_num, HO2, HB2⟩
          case measure => simp [intOf]; omega
        · have j1 : ¬ ((k : Nat) : Int) < 3 := by omega
          obtain rfl : k = 3 := by omega
          rw [unhide HF] at HO
          go_wp2
          go_ret
          exact ⟨_, rfl, by first | exact unhide HO | (rw [← List.append_assoc]; exact unhide HO), unhide HB⟩
end Go.Proofs.Ytkcnkfhdbjiggaa
