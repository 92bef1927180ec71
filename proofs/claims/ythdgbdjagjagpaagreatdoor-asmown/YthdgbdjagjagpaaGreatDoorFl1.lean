/-
  The set of the places where jumps lead, and of those behind ends: the contracts of flow.targets, of the map's list in order, and of the plain lists that the reference makes. Conditions: the instructions lie there, their operands are numbers of the machine.
-/
import Derived.Test.YthdgbdjagjagpaaGreatDoorNr
import Derived.Test.YthdgbdjagjagpaaGreatDoorAl1
import Derived.Maps.OwnSet
import Derived.Maps.RangeWalk
import Derived.Maps.AppendAt
namespace Go.Proofs.YthdgbdjagjagpaaGreatDoor
open Go.RowKit Go.Maps
set_option maxRecDepth 20000

theorem rows_grownJ {w w' : World} {base : Nat} {v : Value} {l : List Int} {row : Option Nat} (h : OwnJ w base v l) (hg : w.grownBy w' row) (hne : ∀ g, v.ownBlock = some g → row ≠ some g) : OwnJ w' base v l :=
  World.ownsRow.kept h hg (by
    cases hv : v.ownBlock with
    | none => exact .inl rfl
    | some g => exact .inr (fun e => hne g hv e.symm))
theorem lawK : Keyed Tryz.prog 3 := int_keyed Tryz.underlying3
/-- A set of numbers. -/
def SetAt (W : World) (b n : Nat) (ks : List Int) : Prop := W.ownsMap Tryz.prog 3 (unitElem (H := Unit)) b n (setOf (.agg []) (ks.map (Lit.int .i64)))
theorem wf_of {x : Int} (h : -9223372036854775808 ≤ x ∧ x ≤ 9223372036854775807) : (Lit.int .i64 x).wf = true := WalkArith.wf_i64 (by omega)
/-- Where jumps lead, in the list's order. -/
def tgs (l : List Ix) : List Int := (l.filter fun x => jmpD x.op).map fun x => x.a
theorem tgs_snoc (l : List Ix) (x : Ix) : tgs (l ++ [x]) = if jmpD x.op then tgs l ++ [x.a] else tgs l := by
  unfold tgs
  rw [List.filter_append]
  by_cases h : jmpD x.op
  · simp [h]
  · simp [h]
theorem tgs_len (l : List Ix) : (tgs l).length ≤ l.length := by unfold tgs; rw [List.length_map]; exact List.length_filter_le _ _
theorem take_snoc {α : Type} {l : List α} {k : Nat} {x : α} (h : l[k]? = some x) : l.take (k + 1) = l.take k ++ [x] := by
  rw [List.take_add_one, h]
  rfl
theorem set_snoc (ks : List Int) (x : Int) : setOf (H := Unit) (.agg []) ((ks ++ [x]).map (Lit.int .i64)) = (setOf (.agg []) (ks.map (Lit.int .i64))).put (.int .i64 x) (.agg []) := by
  rw [List.map_append]
  exact setOf_snoc _ _ _

set_option maxRecDepth 20000 in
set_option maxHeartbeats 2000000 in
theorem targets_any (ao : Option Addr) (c : Nat) (l : List Ix) (w : World) (hx : XsAt w ao l) (hz : l.length ≤ 4400000000000) (hbd : ∀ x ∈ l, -9223372036854775808 ≤ x.a ∧ x.a ≤ 9223372036854775807) :
    Calls Tryz.prog 64 #[.slice ao l.length c] w fun e w' => e = .returned (.map (some w.heap.size)) ∧ SetAt w' w.heap.size l.length (tgs l) ∧ Below w.heap.size w w' := by
  have hmm := @run_makeMap Tryz.prog
  have HX := hide hx
  clear hx
  go_enter Tryz.func64, Tryz.ntmps64
  go_wp2
  go_loopw [9] (fun i wr => ∃ k : Nat, k ≤ l.length ∧ i = .int .i64 (k : Int) ∧ Hid (SetAt wr w.heap.size k (tgs (l.take k))) ∧ Hid (Below w.heap.size w wr)) (fun i _ => l.length - (intOf i).toNat)
  case atStart => exact ⟨0, by omega, rfl, hide (World.ownsMap_made _ _ _ _), hide ((Below.refl _ _).alloc (Nat.le_refl _) _)⟩
  case round =>
    obtain ⟨k, hk, rfl, HS, HB⟩ := hrel
    by_cases hkl : k < l.length
    · have j1 : ((k : Nat) : Int) < ((l.length : Nat) : Int) := by omega
      have hx := List.getElem?_eq_getElem hkl
      generalize l[k] = x at hx
      have HTk := hide (take_snoc hx)
      have hwf := wf_of (hbd x (List.mem_of_getElem? hx))
      obtain ⟨b, off, rfl, hc⟩ := ((unhide HX).below (unhide HB)) k x hx
      obtain ⟨c0, c1, c2, c3, ho⟩ := hc
      have hal : Below wr.heap.size wr (wr.alloc (.cells #[.int .i64 x.p, .int .u8 (x.op : Int), .int .i64 x.a, .int .i64 x.b] 72)) := (Below.refl _ _).alloc (Nat.le_refl _) _
      have I1 : Hid (IAt (wr.alloc (.cells #[.int .i64 x.p, .int .u8 (x.op : Int), .int .i64 x.a, .int .i64 x.b] 72)) wr.heap.size x.p x.op x.a x.b) := hide (heap_alloc_new wr _)
      have HS1 : Hid (SetAt (wr.alloc (.cells #[.int .i64 x.p, .int .u8 (x.op : Int), .int .i64 x.a, .int .i64 x.b] 72)) w.heap.size k (tgs (l.take k))) := hide ((unhide HS).alloc _)
      have HB1 := hide ((unhide HB).trans (hal.mono (unhide HB).size))
      clear hx hal
      go_wp2_with fail
      generalize (wr.alloc (.cells #[.int .i64 x.p, .int .u8 (x.op : Int), .int .i64 x.a, .int .i64 x.b] 72)) = w1 at I1 HS1 HB1 ⊢
      generalize wr.heap.size = gi at I1 ⊢
      clear c0 c1 c2 c3 HS HB
      refine (Jumps_any x.op _).mono ?_
      rintro e w1' ⟨rfl, hw1⟩
      rw [hw1]
      clear hw1 w1'
      obtain ⟨d1, d2, d3⟩ := (unhide I1).c
      have hn := tgs_snoc (l.take k) x
      unfold jmpD at hn
      by_cases hj : (decide (x.op = 19) || decide (x.op = 20)) = true
      · rw [if_pos hj] at hn
        rw [hj]
        have HN : Hid (tgs (l.take (k + 1)) = tgs (l.take k) ++ [x.a]) := hide (by rw [unhide HTk]; exact hn)
        have hS := unhide HS1
        unfold SetAt at hS
        go_wp2_with (at_mapUpdate; refine wpList_mapUpdate_own _ rfl _ _ _ 115 rfl 3 147 lawK Tryz.underlying115 (unitElem (H := Unit)) w.heap.size k _ rfl hS (by unfold maxLen; omega) _ _ _ rfl rfl (keyOf_int_mk Tryz.underlying3 hwf) _ [] unitElem_mk ?_; intro w2 hS2 hG2)
        go_roundw
        case rel => exact ⟨k + 1, by omega, by go_num, hide (by unfold SetAt; rw [unhide HN, set_snoc]; exact hS2), hide ((unhide HB1).trans (below_grown hG2 (unhide HB1).size (fun r e => by injection e with e; omega)))⟩
        case measure => simp [intOf]; omega
      · have hj' : (decide (x.op = 19) || decide (x.op = 20)) = false := by simpa using hj
        rw [if_neg hj] at hn
        rw [hj']
        have HN : Hid (tgs (l.take (k + 1)) = tgs (l.take k)) := hide (by rw [unhide HTk]; exact hn)
        go_wp2
        go_roundw
        case rel => exact ⟨k + 1, by omega, by go_num, hide (by rw [unhide HN]; exact (unhide HS1).mono (Nat.le_succ _)), HB1⟩
        case measure => simp [intOf]; omega
    · obtain rfl : k = l.length := by omega
      rw [List.take_length] at HS
      go_wp2
      go_ret
      exact ⟨rfl, unhide HS, unhide HB⟩

theorem has_set {ks : List Int} (x : Int) : Maps.has (setOf (H := Unit) (.agg []) (ks.map (Lit.int .i64))) (Lit.int .i64 x) = true ↔ x ∈ ks := by
  rw [has_setOf _ _ _ (fun y hy => by obtain ⟨z, _, rfl⟩ := List.mem_map.1 hy; trivial), List.any_eq_true]
  constructor
  · rintro ⟨y, hy, he⟩
    obtain ⟨z, hz, rfl⟩ := List.mem_map.1 hy
    have : z = x := by simpa [Lit.sameKey] using he
    exact this ▸ hz
  · intro h
    exact ⟨.int .i64 x, List.mem_map.2 ⟨x, h, rfl⟩, by simp [Lit.sameKey]⟩

theorem srt_asc {l : List Int} (h : l.Nodup) : AscJ (srtJ l) := ((srtJ_sorted l).and ((srtJ_perm l).nodup_iff.2 h)).imp (fun ⟨a, b⟩ => by omega)
theorem OwnJ.mono {w : World} {b b' : Nat} {v : Value} {l : List Int} (h : OwnJ w b v l) (hb : b' ≤ b) : OwnJ w b' v l := by
  rcases h with ⟨h1, h2 | ⟨g, cap, cur, a, h3, rest⟩⟩
  · exact ⟨h1, .inl h2⟩
  · exact ⟨h1, .inr ⟨g, cap, cur, a, Nat.le_trans hb h3, rest⟩⟩

set_option maxRecDepth 20000 in
set_option maxHeartbeats 2000000 in
theorem rising_any (b n : Nat) (ks : List Int) (w : World) (hS : SetAt w b n ks) (hn : n ≤ 4400000000000) :
    Calls Tryz.prog 65 #[.map (some b)] w fun e w' => ∃ v js, e = .returned v ∧ OwnJ w' w.heap.size v js ∧ AscJ js ∧ (∀ x, x ∈ js ↔ x ∈ ks) ∧ js.length ≤ n ∧ Below w.heap.size w w' := by
  obtain ⟨D, HD⟩ : ∃ D, Hid (D = setOf (H := Unit) (.agg []) (ks.map (Lit.int .i64))) := ⟨_, hide rfl⟩
  have hM : w.ownsMap Tryz.prog 3 (unitElem (H := Unit)) b n D := by rw [unhide HD]; exact hS
  have hsz := hM.size_le
  have hbl := hM.lt
  have invK : ∀ key kl, keyOf Tryz.prog 3 key = some kl → ∃ x : Int, key = .int .i64 x := fun key kl h => by
    obtain ⟨x, h1, _⟩ := keyOf_int_inv Tryz.underlying3 h
    exact ⟨x, h1⟩
  have invV : ∀ (v : Value) (y : DataW Unit × List MemPlace), unitElem v = some y → ∃ c : Unit, v = (fun _ => Value.agg #[]) c := fun v y h => ⟨(), (unitElem_inv h).1⟩
  obtain ⟨i0, hi, hz0, hz1, hz2⟩ := info_parts infoJ
  clear hS
  go_enter Tryz.func65, Tryz.ntmps65
  go_wp2_with (first
    | (at_range; refine wpList_range_own _ rfl _ 115 rfl 3 147 lawK Tryz.underlying115 _ b n _ rfl hM ?_; intro w0 hrg0 hg0 hs0)
    | go_in)
  go_loopw [3] (fun v wr => ∃ (left : Lit → Bool) (cnt : Nat) (acc : List Int), wr.ranges Tryz.prog 3 (unitElem (H := Unit)) b w.heap.size n D left cnt ∧ OwnJ wr (w.heap.size + 1) v acc ∧ acc.Nodup ∧ (∀ x, x ∈ acc ↔ (Maps.has D (.int .i64 x) = true ∧ left (.int .i64 x) = false)) ∧ acc.length + cnt ≤ n ∧ Below w.heap.size w wr ∧ w.heap.size + 1 ≤ wr.heap.size) (fun _ wr => wr.rangeLeft b w.heap.size)
  case atStart => exact ⟨_, _, [], hrg0, OwnJ.nil _ _, List.nodup_nil, fun x => by simp, by simpa using hsz, (Below.refl _ _).grown hg0 (Nat.le_refl _) (fun j hj => by cases hj), by omega⟩
  case round =>
    obtain ⟨left, cnt, acc, hrg, hO, hnd, hmem, hlc, hB, hws⟩ := hrel
    go_wp2_with (first
      | (at_next; refine wpList_next_ranges _ rfl _ rfl 3 lawK (unitElem (H := Unit)) (fun x : Int => .int .i64 x) (fun _ : Unit => .agg #[]) invK invV b w.heap.size n _ _ _ rfl hrg ?_ ?_)
      | go_in)
    · intro h0 hl0
      have hks : ∀ x, x ∈ srtJ acc ↔ x ∈ ks := fun x => by
        rw [(srtJ_perm acc).mem_iff, hmem x, unhide HD, has_set]
        exact ⟨fun h => h.1, fun h => ⟨h, hl0 _⟩⟩
      have HKS := hide hks
      have HAS := hide (srt_asc hnd)
      have HSo := hide (Sort_own hO (by omega))
      have hln : (srtJ acc).length ≤ n := by rw [srtJ_len]; omega
      clear hks hmem hrg hl0
      go_wp2_with fail
      refine (unhide HSo).mono ?_
      rintro e w2 ⟨rfl, hO2, hB2⟩
      go_wp2
      go_ret
      exact ⟨_, _, rfl, hO2.mono (Nat.le_succ _), unhide HAS, unhide HKS, hln, hB.trans (hB2.mono (Nat.le_succ _))⟩
    · intro x kl dz ps w1 cnt1 hkey hlk hv hat hrg1 hlt hg1 hs1 hen
      obtain ⟨x', h1, rfl, _⟩ := keyOf_int_inv Tryz.underlying3 hkey
      obtain rfl : x = x' := by injection h1
      have hhas := has_true_of_atKey hat
      have hw1 : w.heap.size + 1 ≤ w1.heap.size := by omega
      obtain ⟨ja, jc, rfl, _, _⟩ := hO.at
      have hO1 : OwnJ w1 (w.heap.size + 1) (.slice ja acc.length jc) acc := rows_grownJ hO hg1 (fun g e e2 => by have := (World.ownsRow.lt hO g e).1; injection e2 with e2; omega)
      have hB1 := hB.trans (below_grown hg1 hB.size (fun r e => by injection e with e; omega))
      have hni : x ∉ acc := fun h => by have := ((hmem x).1 h).2; rw [hlk] at this; cases this
      have HM2 : Hid (∀ z, z ∈ acc ++ [x] ↔ (Maps.has D (.int .i64 z) = true ∧ (left (.int .i64 z) && !(Lit.int .i64 z).sameKey (.int .i64 x)) = false)) := hide (fun z => by
        rw [List.mem_append, hmem z, List.mem_singleton]
        by_cases hzx : z = x
        · subst hzx
          simp [hhas, Lit.sameKey]
        · have : (Lit.int .i64 z).sameKey (.int .i64 x) = false := by simp [Lit.sameKey, hzx]
          simp [this, hzx])
      have HND : Hid ((acc ++ [x]).Nodup) := hide (List.nodup_append.2 ⟨hnd, by simp, fun a ha b hb e => by rw [List.mem_singleton.1 hb] at e; exact hni (e ▸ ha)⟩)
      have hO1a := hide ((show w1.ownsRow (w.heap.size + 1) 3 1 (.slice ja acc.length jc) acc.length (jvals acc) from hO1).alloc (.cells #[.int .i64 x] 3))
      have HRG1 := hide hrg1
      have hal : acc.length + 1 ≤ 4400000000000 := by omega
      have HRG := hide hrg
      clear hmem hrg hv hat hkey hlk hni hnd hO1 hO hhas hs1 hg1 hrg1 hws hrg0 hg0 hs0
      go_wp2_with (first
        | (at_builtin; refine wpList_append_own_at _ rfl _ _ 66 rfl (w.heap.size + 1) 3 i0 (.int .i64 0) 1 8 Tryz.underlying66 hi hz0 hz1 hz2 rfl (by decide) _ acc.length (jvals acc) rfl (unhide hO1a) ⟨w1.heap.size, 0, none⟩ 1 1 [.int .i64 x] rfl rfl (cell_one_newJ _ _ _) (by simp [Value.oneCell']) (by unfold maxLen; omega) (by omega) (by simp; omega) ?_; intro v' w2 hO2 hG2 _ hat2)
        | go_in)
      have ga := World.grownBy_alloc w1 (.cells #[.int .i64 x] 3) none
      have hr : ∀ r, (Value.slice ja acc.length jc).ownBlock = some r → w.heap.size + 1 ≤ r := fun r e => (World.ownsRow.lt (unhide hO1a) r e).1
      have hrg2 := ((unhide HRG1).kept ga (fun e => by cases e) (fun e => by cases e)).kept hG2 (fun e => by have := hr _ e.symm; omega) (fun e => by have := hr _ e.symm; omega)
      have hB2 := (hB1.trans (below_grown ga hB1.size (fun r e => by cases e))).trans (below_grown hG2 (Nat.le_trans hB1.size ga.size) (fun r e => by have := hr r e; omega))
      go_roundw
      case rel =>
        refine ⟨_, cnt1, acc ++ [x], hrg2, ?_, unhide HND, unhide HM2, by rw [List.length_append]; simp; omega, hB2, Nat.le_trans hw1 (Nat.le_trans ga.size hG2.size)⟩
        unfold OwnJ jvals
        rw [List.length_append, List.map_append]
        exact hO2
      case measure =>
        rw [hrg2.left_eq, (unhide HRG).left_eq]
        exact hlt
end Go.Proofs.YthdgbdjagjagpaaGreatDoor
