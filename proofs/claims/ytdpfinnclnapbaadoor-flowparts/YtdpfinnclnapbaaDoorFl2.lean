/-
  flow.Targets, flow.Behind and the reference's two: the same rising lists, in new memory. Conditions: the instructions lie there, their operands are numbers of the machine, the widths lie there.
-/
import Derived.Test.YtdpfinnclnapbaaDoorFl1
namespace Go.Proofs.YtdpfinnclnapbaaDoor
open Go.RowKit Go.Maps
set_option maxRecDepth 20000

/-- What lies behind ends, in the list's order. -/
def behs (l : List Ix) : List Int := (l.filter fun x => endD x.op && inC x.p).map fun x => x.p + sizeD x.op
theorem behs_snoc (l : List Ix) (x : Ix) : behs (l ++ [x]) = if (endD x.op && inC x.p) = true then behs l ++ [x.p + sizeD x.op] else behs l := by
  unfold behs
  rw [List.filter_append]
  by_cases h : (endD x.op && inC x.p) = true
  · rw [if_pos h]
    simp [h]
  · rw [if_neg h]
    simp [h]
/-- Numbers put one behind another into a rising list. -/
def pts (ks : List Int) : List Int := ks.foldl putJ []
theorem pts_snoc (ks : List Int) (x : Int) : pts (ks ++ [x]) = putJ (pts ks) x := by unfold pts; rw [List.foldl_append]; rfl
theorem pts_both : ∀ (ks : List Int) (acc : List Int), AscJ acc → AscJ (ks.foldl putJ acc) ∧ (∀ x, x ∈ ks.foldl putJ acc ↔ x ∈ acc ∨ x ∈ ks)
  | [], acc, h => ⟨h, fun x => by simp⟩
  | k :: ks, acc, h => by
    obtain ⟨h1, h2⟩ := pts_both ks (putJ acc k) (asc_putJ h)
    refine ⟨h1, fun x => ?_⟩
    rw [List.foldl_cons, h2 x, mem_putJ, List.mem_cons]
    constructor
    · rintro ((h | h) | h)
      · exact .inr (.inl h)
      · exact .inl h
      · exact .inr (.inr h)
    · rintro (h | h | h)
      · exact .inl (.inr h)
      · exact .inl (.inl h)
      · exact .inr h
theorem pts_same {ks js : List Int} (h : AscJ js) (hm : ∀ x, x ∈ js ↔ x ∈ ks) : js = pts ks := by
  obtain ⟨h1, h2⟩ := pts_both ks [] List.Pairwise.nil
  exact asc_ext h h1 (fun x => (hm x).trans ((h2 x).trans (by simp)).symm)
theorem pts_len (ks : List Int) : (pts ks).length ≤ ks.length := by
  have : ∀ (ks acc : List Int), (ks.foldl putJ acc).length ≤ acc.length + ks.length := fun ks => by
    induction ks with
    | nil => intro acc; simp
    | cons k ks ih =>
      intro acc
      have h1 := ih (putJ acc k)
      have h2 := putJ_len k acc
      rw [List.foldl_cons, List.length_cons]
      omega
  simpa [pts] using this ks []
theorem behs_len (l : List Ix) : (behs l).length ≤ l.length := by unfold behs; rw [List.length_map]; exact List.length_filter_le _ _

set_option maxHeartbeats 1000000 in
theorem Targets_any (ao : Option Addr) (c : Nat) (l : List Ix) (w : World) (hx : XsAt w ao l) (hz : l.length ≤ 4400000000000) (hbd : ∀ x ∈ l, -9223372036854775808 ≤ x.a ∧ x.a ≤ 9223372036854775807) :
    Calls Tryd.prog 13 #[.slice ao l.length c] w fun e w' => ∃ v, e = .returned v ∧ OwnJ w' w.heap.size v (pts (tgs l)) ∧ Below w.heap.size w w' := by
  have HT := hide (targets_any ao c l w hx hz hbd)
  clear hx hbd
  go_enter Tryd.func13, Tryd.ntmps13
  go_wp2_with fail
  refine (unhide HT).mono ?_
  rintro e w1 ⟨rfl, hS, hB1⟩
  have HR := hide (rising_any w.heap.size l.length (tgs l) w1 hS hz)
  have HB := hide hB1
  clear hS hB1 HT
  go_wp2_with fail
  refine (unhide HR).mono ?_
  rintro e w2 ⟨v, js, rfl, hO, hA, hm, _, hB2⟩
  have he := pts_same hA hm
  subst he
  go_wp2
  go_ret
  exact ⟨v, rfl, hO.mono (unhide HB).size, (unhide HB).trans (hB2.mono (unhide HB).size)⟩

set_option maxRecDepth 20000 in
set_option maxHeartbeats 2000000 in
theorem Behind_any (ao : Option Addr) (c : Nat) (l : List Ix) (w : World) (hx : XsAt w ao l) (hW : WidAt w) (hz : l.length ≤ 4400000000000) :
    Calls Tryd.prog 14 #[.slice ao l.length c] w fun e w' => ∃ v, e = .returned v ∧ OwnJ w' w.heap.size v (pts (behs l)) ∧ Below w.heap.size w w' := by
  have hmm := @run_makeMap Tryd.prog
  have HX := hide hx
  have HW := hide hW
  clear hx hW
  go_enter Tryd.func14, Tryd.ntmps14
  go_wp2
  go_loopw [9] (fun i wr => ∃ k : Nat, k ≤ l.length ∧ i = .int .i64 (k : Int) ∧ Hid (SetAt wr w.heap.size k (behs (l.take k))) ∧ Hid (Below w.heap.size w wr)) (fun i _ => l.length - (intOf i).toNat)
  case atStart => exact ⟨0, by omega, rfl, hide (World.ownsMap_made _ _ _ _), hide ((Below.refl _ _).alloc (Nat.le_refl _) _)⟩
  case round =>
    obtain ⟨k, hk, rfl, HS, HB⟩ := hrel
    by_cases hkl : k < l.length
    · have j1 : ((k : Nat) : Int) < ((l.length : Nat) : Int) := by omega
      have hx := List.getElem?_eq_getElem hkl
      generalize l[k] = x at hx
      have HTk := hide (take_snoc hx)
      obtain ⟨b, off, rfl, hc⟩ := ((unhide HX).below (unhide HB)) k x hx
      obtain ⟨c0, c1, c2, c3, ho⟩ := hc
      have hal : Below wr.heap.size wr (wr.alloc (.cells #[.int .i64 x.p, .int .u8 (x.op : Int), .int .i64 x.a, .int .i64 x.b] 31)) := (Below.refl _ _).alloc (Nat.le_refl _) _
      have I1 : Hid (IAt (wr.alloc (.cells #[.int .i64 x.p, .int .u8 (x.op : Int), .int .i64 x.a, .int .i64 x.b] 31)) wr.heap.size x.p x.op x.a x.b) := hide (heap_alloc_new wr _)
      have HS1 : Hid (SetAt (wr.alloc (.cells #[.int .i64 x.p, .int .u8 (x.op : Int), .int .i64 x.a, .int .i64 x.b] 31)) w.heap.size k (behs (l.take k))) := hide ((unhide HS).alloc _)
      have HB1 := hide ((unhide HB).trans (hal.mono (unhide HB).size))
      clear hx hal
      go_wp2_with fail
      generalize (wr.alloc (.cells #[.int .i64 x.p, .int .u8 (x.op : Int), .int .i64 x.a, .int .i64 x.b] 31)) = w1 at I1 HS1 HB1 ⊢
      generalize wr.heap.size = gi at I1 ⊢
      clear c0 c1 c2 c3 HS HB
      refine (Ends_any x.op _).mono ?_
      rintro e w1' ⟨rfl, hw1⟩
      rw [hw1]
      clear hw1 w1'
      have d0 := (unhide I1).c0
      obtain ⟨d1, d2, d3⟩ := (unhide I1).c
      have hn := behs_snoc (l.take k) x
      by_cases he : endD x.op = true
      · rw [show (decide (x.op = 19) || decide (x.op = 22) || decide (x.op = 32)) = true from he]
        go_wp2_with fail
        refine (inCode_any x.p _).mono ?_
        rintro e w1' ⟨rfl, hw1⟩
        rw [hw1]
        clear hw1 w1'
        by_cases hi : inC x.p = true
        · rw [hi]
          rw [if_pos (by rw [he, hi]; rfl)] at hn
          have hp : 0 ≤ x.p ∧ x.p ≤ 4096 := by unfold inC at hi; simp at hi; omega
          have hsd := sizeD_le x.op
          have hwf := wf_of (x := x.p + sizeD x.op) (by omega)
          have HN : Hid (behs (l.take (k + 1)) = behs (l.take k) ++ [x.p + sizeD x.op]) := hide (by rw [unhide HTk]; exact hn)
          have HBh := hide (behind_any x.p x.op x.a x.b w1 ((unhide HW).below (unhide HB1)) ho hp)
          clear hn hi he
          go_wp2_with (refine wpList_load_row rfl 31 (.tmp 5) rfl gi rfl 31 #[.int .i64 x.p, .int .u8 (x.op : Int), .int .i64 x.a, .int .i64 x.b] (0, 0) _ (unhide I1) Tryd.underlying31 rfl (by kernel_rfl) ?_)
          refine (unhide HBh).mono ?_
          rintro e w2 ⟨rfl, hB2⟩
          have HB2 := hide ((unhide HB1).trans (hB2.mono (unhide HB1).size))
          have hS2 : w2.ownsMap Tryd.prog 3 (unitElem (H := Unit)) w.heap.size k (setOf (.agg []) ((behs (l.take k)).map (Lit.int .i64))) := (show w1.ownsMap Tryd.prog 3 (unitElem (H := Unit)) w.heap.size k (setOf (.agg []) ((behs (l.take k)).map (Lit.int .i64))) from unhide HS1).kept (⟨hB2.os, hB2.tape, hB2.output, hB2.size, fun j hj _ => hB2.block j hj⟩ : w1.grownBy w2 none) (by intro e; cases e)
          clear hB2 HBh I1 d0 d1 d2 d3 HS1 HB1
          go_wp2_with (at_mapUpdate; refine wpList_mapUpdate_own _ rfl _ _ _ 65 rfl 3 68 lawK Tryd.underlying65 (unitElem (H := Unit)) w.heap.size k _ rfl hS2 (by unfold maxLen; omega) _ _ _ rfl rfl (keyOf_int_mk Tryd.underlying3 hwf) _ [] unitElem_mk ?_; intro w3 hS3 hG3)
          go_roundw
          case rel => exact ⟨k + 1, by omega, by go_num, hide (by unfold SetAt; rw [unhide HN, set_snoc]; exact hS3), hide ((unhide HB2).trans (below_grown hG3 (unhide HB2).size (fun r e => by injection e with e; omega)))⟩
          case measure => simp [intOf]; omega
        · have hi' : inC x.p = false := by simpa using hi
          rw [if_neg (by rw [he, hi']; simp)] at hn
          rw [hi']
          have HN : Hid (behs (l.take (k + 1)) = behs (l.take k)) := hide (by rw [unhide HTk]; exact hn)
          go_wp2
          go_roundw
          case rel => exact ⟨k + 1, by omega, by go_num, hide (by rw [unhide HN]; exact (unhide HS1).mono (Nat.le_succ _)), HB1⟩
          case measure => simp [intOf]; omega
      · have he' : endD x.op = false := by simpa using he
        rw [if_neg (by rw [he']; simp)] at hn
        rw [show (decide (x.op = 19) || decide (x.op = 22) || decide (x.op = 32)) = false from he']
        have HN : Hid (behs (l.take (k + 1)) = behs (l.take k)) := hide (by rw [unhide HTk]; exact hn)
        go_wp2
        go_roundw
        case rel => exact ⟨k + 1, by omega, by go_num, hide (by rw [unhide HN]; exact (unhide HS1).mono (Nat.le_succ _)), HB1⟩
        case measure => simp [intOf]; omega
    · obtain rfl : k = l.length := by omega
      rw [List.take_length] at HS
      have HR := hide (rising_any w.heap.size l.length (behs l) wr (unhide HS) hz)
      go_wp2_with fail
      refine (unhide HR).mono ?_
      rintro e w2 ⟨v, js, rfl, hO, hA, hm, _, hB2⟩
      have he := pts_same hA hm
      subst he
      go_wp2
      go_ret
      exact ⟨v, rfl, hO.mono (unhide HB).size, (unhide HB).trans (hB2.mono (unhide HB).size)⟩

set_option maxRecDepth 20000 in
set_option maxHeartbeats 2000000 in
theorem refTargets_any (ao : Option Addr) (c : Nat) (l : List Ix) (w : World) (hx : XsAt w ao l) (hz : l.length ≤ 4400000000000) :
    Calls Tryd.prog 20 #[.slice ao l.length c] w fun e w' => ∃ v, e = .returned v ∧ OwnJ w' w.heap.size v (pts (tgs l)) ∧ Below w.heap.size w w' := by
  have HX := hide hx
  clear hx
  go_enter Tryd.func20, Tryd.ntmps20
  go_wp2
  go_loopw [3, 8] (fun v i wr => ∃ k : Nat, k ≤ l.length ∧ i = .int .i64 (k : Int) ∧ Hid (OwnJ wr w.heap.size v (pts (tgs (l.take k)))) ∧ Hid (Below w.heap.size w wr)) (fun _ i _ => l.length - (intOf i).toNat)
  case atStart => exact ⟨0, by omega, rfl, hide (OwnJ.nil _ _), hide (Below.refl _ _)⟩
  case round =>
    obtain ⟨k, hk, rfl, HO, HB⟩ := hrel
    obtain ⟨va, vc, rfl, hja, _⟩ := (unhide HO).at
    by_cases hkl : k < l.length
    · have j1 : ((k : Nat) : Int) < ((l.length : Nat) : Int) := by omega
      have hx := List.getElem?_eq_getElem hkl
      generalize l[k] = x at hx
      have HTk := hide (take_snoc hx)
      obtain ⟨b, off, rfl, hc⟩ := ((unhide HX).below (unhide HB)) k x hx
      obtain ⟨c0, c1, c2, c3, ho⟩ := hc
      have hal : Below wr.heap.size wr (wr.alloc (.cells #[.int .i64 x.p, .int .u8 (x.op : Int), .int .i64 x.a, .int .i64 x.b] 31)) := (Below.refl _ _).alloc (Nat.le_refl _) _
      have I1 : Hid (IAt (wr.alloc (.cells #[.int .i64 x.p, .int .u8 (x.op : Int), .int .i64 x.a, .int .i64 x.b] 31)) wr.heap.size x.p x.op x.a x.b) := hide (heap_alloc_new wr _)
      have HO1 := hide ((unhide HO).below hal)
      have HJ1 := hide (hja.below hal)
      have HB1 := hide ((unhide HB).trans (hal.mono (unhide HB).size))
      have hpl : (pts (tgs (l.take k))).length ≤ 4400000000000 := by
        have h1 := pts_len (tgs (l.take k))
        have h2 := tgs_len (l.take k)
        rw [List.length_take] at h2
        omega
      clear hx hal hja HO
      generalize hps : pts (tgs (l.take k)) = ps at HO1 HJ1 hpl ⊢
      go_wp2_with fail
      generalize (wr.alloc (.cells #[.int .i64 x.p, .int .u8 (x.op : Int), .int .i64 x.a, .int .i64 x.b] 31)) = w1 at I1 HO1 HJ1 HB1 ⊢
      generalize wr.heap.size = gi at I1 ⊢
      clear c0 c1 c2 c3 HB
      refine (refJumps_any x.op _).mono ?_
      rintro e w1' ⟨rfl, hw1⟩
      rw [hw1]
      clear hw1 w1'
      obtain ⟨d1, d2, d3⟩ := (unhide I1).c
      have hn := tgs_snoc (l.take k) x
      by_cases hj : jmpD x.op = true
      · rw [if_pos hj] at hn
        rw [show (decide (x.op = 19) || decide (x.op = 20)) = true from hj]
        have HN : Hid (pts (tgs (l.take (k + 1))) = putJ ps x.a) := hide (by rw [unhide HTk, hn, pts_snoc, hps])
        have HP := hide (refPut_int va vc ps x.a w1 (unhide HJ1) hpl)
        clear hn hj hps HTk
        go_wp2_with fail
        refine (unhide HP).mono ?_
        rintro e w2 ⟨v2, rfl, hO2, hB2⟩
        have HO2 := hide (hO2.mono (unhide HB1).size)
        have HB2 := hide ((unhide HB1).trans (hB2.mono (unhide HB1).size))
        clear hO2 hB2 HP
        go_wp2
        go_roundw
        case rel => exact ⟨k + 1, by omega, by go_num, hide (by rw [unhide HN]; exact unhide HO2), HB2⟩
        case measure => simp [intOf]; omega
      · have hj' : jmpD x.op = false := by simpa using hj
        rw [if_neg hj] at hn
        rw [show (decide (x.op = 19) || decide (x.op = 20)) = false from hj']
        have HN : Hid (pts (tgs (l.take (k + 1))) = ps) := hide (by rw [unhide HTk, hn, hps])
        clear hps
        go_wp2
        go_roundw
        case rel => exact ⟨k + 1, by omega, by go_num, hide (by rw [unhide HN]; exact unhide HO1), HB1⟩
        case measure => simp [intOf]; omega
    · obtain rfl : k = l.length := by omega
      rw [List.take_length] at HO ⊢
      go_wp2
      go_ret
      exact ⟨_, rfl, unhide HO, unhide HB⟩
end Go.Proofs.YtdpfinnclnapbaaDoor
