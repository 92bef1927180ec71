/-
  The reference's Behind: a rising list, in new memory. Conditions: the instructions lie there.
-/
import Derived.Test.YtlanmcmhgohooaaDoorFl2
import Derived.Deep.RegionHeld3
import Derived.Deep.Cut
namespace Go.Proofs.YtlanmcmhgohooaaDoor
open Go.RowKit Go.Maps
set_option maxRecDepth 20000

/-- A load of a struct under a guard that lets it through. -/
theorem wpList_load_gd {P : Program} {ops : Array Oper} {rest : List Oper} {o : Oper} {a : Act} {w : World} {Q : Exit → Act → World → Prop} (hw : Region.wanted o (yielded ops a.tmps) = true) (ty : TypeId) (x : Operand) (ho : o.op = .load ty x)
    (g : Nat) (hx : a.eval x = .pointer (some ⟨g, 0, none⟩)) (t : TypeId) (cs : Array Value) (fr : Nat × Nat) (d : TypeDesc) (hg : w.heap[g]? = some (.cells cs t fr))
    (hu : P.underlying ty = some d) (hd : (match d with | .struct _ | .array _ _ => true | _ => false) = true) (hi : (P.info? ty).map (·.size) = some cs.size)
    (h : wpList P ops Q rest (a.put o.dst (.agg cs)) w) : wpList P ops Q (o :: rest) a w :=
  wpList_step fun _ hK => by rw [if_pos hw]; exact wp_load_row ty x ho g hx t cs fr d hg hu hd hi (hK _ _ h)

set_option maxRecDepth 20000 in
set_option maxHeartbeats 2000000 in
theorem refBehind_any (ao : Option Addr) (c : Nat) (l : List Ix) (w : World) (hx : XsAt w ao l) (hz : l.length ≤ 4400000000000) :
    Calls Tryd.prog 20 #[.slice ao l.length c] w fun e w' => ∃ v, e = .returned v ∧ OwnJ w' w.heap.size v (pts (behs l)) ∧ Below w.heap.size w w' := by
  have HX := hide hx
  clear hx
  go_enter Tryd.func20, Tryd.ntmps20
  go_wp2
  go_loopw [3, 8] (fun v i wr => ∃ k : Nat, k ≤ l.length ∧ i = .int .i64 (k : Int) ∧ Hid (OwnJ wr w.heap.size v (pts (behs (l.take k)))) ∧ Hid (Below w.heap.size w wr)) (fun _ i _ => l.length - (intOf i).toNat)
  case atStart => exact ⟨0, by omega, rfl, hide (OwnJ.nil _ _), hide (Below.refl _ _)⟩
  case round =>
    obtain ⟨k, hk, rfl, HO, HB⟩ := hrel
    obtain ⟨va, vc, rfl, hja, _⟩ := (unhide HO).at
    by_cases hkl : k < l.length
    · have j1 : ((k : Nat) : Int) < ((l.length : Nat) : Int) := by omega
      have hx := List.getElem?_eq_getElem hkl
      generalize l[k] = x at hx
      have HTk := hide (take_snoc hx)
      obtain ⟨b, off, rfl, hc⟩ := ((unhide HX).below (unhide HB)) k x hx
      obtain ⟨c0, c1, c2, c3, ho⟩ := hc
      have hal : Below wr.heap.size wr (wr.alloc (.cells #[.int .i64 x.p, .int .u8 (x.op : Int), .int .i64 x.a, .int .i64 x.b] 31)) := (Below.refl _ _).alloc (Nat.le_refl _) _
      have I1 : Hid (IAt (wr.alloc (.cells #[.int .i64 x.p, .int .u8 (x.op : Int), .int .i64 x.a, .int .i64 x.b] 31)) wr.heap.size x.p x.op x.a x.b) := hide (heap_alloc_new wr _)
      have HO1 := hide ((unhide HO).below hal)
      have HJ1 := hide (hja.below hal)
      have HB1 := hide ((unhide HB).trans (hal.mono (unhide HB).size))
      have hpl : (pts (behs (l.take k))).length ≤ 4400000000000 := by
        have h1 := pts_len (behs (l.take k))
        have h2 := behs_len (l.take k)
        rw [List.length_take] at h2
        omega
      clear hx hal hja HO
      generalize hps : pts (behs (l.take k)) = ps at HO1 HJ1 hpl ⊢
      go_wp2_with fail
      generalize (wr.alloc (.cells #[.int .i64 x.p, .int .u8 (x.op : Int), .int .i64 x.a, .int .i64 x.b] 31)) = w1 at I1 HO1 HJ1 HB1 ⊢
      generalize wr.heap.size = gi at I1 ⊢
      clear c0 c1 c2 c3 HB
      refine (refEnds_any x.op _).mono ?_
      rintro e w1' ⟨rfl, hw1⟩
      rw [hw1]
      clear hw1 w1'
      have hn := behs_snoc (l.take k) x
      by_cases he : endD x.op = true
      · rw [show (decide (x.op = 19) || decide (x.op = 22) || decide (x.op = 32)) = true from he]
        go_wp2_with (refine wpList_load_gd (by kernel_rfl) 31 (.tmp 5) rfl gi rfl 31 #[.int .i64 x.p, .int .u8 (x.op : Int), .int .i64 x.a, .int .i64 x.b] (0, 0) _ (unhide I1) Tryd.underlying31 rfl (by kernel_rfl) ?_)
        refine (placed_any x.p x.op x.a x.b _).mono ?_
        rintro e w2 ⟨rfl, hB2⟩
        have I2 : Hid (IAt w2 gi x.p x.op x.a x.b) := hide ((unhide I1).below hB2)
        have HO2 := hide ((unhide HO1).below hB2)
        have HJ2 := hide ((unhide HJ1).below hB2)
        have HB2 := hide ((unhide HB1).trans (hB2.mono (unhide HB1).size))
        clear hB2 I1 HO1 HJ1 HB1
        by_cases hi : inC x.p = true
        · rw [hi]
          rw [if_pos (by rw [he, hi]; rfl)] at hn
          have hp : 0 ≤ x.p ∧ x.p ≤ 4096 := by unfold inC at hi; simp at hi; omega
          have hsd := sizeD_le x.op
          have HN : Hid (pts (behs (l.take (k + 1))) = putJ ps (x.p + sizeD x.op)) := hide (by rw [unhide HTk, hn, pts_snoc, hps])
          clear hn hi he hps HTk
          go_upto_region 6 with fail
          refine wp_region_held_drew (S := fun w' => IAt w' gi x.p x.op x.a x.b) (by kernel_rfl) (unhide I2) (fun hS => ?_)
          have HJ3 : Hid (JsAt w2.drew va ps) := hide (unhide HJ2)
          have HB3 : Hid (Below w.heap.size w w2.drew) := hide (belowD (unhide HB2) 1)
          clear I2 HO2 HJ2 HB2
          generalize w2.drew = w3 at HJ3 HB3 hS ⊢
          refine wpAnyH_take (i := 0) (v := .slice va ps.length vc) rfl (by kernel_rfl) (by kernel_rfl) (by kernel_rfl) (fun _ _ _ h => h) (Or.inl ⟨by rfl, fun w _ => by go_simp⟩) hS ?_
          refine wpAnyH_take (i := 1) (v := .pointer (some ⟨gi, 0, none⟩)) rfl (by kernel_rfl) (by kernel_rfl) (by kernel_rfl) (fun _ _ _ h => h) (Or.inl ⟨by rfl, fun w _ => by go_simp⟩) hS ?_
          refine wpAnyH_take (i := 2) (v := .int .i64 x.p) rfl (by kernel_rfl) (by kernel_rfl) (by kernel_rfl) (fun _ _ _ h => h) (Or.inl ⟨by rfl, fun w hS => by have h0 := IAt.c0 hS; go_simp⟩) hS ?_
          refine wpAnyH_take (i := 3) (v := .pointer (some ⟨gi, 1, none⟩)) rfl (by kernel_rfl) (by kernel_rfl) (by kernel_rfl) (fun _ _ _ h => h) (Or.inl ⟨by rfl, fun w _ => by go_simp⟩) hS ?_
          refine wpAnyH_take (i := 4) (v := .int .u8 (x.op : Int)) rfl (by kernel_rfl) (by kernel_rfl) (by kernel_rfl) (fun _ _ _ h => h) (Or.inl ⟨by rfl, fun w hS => by have h0 := (IAt.c hS).1; go_simp⟩) hS ?_
          go_simp
          refine wpAnyH_ready (rs := [5]) (by kernel_rfl) (by simp) ?_
          refine AllReadyH.cons rfl (fun K hK => ?_) AllReadyH.nil
          rw [if_pos (by rfl)]
          go_wp2_with (go_at_call 32; refine (refSize_any x.op _).mono ?_; rintro e w3' ⟨rfl, hw3⟩)
          clear hw3 w3'
          refine hK.out _ _ hS (fun _ => ?_)
          clear hK K
          refine wpAnyH_take (i := 6) (v := .int .i64 (x.p + sizeD x.op)) rfl (by kernel_rfl) (by kernel_rfl) (by kernel_rfl) (fun _ _ _ h => h) (Or.inl ⟨by rfl, fun w _ => by go_simp; rw [IntKind.wrap_i64]; omega⟩) hS ?_
          go_simp
          refine wpAnyH_ready (rs := [7]) (by kernel_rfl) (by simp) ?_
          refine AllReadyH.cons rfl (fun K hK => ?_) AllReadyH.nil
          rw [if_pos (by rfl)]
          go_wp2_with (go_at_call 43; refine (refPut_int va vc ps (x.p + sizeD x.op) w3 (unhide HJ3) hpl).mono ?_; rintro e w4 ⟨v2, rfl, hO4, hB4⟩)
          refine hK.out _ _ (hS.below hB4) (fun hS4 => ?_)
          clear hK K
          have HO4 := hide (hO4.mono (unhide HB3).size)
          have HB4 := hide ((unhide HB3).trans (hB4.mono (unhide HB3).size))
          clear hO4 hB4 hS
          refine wpAnyH_take (i := 8) (v := v2) rfl (by kernel_rfl) (by kernel_rfl) (by kernel_rfl) (fun _ _ _ h => h) (Or.inl ⟨by rfl, fun w _ => by go_simp⟩) hS4 ?_
          refine wpAnyH_done (by kernel_rfl) ?_ _
          go_wp2
          go_roundw
          case rel => exact ⟨k + 1, by omega, by go_num, hide (by rw [unhide HN]; exact unhide HO4), HB4⟩
          case measure => simp [intOf]; omega
        · have hi' : inC x.p = false := by simpa using hi
          rw [if_neg (by rw [he, hi']; simp)] at hn
          rw [hi']
          have HN : Hid (pts (behs (l.take (k + 1))) = ps) := hide (by rw [unhide HTk, hn, hps])
          clear hps
          go_wp2
          go_roundw
          case rel => exact ⟨k + 1, by omega, by go_num, hide (by rw [unhide HN]; exact unhide HO2), HB2⟩
          case measure => simp [intOf]; omega
      · have he' : endD x.op = false := by simpa using he
        rw [if_neg (by rw [he']; simp)] at hn
        rw [show (decide (x.op = 19) || decide (x.op = 22) || decide (x.op = 32)) = false from he']
        have HN : Hid (pts (behs (l.take (k + 1))) = ps) := hide (by rw [unhide HTk, hn, hps])
        clear hps
        go_wp2
        go_roundw
        case rel => exact ⟨k + 1, by omega, by go_num, hide (by rw [unhide HN]; exact unhide HO1), HB1⟩
        case measure => simp [intOf]; omega
    · obtain rfl : k = l.length := by omega
      rw [List.take_length] at HO ⊢
      go_wp2
      go_ret
      exact ⟨_, rfl, unhide HO, unhide HB⟩
end Go.Proofs.YtlanmcmhgohooaaDoor
