/-
  The contract of store.Open: the store of an image, or none; nothing that lay is turned, and the store's memory is new.
-/
import Derived.Test.YtkiijdcpfbnacaaGreatDoorSr9
namespace Go.Proofs.YtkiijdcpfbnacaaGreatDoor
open Go.RowKit
set_option maxRecDepth 20000

theorem NewS_any (w : World) : Calls Tryz.prog 67 #[] w fun e w' => e = .returned (.pointer (some ⟨w.heap.size, 0, none⟩)) ∧ IsSt w' w.heap.size w.heap.size (.slice none 0 0) (.slice none 0 0) [] [] ∧ Below w.heap.size w w' := by
  go_enter Tryz.func67, Tryz.ntmps67
  go_wp2
  go_ret
  exact ⟨rfl, ⟨heap_alloc_new w _, Nat.le_refl _, World.ownsRow_nil _ _ _ _, OwnK.nil _ _⟩, (Below.refl _ _).alloc (Nat.le_refl _) _⟩
theorem OverS_any (ao : Option Addr) (c : Nat) (l : List UInt8) (w : World) (hl : BAt w ao l) (hb : l.length ≤ 140737488355328) :
    Calls Tryz.prog 51 #[.slice ao l.length c] w fun e w' => ∃ p g, e = .returned (.pointer (some ⟨p, 0, none⟩)) ∧ w.heap.size ≤ p ∧ w.heap.size ≤ g ∧ IsReader w' p g l.length l 0 ∧ (∃ cur, w'.heap[g]? = some (.cells cur 5 (0, 0))) ∧ Below w.heap.size w w' := by
  go_enter Tryz.func51, Tryz.ntmps51
  go_wp2_with fail
  refine (copied_any ao c l _ hl hb).mono ?_
  rintro e w1 ⟨rfl, hown, hb1⟩
  go_wp2
  go_ret
  have hty : ∃ cur, w1.heap[w.heap.size]? = some (.cells cur 5 (0, 0)) := by
    rcases hown.2 with ⟨h, _⟩ | ⟨g, cap, cur, hv, _, hh, _⟩
    · cases h
    · injection hv with hv _ _
      injection hv with hv
      injection hv with hv
      subst hv
      exact ⟨cur, hh⟩
  have hal : Below w1.heap.size w1 (w1.alloc (.cells #[.slice (some ⟨w.heap.size, 0, none⟩) l.length l.length, .int .i64 0, .bool true] 183)) := (Below.refl _ w1).alloc (Nat.le_refl _) _
  refine ⟨w1.heap.size, w.heap.size, rfl, hb1.size, Nat.le_refl _, ?_, ?_, hb1.alloc hb1.size _⟩
  · rcases hown.shape with ⟨h, _⟩ | ⟨g, cap, hv, h1, h2, h3, h4, h5⟩
    · cases h
    · injection hv with hv hv2 hv3
      injection hv with hv
      injection hv with hv
      subst hv
      refine ⟨heap_alloc_new w1 _, h5.below' ((Below.refl _ w1).alloc (Nat.le_refl _) _), by simp; omega, by omega, Nat.zero_le _, Nat.le_refl _, hb⟩
  · obtain ⟨cur, hc⟩ := hty
    exact ⟨cur, by rw [hal.block _ (Array.getElem?_eq_some_iff.1 hc).1]; exact hc⟩
theorem at8_zero (l : List UInt8) (k : Nat) : (at8 l k != 0) = decide (l.getD k 0 ≠ 0) := by
  unfold at8
  by_cases h : l.getD k 0 = 0
  · rw [h]; rfl
  · have : ((l.getD k 0).toNat : Int) ≠ 0 := fun e => h (by
      have e2 : (l.getD k 0).toNat = 0 := by omega
      exact UInt8.toNat_inj.1 (by rw [e2]; rfl))
    rw [decide_eq_true h]
    simpa using this
def OpenPost (w : World) (l : List UInt8) (e : Ending) (w' : World) : Prop :=
  Below w.heap.size w w' ∧ ((e = .returned (.tuple #[.pointer none, .int .i64 210]) ∧ openS l = none) ∨ ∃ g iv kv k K, e = .returned (.tuple #[.pointer (some ⟨g, 0, none⟩), .int .i64 0]) ∧ openS l = some (k, K) ∧ IsSt w' w.heap.size g iv kv (l.take k) K ∧ OkK K ∧ EnK k K ∧ k ≤ l.length)
set_option maxHeartbeats 8000000 in
theorem OpenS_any (ao : Option Addr) (c : Nat) (l : List UInt8) (w : World) (hl : BAt w ao l) (hn : ao = none → l = []) (hb : l.length ≤ 140737488351232) (hlc : l.length ≤ c) :
    Calls Tryz.prog 35 #[.slice ao l.length c] w (OpenPost w l) := by
  by_cases hbig : 1048576 < l.length
  · have i1 : (1048576 : Int) < ((l.length : Nat) : Int) := by omega
    have ho : openS l = none := by unfold openS; rw [if_pos hbig]
    have HO := hide ho
    clear ho hl hn
    go_enter Tryz.func35, Tryz.ntmps35
    go_wp2
    go_ret2
    exact ⟨Below.refl _ _, Or.inl ⟨rfl, unhide HO⟩⟩
  · have i1 : ¬ (1048576 : Int) < ((l.length : Nat) : Int) := by omega
    have HL := hide hl
    have HN := hide hn
    have HR0 := hide (Rest.start hbig)
    have HNw := hide (NewS_any w)
    clear hl hn
    go_enter Tryz.func35, Tryz.ntmps35
    go_wp2_with fail
    refine (unhide HNw).mono ?_
    rintro e W1 ⟨rfl, hst, hb1⟩
    have HOv := hide (OverS_any ao c l W1 ((unhide HL).below' hb1) (by omega))
    have HB1 := hide hb1
    have HST := hide hst
    clear hst hb1 HNw
    go_wp2_with fail
    refine (unhide HOv).mono ?_
    rintro e W2 ⟨p, gl, rfl, hp, hg, hrd, hty, hb2⟩
    have HB2 := hide ((unhide HB1).trans (hb2.mono (unhide HB1).size))
    have HSR : Hid (SR W2 w.heap.size w.heap.size (.slice none 0 0) [] p gl l.length l 0) := hide ⟨(unhide HST).below hb2, hrd, hty, by have := (unhide HB1).size; omega, by have := (unhide HB1).size; omega⟩
    clear HST HB1 hp hg hrd hty hb2 HOv
    have hg0 : Hid (w.heap.size = w.heap.size) := hide rfl
    clear hg0
    go_wp2_with fail
    go_loopg [12] l.length (fun kx _ wr => ∃ (k : Nat) (K : List Ke) (kv : Value), k ≤ l.length ∧ l.length - k ≤ kx ∧ Hid (SR wr w.heap.size w.heap.size kv K p gl l.length l k) ∧ Hid (OkK K ∧ EnK k K ∧ Rest l k K) ∧ Hid (Below w.heap.size w wr))
    case atStart => exact ⟨0, [], .slice none 0 0, by omega, by omega, HSR, hide ⟨⟨List.Pairwise.nil, by simp⟩, (fun e h => by simp at h), unhide HR0⟩, HB2⟩
    case round =>
      obtain ⟨k, K, kv, hk, hkx, HS, HOK, HBr⟩ := hrel
      clear HSR HR0 HB2
      have HLf := hide (Left_any (unhide HS).rd)
      by_cases hlt : k < l.length
      · have j1 : (0 : Int) < ((l.length - k : Nat) : Int) := by omega
        go_wp2_with fail
        refine (unhide HLf).mono ?_
        rintro e Wq ⟨rfl, n, hw⟩
        have hbd : Below wr.heap.size wr Wq := by rw [hw]; exact ⟨rfl, rfl, rfl, Nat.le_refl _, fun _ _ => rfl⟩
        have HS1 := hide ((unhide HS).below hbd)
        have HBW := hide ((unhide HBr).trans (hbd.mono (unhide HBr).size))
        clear hw hbd HS HBr HLf
        have HAt := hide (At_any (unhide HS1).rd)
        go_wp2_with fail
        refine (unhide HAt).mono ?_
        rintro e Wz ⟨rfl, hw⟩
        rw [hw]
        clear hw HAt Wz
        obtain ⟨b, off, hao, hcell⟩ := ((unhide HL).below' (unhide HBW)) k hlt
        have j2 : ((k : Nat) : Int) < ((l.length : Nat) : Int) := by omega
        by_cases h0 : l.getD k 0 = 0
        · have q0 : (at8 l k != 0) = false := by rw [at8_zero]; simpa using h0
          have HOS := hide ((unhide HOK).2.2.done (fun h => h.2 h0) hk)
          generalize at8 l k = z at hcell q0
          subst hao
          go_wp2_with fail
          have HAt2 := hide (At_any (unhide HS1).rd)
          go_wp2_with fail
          refine (unhide HAt2).mono ?_
          rintro e Wz ⟨rfl, hw⟩
          rw [hw]
          clear hw HAt2 Wz
          have hkc : k ≤ c := by omega
          have hkl2 : ((k : Nat) : Int) ≤ ((l.length : Nat) : Int) := by omega
          have hkc2 : ((k : Nat) : Int) ≤ ((c : Nat) : Int) := by omega
          have hlt2 : (l.take k).length = k := by rw [List.length_take]; omega
          have HCl := hide (bytesClone_any (some ⟨b, off, none⟩) c (l.take k) Wq (BAt.take (m := l.drop k) (by rw [List.take_append_drop]; exact (unhide HL).below' (unhide HBW))) (fun e => by rw [unhide HN e]; simp) (by rw [hlt2]; omega))
          rw [hlt2] at HCl
          have HLT := hide hlt2
          clear hlt2
          go_wp2_with fail
          refine (unhide HCl).mono ?_
          rintro e W5 ⟨v5, rfl, hO5, hb5, _⟩
          have HS5 := hide ((unhide HS1).st.below hb5)
          have HB5 := hide ((unhide HBW).trans (hb5.mono (unhide HBW).size))
          have HO5 := hide (hO5.mono (unhide HBW).size)
          have HVN : Hid (v5.ownBlock ≠ some w.heap.size) := hide (fun e => by
            have h1 := (World.ownsRow.lt hO5 _ e).1
            have h2 := (unhide HS1).st.gl
            omega)
          clear hO5 hb5 HCl
          have hx0 := (unhide HS5).c0
          have hf0 := (unhide HS5).f0
          obtain ⟨a5, c5, hv5, _⟩ := (unhide HO5).at
          rw [unhide HLT] at hv5
          subst hv5
          go_wp2
          go_ret2
          refine ⟨?_, Or.inr ⟨w.heap.size, .slice a5 k c5, kv, k, K, rfl, unhide HOS, ?_, (unhide HOK).1, (unhide HOK).2.1, by omega⟩⟩
          · exact (unhide HB5).setCell (p := ⟨w.heap.size, 0, none⟩) (Nat.le_refl _) _
          · have hrow := (unhide HS5).row
            have hs := kept_setCell W5 ⟨w.heap.size, 0, none⟩ (.slice a5 k c5)
            refine ⟨?_, Nat.le_refl _, (unhide HO5).keep hs (fun q e e2 => unhide HVN (by rw [e, e2])), (unhide HS5).kep.keep hs (fun q e e2 => (unhide HS5).kg (by rw [e, e2]))⟩
            rw [setCell_eq_setRow W5 _ 0 _ _ (0, 0) _ hrow]
            exact setRow_heap W5 _ _ _ _ _ hrow
        · have q0 : (at8 l k != 0) = true := by rw [at8_zero]; simpa using h0
          have HH0 := hide h0
          generalize at8 l k = z at hcell q0
          have HRd := hide (readS_any (unhide HS1) (unhide HOK).1)
          subst hao
          clear h0
          go_wp2_with fail
          refine (unhide HRd).mono ?_
          rintro e W3 ⟨hb, hc⟩
          have HB3 := hide ((unhide HBW).trans hb)
          clear hb HRd hcell q0
          rcases hc with ⟨rfl, hn⟩ | ⟨k', K', kv', rfl, hn, hs⟩
          · have HOS := hide ((unhide HOK).2.2.none hlt (unhide HH0) hn)
            clear hn
            go_wp2
            go_ret2
            exact ⟨unhide HB3, Or.inl ⟨rfl, unhide HOS⟩⟩
          · have hst := step_ok hlt hn (unhide HOK).1 (unhide HOK).2.1
            have hk' := hs.rd.le
            have hkk := hst.1
            have HOK' : Hid (OkK K' ∧ EnK k' K' ∧ Rest l k' K') := hide ⟨hst.2.1, hst.2.2, (unhide HOK).2.2.step hlt (unhide HH0) hn hst.1⟩
            have HS' := hide hs
            clear hn hs hst
            go_wp2_with fail
            go_roundg (l.length - k')
            case measure => omega
            case rel => exact ⟨k', K', kv', hk', Nat.le_refl _, HS', HOK', HB3⟩
      · have j1 : ¬ (0 : Int) < ((l.length - k : Nat) : Int) := by omega
        have HOS := hide ((unhide HOK).2.2.done (fun h => hlt h.1) hk)
        go_wp2_with fail
        refine (unhide HLf).mono ?_
        rintro e Wq ⟨rfl, n, hw⟩
        have hbd : Below wr.heap.size wr Wq := by rw [hw]; exact ⟨rfl, rfl, rfl, Nat.le_refl _, fun _ _ => rfl⟩
        have HS1 := hide ((unhide HS).below hbd)
        have HBW := hide ((unhide HBr).trans (hbd.mono (unhide HBr).size))
        clear hw hbd HS HBr HLf
        have HAt2 := hide (At_any (unhide HS1).rd)
        go_wp2_with fail
        refine (unhide HAt2).mono ?_
        rintro e Wz ⟨rfl, hw⟩
        rw [hw]
        clear hw HAt2 Wz
        have hkc : k ≤ c := by omega
        have hkl2 : ((k : Nat) : Int) ≤ ((l.length : Nat) : Int) := by omega
        have hkc2 : ((k : Nat) : Int) ≤ ((c : Nat) : Int) := by omega
        have hlt2 : (l.take k).length = k := by rw [List.length_take]; omega
        have HCl := hide (bytesClone_any ao c (l.take k) Wq (BAt.take (m := l.drop k) (by rw [List.take_append_drop]; exact (unhide HL).below' (unhide HBW))) (fun e => by rw [unhide HN e]; simp) (by rw [hlt2]; omega))
        rw [hlt2] at HCl
        have HLT := hide hlt2
        clear hlt2
        go_wp2_with fail
        refine (unhide HCl).mono ?_
        rintro e W5 ⟨v5, rfl, hO5, hb5, _⟩
        have HS5 := hide ((unhide HS1).st.below hb5)
        have HB5 := hide ((unhide HBW).trans (hb5.mono (unhide HBW).size))
        have HO5 := hide (hO5.mono (unhide HBW).size)
        have HVN : Hid (v5.ownBlock ≠ some w.heap.size) := hide (fun e => by
          have h1 := (World.ownsRow.lt hO5 _ e).1
          have h2 := (unhide HS1).st.gl
          omega)
        clear hO5 hb5 HCl
        have hx0 := (unhide HS5).c0
        have hf0 := (unhide HS5).f0
        obtain ⟨a5, c5, hv5, _⟩ := (unhide HO5).at
        rw [unhide HLT] at hv5
        subst hv5
        go_wp2
        go_ret2
        refine ⟨?_, Or.inr ⟨w.heap.size, .slice a5 k c5, kv, k, K, rfl, unhide HOS, ?_, (unhide HOK).1, (unhide HOK).2.1, by omega⟩⟩
        · exact (unhide HB5).setCell (p := ⟨w.heap.size, 0, none⟩) (Nat.le_refl _) _
        · have hrow := (unhide HS5).row
          have hs := kept_setCell W5 ⟨w.heap.size, 0, none⟩ (.slice a5 k c5)
          refine ⟨?_, Nat.le_refl _, (unhide HO5).keep hs (fun q e e2 => unhide HVN (by rw [e, e2])), (unhide HS5).kep.keep hs (fun q e e2 => (unhide HS5).kg (by rw [e, e2]))⟩
          rw [setCell_eq_setRow W5 _ 0 _ _ (0, 0) _ hrow]
          exact setRow_heap W5 _ _ _ _ _ hrow
end Go.Proofs.YtkiijdcpfbnacaaGreatDoor
