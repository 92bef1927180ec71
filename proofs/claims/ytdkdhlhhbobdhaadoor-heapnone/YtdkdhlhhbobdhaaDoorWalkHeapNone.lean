/-
  The walk of the law HeapNone: it returns true for every two numbers, and writes nothing that was there.
-/
import Derived.Test.YtdkdhlhhbobdhaaDoorHp1
namespace Go.Proofs.YtdkdhlhhbobdhaaDoor
open Go.RowKit
set_option maxRecDepth 20000

/-- Two pointers to heaps that no call made, in a row of their own. -/
structure HN (w W : World) (gs gh : Nat) : Prop where
  p0 : W.cell? ⟨gs, 0, none⟩ = some (.pointer none)
  p1 : W.cell? ⟨gs, 1, none⟩ = some (.pointer (some ⟨gh, 0, none⟩))
  m : W.cell? ⟨gh, 5, none⟩ = some (.bool false)
  bel : Below w.heap.size w W
theorem HN.below {w W W' : World} {gs gh : Nat} (h : HN w W gs gh) (hb : Below W.heap.size W W') : HN w W' gs gh :=
  ⟨(hb.cell (p := ⟨gs, 0, none⟩) (World.block_lt_of_cell? W _ h.p0)).trans h.p0, (hb.cell (p := ⟨gs, 1, none⟩) (World.block_lt_of_cell? W _ h.p1)).trans h.p1, (hb.cell (p := ⟨gh, 5, none⟩) (World.block_lt_of_cell? W _ h.m)).trans h.m, h.bel.trans (hb.mono h.bel.size)⟩
theorem HN.at {w W : World} {gs gh : Nat} (h : HN w W gs gh) {k : Nat} (hk : k < 2) : ∃ v, W.cell? ⟨gs, k, none⟩ = some v ∧ NM W v := by
  rcases (show k = 0 ∨ k = 1 by omega) with rfl | rfl
  · exact ⟨_, h.p0, Or.inl rfl⟩
  · exact ⟨_, h.p1, Or.inr ⟨gh, rfl, h.m⟩⟩
theorem seven (W : World) {j : Nat} (h : j < 7) (t : TypeId) : (W.alloc (.cells #[.int .i64 8, .int .i64 8, .int .i64 8, .int .i64 8, .int .i64 8, .int .i64 8, .int .i64 8] t)).cell? ⟨W.heap.size, j, none⟩ = some (.int .i64 8) := by
  rw [cell_of_row _ _ _ _ _ _ (heap_alloc_new W _)]
  rcases (show j = 0 ∨ j = 1 ∨ j = 2 ∨ j = 3 ∨ j = 4 ∨ j = 5 ∨ j = 6 by omega) with rfl | rfl | rfl | rfl | rfl | rfl | rfl <;> rfl

set_option maxRecDepth 20000 in
set_option maxHeartbeats 4000000 in
theorem walkHeapNone {w : World} (hW : WordsAt w) (ref : Int) (_h1 : (Lit.int .i64 ref).wf = true) (i : Int) (_h2 : (Lit.int .i64 i).wf = true) :
    Calls Tryd.prog 4 #[.int .i64 ref, .int .i64 i] w fun e w' => e = .returned (.bool true) ∧ Below w.heap.size w w' := by
  clear _h1 _h2
  have al1 := (Below.refl w.heap.size w).alloc (Nat.le_refl _) (.cells #[.slice none 0 0, .int .i64 0, .int .i64 0, .int .i64 0, .slice none 0 0, .bool false] 52)
  have n1 := heap_alloc_new w (.cells #[.slice none 0 0, .int .i64 0, .int .i64 0, .int .i64 0, .slice none 0 0, .bool false] 52)
  have HB := hide al1
  have HN1 : Hid ((w.alloc (.cells #[.slice none 0 0, .int .i64 0, .int .i64 0, .int .i64 0, .slice none 0 0, .bool false] 52)).cell? ⟨w.heap.size, 5, none⟩ = some (.bool false)) := hide (by rw [cell_of_row _ _ _ _ _ _ n1]; rfl)
  have HW := hide hW
  clear al1 n1 hW
  go_enter Tryd.func4, Tryd.ntmps4
  go_upto_region 3 with fail
  generalize (w.alloc (.cells #[.slice none 0 0, .int .i64 0, .int .i64 0, .int .i64 0, .slice none 0 0, .bool false] 52)) = W1 at HB HN1 ⊢
  have al2 := (Below.refl W1.heap.size W1).alloc (Nat.le_refl _) (.cells #[.pointer none, .pointer (some ⟨w.heap.size, 0, none⟩)] 27)
  have n2 := heap_alloc_new W1 (.cells #[.pointer none, .pointer (some ⟨w.heap.size, 0, none⟩)] 27)
  have HH : Hid (HN w (W1.alloc (.cells #[.pointer none, .pointer (some ⟨w.heap.size, 0, none⟩)] 27)) W1.heap.size w.heap.size) := hide ⟨by rw [cell_of_row _ _ _ _ _ _ n2]; rfl, by rw [cell_of_row _ _ _ _ _ _ n2]; rfl, (al2.cell (p := ⟨w.heap.size, 5, none⟩) (World.block_lt_of_cell? W1 _ (unhide HN1))).trans (unhide HN1), (unhide HB).trans (al2.mono (unhide HB).size)⟩
  clear al2 n2 HB HN1
  go_wp2_with fail
  generalize (W1.alloc (.cells #[.pointer none, .pointer (some ⟨w.heap.size, 0, none⟩)] 27)) = W2 at HH ⊢
  generalize W1.heap.size = gs at HH ⊢
  generalize w.heap.size = gh at HH ⊢
  go_loopw [31] (fun x wr => ∃ k : Nat, k ≤ 2 ∧ x = .int .i64 (k : Int) ∧ Hid (HN w wr gs gh)) (fun x _ => 2 - (intOf x).toNat)
  case atStart => exact ⟨0, by omega, rfl, HH⟩
  case round =>
    clear HH W2
    obtain ⟨k, hk, rfl, HH⟩ := hrel
    by_cases hlt : k < 2
    · have j1 : ((k : Nat) : Int) < 2 := by omega
      have j0 : (0 : Int) ≤ ((k : Nat) : Int) := by omega
      obtain ⟨v, hc, hnm⟩ := (unhide HH).at hlt
      have HV := hide hnm
      clear hnm
      go_wp2_with fail
      refine (Record_no v ref wr (unhide HV)).mono ?_
      rintro e V1 ⟨rfl, hB⟩
      rw [hB]
      clear hB V1 hc
      go_wp2_with fail
      refine (Row_no v ref wr (unhide HV)).mono ?_
      rintro e V2 ⟨rfl, hB⟩
      rw [hB]
      clear hB V2
      go_wp2_with fail
      refine (Get_no v ref i wr (unhide HV)).mono ?_
      rintro e V3 ⟨rfl, hB⟩
      have HH3 := hide ((unhide HH).below hB)
      have HV3 := hide ((unhide HV).below hB)
      clear hB HH HV
      have HH := HH3
      have HV := HV3
      clear HH3 HV3
      go_wp2_with fail
      refine (Len_no v ref V3 (unhide HV)).mono ?_
      rintro e V4 ⟨rfl, hB⟩
      have HH4 := hide ((unhide HH).below hB)
      have HV4 := hide ((unhide HV).below hB)
      clear hB HH HV
      have HH := HH4
      have HV := HV4
      clear HH4 HV4
      have al := (Below.refl V4.heap.size V4).alloc (Nat.le_refl _) (.cells #[.int .i64 ref] 3)
      have HHa := hide ((unhide HH).below al)
      have HVa := hide ((unhide HV).below al)
      clear al HH HV
      have HH := HHa
      have HV := HVa
      clear HHa HVa
      go_wp2_with fail
      refine (Reach_no v _ (V4.alloc (.cells #[.int .i64 ref] 3)) (unhide HV)).mono ?_
      rintro e V5 ⟨rfl, hB⟩
      have HH5 := hide ((unhide HH).below hB)
      have HV5 := hide ((unhide HV).below hB)
      clear hB HH HV
      have HH := HH5
      have HV := HV5
      clear HH5 HV5
      have al := (Below.refl V5.heap.size V5).alloc (Nat.le_refl _) (.cells #[.int .i64 ref] 3)
      have HHa := hide ((unhide HH).below al)
      have HVa := hide ((unhide HV).below al)
      clear al HH HV
      have HH := HHa
      have HV := HVa
      clear HHa HVa
      go_wp2_with fail
      refine (Collect_no v _ (V5.alloc (.cells #[.int .i64 ref] 3)) (unhide HV)).mono ?_
      rintro e V6 ⟨rfl, hB⟩
      have HH6 := hide ((unhide HH).below hB)
      have HV6 := hide ((unhide HV).below hB)
      clear hB HH HV
      have HH := HH6
      have HV := HV6
      clear HH6 HV6
      go_wp2_with fail
      refine (Put_no v ref i 1 V6 (unhide HV)).mono ?_
      rintro e V7 ⟨rfl, hB⟩
      have HH7 := hide ((unhide HH).below hB)
      have HV7 := hide ((unhide HV).below hB)
      clear hB HH HV
      have HH := HH7
      have HV := HV7
      clear HH7 HV7
      have al := (Below.refl V7.heap.size V7).alloc (Nat.le_refl _) (.cells #[.int .i64 8, .int .i64 8, .int .i64 8, .int .i64 8, .int .i64 8, .int .i64 8, .int .i64 8] 28)
      have HHa := hide ((unhide HH).below al)
      have HVa := hide ((unhide HV).below al)
      have H7 : Hid (∀ j : Nat, j < 7 → (V7.alloc (.cells #[.int .i64 8, .int .i64 8, .int .i64 8, .int .i64 8, .int .i64 8, .int .i64 8, .int .i64 8] 28)).cell? ⟨V7.heap.size, j, none⟩ = some (.int .i64 8)) := hide (fun j hj => seven V7 hj _)
      clear al HH HV
      go_wp2_with fail
      generalize (V7.alloc (.cells #[.int .i64 8, .int .i64 8, .int .i64 8, .int .i64 8, .int .i64 8, .int .i64 8, .int .i64 8] 28)) = U at HHa HVa H7 ⊢
      generalize V7.heap.size = g7 at H7 ⊢
      clear V7
      go_loopw [87] (fun x w2 => ∃ j : Nat, j ≤ 7 ∧ x = .int .i64 (j : Int) ∧ w2 = U) (fun x _ => 7 - (intOf x).toNat)
      case atStart => exact ⟨0, by omega, rfl, rfl⟩
      case round =>
        obtain ⟨j, hj, rfl, hu⟩ := hrel
        rw [hu]
        clear hu
        by_cases hlt2 : j < 7
        · have j2 : ((j : Nat) : Int) < 7 := by omega
          have j3 : (0 : Int) ≤ ((j : Nat) : Int) := by omega
          have c7 := unhide H7 j hlt2
          go_wp2
          go_roundw
          case rel => exact ⟨j + 1, by omega, by go_num, trivial⟩
          case measure => simp [intOf]; omega
        · have j2 : ¬ ((j : Nat) : Int) < 7 := by omega
          have HH := HHa
          have HV := HVa
          clear HHa HVa H7
          go_wp2_with fail
          refine (Class_no v ref U (unhide HV)).mono ?_
          rintro e V8 ⟨rfl, hB⟩
          have HH8 := hide ((unhide HH).below hB)
          have HV8 := hide ((unhide HV).below hB)
          clear hB HH HV
          have HH := HH8
          have HV := HV8
          clear HH8 HV8
          go_wp2_with fail
          refine (Used_no v V8 (unhide HV)).mono ?_
          rintro e V9 ⟨rfl, hB⟩
          have HH9 := hide ((unhide HH).below hB)
          have HV9 := hide ((unhide HV).below hB)
          clear hB HH HV
          have HH := HH9
          have HV := HV9
          clear HH9 HV9
          go_wp2_with fail
          refine (Live_no v V9 (unhide HV)).mono ?_
          rintro e V10 ⟨rfl, hB⟩
          have HH10 := hide ((unhide HH).below hB)
          have HV10 := hide ((unhide HV).below hB)
          clear hB HH HV
          have HH := HH10
          have HV := HV10
          clear HH10 HV10
          go_wp2
          go_roundw
          case rel => exact ⟨k + 1, by omega, by go_num, HH⟩
          case measure => simp [intOf]; omega
    · have j1 : ¬ ((k : Nat) : Int) < 2 := by omega
      have HNE := hide (New_empty wr ((unhide HW).below (unhide HH).bel))
      go_wp2_with fail
      refine (unhide HNE).mono ?_
      rintro e W2 ⟨⟨g, rfl⟩, hB2⟩
      have HB := hide ((unhide HH).bel.trans (hB2.mono (unhide HH).bel.size))
      clear hB2
      go_wp2
      go_ret
      exact ⟨rfl, unhide HB⟩
end Go.Proofs.YtdkdhlhhbobdhaaDoor
