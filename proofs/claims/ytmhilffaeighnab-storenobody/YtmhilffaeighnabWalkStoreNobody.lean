/-
  The walk of the law StoreNobody: it returns true for every text and row of bytes, and writes nothing that was there.
-/
import Derived.Test.YtmhilffaeighnabMem
namespace Go.Proofs.Ytmhilffaeighnab
open Go.RowKit

/-- A pointer to a store that no call made. -/
def NMs (w : World) (v : Value) : Prop := v = .pointer none ∨ ∃ g, v = .pointer (some ⟨g, 0, none⟩) ∧ w.cell? ⟨g, 2, none⟩ = some (.bool false)
theorem NMs.below {w w' : World} {v : Value} (h : NMs w v) (hb : Below w.heap.size w w') : NMs w' v := by
  rcases h with h | ⟨g, h, hc⟩
  · exact Or.inl h
  · exact Or.inr ⟨g, h, (hb.cell (p := ⟨g, 2, none⟩) (World.block_lt_of_cell? w _ hc)).trans hc⟩
theorem isMade_noS (v : Value) (w : World) (h : NMs w v) : Calls Try.prog 11 #[v] w fun e w' => e = .returned (.bool false) ∧ w' = w := by
  rcases h with rfl | ⟨g, rfl, hc⟩
  · go_enter Try.func11, Try.ntmps11
    go_wp2
    go_ret
    exact ⟨rfl, rfl⟩
  · go_enter Try.func11, Try.ntmps11
    go_wp2
    go_ret
    exact ⟨rfl, rfl⟩
theorem Put_noS (v : Value) (s : ByteArray) (b : Value) (w : World) (h : NMs w v) : Calls Try.prog 4 #[v, .string s, b] w fun e w' => e = .returned (.tuple #[.slice none 0 0, .int .i64 8]) ∧ w' = w := by
  have HM := hide (isMade_noS v w h)
  clear h
  go_enter Try.func4, Try.ntmps4
  go_wp2_with fail
  refine (unhide HM).mono ?_
  rintro e W ⟨rfl, hw⟩
  rw [hw]
  clear hw W HM
  go_wp2
  go_ret2
  exact ⟨rfl, rfl⟩
theorem Drop_noS (v : Value) (s : ByteArray) (w : World) (h : NMs w v) : Calls Try.prog 6 #[v, .string s] w fun e w' => e = .returned (.tuple #[.slice none 0 0, .int .i64 8]) ∧ w' = w := by
  have HM := hide (isMade_noS v w h)
  clear h
  go_enter Try.func6, Try.ntmps6
  go_wp2_with fail
  refine (unhide HM).mono ?_
  rintro e W ⟨rfl, hw⟩
  rw [hw]
  clear hw W HM
  go_wp2
  go_ret2
  exact ⟨rfl, rfl⟩
theorem Get_noS (v : Value) (s : ByteArray) (w : World) (h : NMs w v) : Calls Try.prog 7 #[v, .string s] w fun e w' => e = .returned (.tuple #[.slice none 0 0, .int .i64 8]) ∧ w' = w := by
  have HM := hide (isMade_noS v w h)
  clear h
  go_enter Try.func7, Try.ntmps7
  go_wp2_with fail
  refine (unhide HM).mono ?_
  rintro e W ⟨rfl, hw⟩
  rw [hw]
  clear hw W HM
  go_wp2
  go_ret2
  exact ⟨rfl, rfl⟩
theorem Image_noS (v : Value)  (w : World) (h : NMs w v) : Calls Try.prog 8 #[v] w fun e w' => e = .returned (.slice none 0 0) ∧ w' = w := by
  have HM := hide (isMade_noS v w h)
  clear h
  go_enter Try.func8, Try.ntmps8
  go_wp2_with fail
  refine (unhide HM).mono ?_
  rintro e W ⟨rfl, hw⟩
  rw [hw]
  clear hw W HM
  go_wp2
  go_ret
  exact ⟨rfl, rfl⟩
theorem Names_noS (v : Value)  (w : World) (h : NMs w v) : Calls Try.prog 9 #[v] w fun e w' => e = .returned (.slice none 0 0) ∧ w' = w := by
  have HM := hide (isMade_noS v w h)
  clear h
  go_enter Try.func9, Try.ntmps9
  go_wp2_with fail
  refine (unhide HM).mono ?_
  rintro e W ⟨rfl, hw⟩
  rw [hw]
  clear hw W HM
  go_wp2
  go_ret
  exact ⟨rfl, rfl⟩
theorem Pack_noS (v : Value)  (w : World) (h : NMs w v) : Calls Try.prog 10 #[v] w fun e w' => e = .returned (.pointer none) ∧ w' = w := by
  have HM := hide (isMade_noS v w h)
  clear h
  go_enter Try.func10, Try.ntmps10
  go_wp2_with fail
  refine (unhide HM).mono ?_
  rintro e W ⟨rfl, hw⟩
  rw [hw]
  clear hw W HM
  go_wp2
  go_ret
  exact ⟨rfl, rfl⟩

/-- Two pointers to stores that no call made, in a row of their own. -/
structure SN (w W : World) (gs gh : Nat) : Prop where
  p0 : W.cell? ⟨gs, 0, none⟩ = some (.pointer none)
  p1 : W.cell? ⟨gs, 1, none⟩ = some (.pointer (some ⟨gh, 0, none⟩))
  m : W.cell? ⟨gh, 2, none⟩ = some (.bool false)
  bel : Below w.heap.size w W
theorem SN.below {w W W' : World} {gs gh : Nat} (h : SN w W gs gh) (hb : Below W.heap.size W W') : SN w W' gs gh :=
  ⟨(hb.cell (p := ⟨gs, 0, none⟩) (World.block_lt_of_cell? W _ h.p0)).trans h.p0, (hb.cell (p := ⟨gs, 1, none⟩) (World.block_lt_of_cell? W _ h.p1)).trans h.p1, (hb.cell (p := ⟨gh, 2, none⟩) (World.block_lt_of_cell? W _ h.m)).trans h.m, h.bel.trans (hb.mono h.bel.size)⟩
theorem SN.at {w W : World} {gs gh : Nat} (h : SN w W gs gh) {k : Nat} (hk : k < 2) : ∃ v, W.cell? ⟨gs, k, none⟩ = some v ∧ NMs W v := by
  rcases (show k = 0 ∨ k = 1 by omega) with rfl | rfl
  · exact ⟨_, h.p0, Or.inl rfl⟩
  · exact ⟨_, h.p1, Or.inr ⟨gh, rfl, h.m⟩⟩

set_option maxRecDepth 20000 in
set_option maxHeartbeats 4000000 in
theorem walkStoreNobody {w : World} (s : ByteArray) (_hs : s.size ≤ maxLen) (_hs2 : s.size ≤ 140737488351232) (ao : Option Addr) (cap : Nat) (l : List UInt8) (h : BAt w ao l) (hn : ao = none → l = []) (hb : l.length ≤ 140737488351232) :
    Calls Try.prog 3 #[.string s, .slice ao l.length cap] w fun e w' => e = .returned (.bool true) ∧ Below w.heap.size w w' := by
  have al1 := (Below.refl w.heap.size w).alloc (Nat.le_refl _) (.cells #[.slice none 0 0, .slice none 0 0, .bool false] 26)
  have n1 := heap_alloc_new w (.cells #[.slice none 0 0, .slice none 0 0, .bool false] 26)
  have HB := hide al1
  have HN1 : Hid ((w.alloc (.cells #[.slice none 0 0, .slice none 0 0, .bool false] 26)).cell? ⟨w.heap.size, 2, none⟩ = some (.bool false)) := hide (by rw [cell_of_row _ _ _ _ _ _ n1]; rfl)
  have HBA := hide h
  have HNN := hide hn
  clear al1 n1 h hn
  go_enter Try.func3, Try.ntmps3
  have al2 := (Below.refl (w.alloc (.cells #[.slice none 0 0, .slice none 0 0, .bool false] 26)).heap.size (w.alloc (.cells #[.slice none 0 0, .slice none 0 0, .bool false] 26))).alloc (Nat.le_refl _) (.cells #[.pointer none, .pointer (some ⟨w.heap.size, 0, none⟩)] 23)
  have n2 := heap_alloc_new (w.alloc (.cells #[.slice none 0 0, .slice none 0 0, .bool false] 26)) (.cells #[.pointer none, .pointer (some ⟨w.heap.size, 0, none⟩)] 23)
  rw [World.size_alloc] at n2
  have HH : Hid (SN w ((w.alloc (.cells #[.slice none 0 0, .slice none 0 0, .bool false] 26)).alloc (.cells #[.pointer none, .pointer (some ⟨w.heap.size, 0, none⟩)] 23)) (w.heap.size + 1) w.heap.size) := hide ⟨by rw [cell_of_row _ _ _ _ _ _ n2]; rfl, by rw [cell_of_row _ _ _ _ _ _ n2]; rfl, (al2.cell (p := ⟨w.heap.size, 2, none⟩) (World.block_lt_of_cell? _ _ (unhide HN1))).trans (unhide HN1), (unhide HB).trans (al2.mono (by simp))⟩
  clear al2 n2 HB HN1
  go_wp2_with fail
  generalize ((w.alloc (.cells #[.slice none 0 0, .slice none 0 0, .bool false] 26)).alloc (.cells #[.pointer none, .pointer (some ⟨w.heap.size, 0, none⟩)] 23)) = W2 at HH ⊢
  obtain ⟨gs, hgs⟩ : ∃ gs, gs = w.heap.size + 1 := ⟨_, rfl⟩
  rw [← hgs] at HH ⊢
  clear hgs
  generalize w.heap.size = gh at HH ⊢
  go_loopw [17] (fun x wr => ∃ k : Nat, k ≤ 2 ∧ x = .int .i64 (k : Int) ∧ Hid (SN w wr gs gh)) (fun x _ => 2 - (intOf x).toNat)
  case atStart => exact ⟨0, by omega, rfl, HH⟩
  case round =>
    clear HH W2
    obtain ⟨k, hk, rfl, HH⟩ := hrel
    by_cases hlt : k < 2
    · have j1 : ((k : Nat) : Int) < 2 := by omega
      have j0 : (0 : Int) ≤ ((k : Nat) : Int) := by omega
      obtain ⟨v, hc, hnm⟩ := (unhide HH).at hlt
      have HV := hide hnm
      have HCl := hide (Clone_any ao cap l wr ((unhide HBA).below' (unhide HH).bel) (unhide HNN) (by omega))
      clear hnm
      go_wp2_with fail
      refine (unhide HCl).mono ?_
      rintro e w1 ⟨vc, rfl, _, hb1, _⟩
      have HH1 := hide ((unhide HH).below hb1)
      have HV1 := hide ((unhide HV).below hb1)
      clear hb1 HH HV HCl hc
      have HH := HH1
      have HV := HV1
      clear HH1 HV1
      go_wp2_with fail
      refine (Put_noS v s vc w1 (unhide HV)).mono ?_
      rintro e V ⟨rfl, hB⟩
      rw [hB]
      clear hB V
      go_wp2_with fail
      refine (Drop_noS v s w1 (unhide HV)).mono ?_
      rintro e V ⟨rfl, hB⟩
      rw [hB]
      clear hB V
      go_wp2_with fail
      refine (Get_noS v s w1 (unhide HV)).mono ?_
      rintro e V ⟨rfl, hB⟩
      rw [hB]
      clear hB V
      go_wp2_with fail
      refine (Image_noS v w1 (unhide HV)).mono ?_
      rintro e V ⟨rfl, hB⟩
      rw [hB]
      clear hB V
      go_wp2_with fail
      refine (Names_noS v w1 (unhide HV)).mono ?_
      rintro e V ⟨rfl, hB⟩
      rw [hB]
      clear hB V
      go_wp2_with fail
      refine (Pack_noS v w1 (unhide HV)).mono ?_
      rintro e V ⟨rfl, hB⟩
      rw [hB]
      clear hB V
      go_wp2
      go_roundw
      case rel => exact ⟨k + 1, by omega, by go_num, HH⟩
      case measure => simp [intOf]; omega
    · have j1 : ¬ ((k : Nat) : Int) < 2 := by omega
      go_wp2
      go_ret
      exact ⟨rfl, (unhide HH).bel⟩
end Go.Proofs.Ytmhilffaeighnab
