/-
  The words and marks of a source text, plainly; the contracts of lex.Word, lex.Kind and of the reference's. Conditions: the words lie there.
-/
import Derived.Test.YtgnipgcligmpiaaDoorMem
import Derived.Great.BuildSlice
import Derived.Laws.Rows
import Derived.Laws.Tables
import Derived.Deep.Cut
import Derived.Deep.DeepCutAuto
namespace Go.Proofs.YtgnipgcligmpiaaDoor
open Go.RowKit
set_option maxRecDepth 20000

def spL : List ByteArray := [⟨#[]⟩, ⟨#[]⟩, ⟨#[]⟩, ⟨#[97, 110, 121]⟩, ⟨#[97, 115]⟩, ⟨#[98, 111, 111, 108]⟩, ⟨#[98, 114, 101, 97, 107]⟩, ⟨#[99, 111, 110, 116, 105, 110, 117, 101]⟩, ⟨#[101, 108, 115, 101]⟩, ⟨#[102, 97, 105, 108]⟩, ⟨#[102, 97, 108, 115, 101]⟩, ⟨#[102, 117, 110]⟩, ⟨#[105, 102]⟩, ⟨#[105, 110, 116]⟩, ⟨#[105, 110, 116, 115]⟩, ⟨#[105, 115]⟩, ⟨#[108, 101, 110]⟩, ⟨#[110, 101, 119]⟩, ⟨#[110, 117, 108, 108]⟩, ⟨#[114, 101, 99, 111, 114, 100]⟩, ⟨#[114, 101, 116, 117, 114, 110]⟩, ⟨#[116, 101, 108, 108]⟩, ⟨#[116, 114, 117, 101]⟩, ⟨#[118, 97, 114]⟩, ⟨#[119, 104, 105, 108, 101]⟩, ⟨#[40]⟩, ⟨#[41]⟩, ⟨#[123]⟩, ⟨#[125]⟩, ⟨#[91]⟩, ⟨#[93]⟩, ⟨#[44]⟩, ⟨#[59]⟩, ⟨#[58]⟩, ⟨#[46]⟩, ⟨#[61]⟩, ⟨#[61, 61]⟩, ⟨#[33, 61]⟩, ⟨#[33]⟩, ⟨#[60]⟩, ⟨#[60, 61]⟩, ⟨#[62]⟩, ⟨#[62, 61]⟩, ⟨#[43]⟩, ⟨#[45]⟩, ⟨#[42]⟩, ⟨#[47]⟩, ⟨#[37]⟩, ⟨#[38, 38]⟩, ⟨#[124, 124]⟩]
def wK (k : Nat) : ByteArray := spL.getD k ⟨#[]⟩
def wA50 : Array Value := (spL.map Value.string).toArray
theorem wA50_at (i : Nat) (h : i < 50) : wA50[i]? = some (.string (wK i)) := by
  have hl : spL.length = 50 := rfl
  unfold wA50 wK
  rw [List.getElem?_toArray, List.getElem?_map, List.getElem?_eq_getElem (by omega), List.getD_eq_getElem?_getD, List.getElem?_eq_getElem (by omega)]
  rfl
/-- The package's words lie there. -/
def SpAt (W : World) : Prop := ∃ t fr, W.heap[0]? = some (.cells wA50 t fr)
theorem SpAt.below {W w : World} (h : SpAt W) (hb : Below W.heap.size W w) : SpAt w := by
  obtain ⟨t, fr, h⟩ := h
  exact ⟨t, fr, (hb.block _ (Array.getElem?_eq_some_iff.1 h).1).trans h⟩
theorem SpAt.cell {W : World} (h : SpAt W) (i : Nat) (hi : i < 50) : W.cell? ⟨0, i, none⟩ = some (.string (wK i)) := by
  obtain ⟨t, fr, h1⟩ := h
  rw [cell_of_row _ _ _ _ _ _ h1]
  exact wA50_at i hi
/-- The text of a kind. -/
def wdK (k : Int) : ByteArray := if 0 ≤ k ∧ k < 50 then wK k.toNat else ⟨#[]⟩
/-- The first of some texts that is this one. -/
def findK : List ByteArray → ByteArray → Nat → Nat × Bool
  | [], _, _ => (0, false)
  | x :: l, s, i => if (x.toList == s.toList) = true then (i, true) else findK l s (i + 1)
def kdD (s : ByteArray) : Nat × Bool := findK (spL.drop 3) s 3
theorem drop_wK (k : Nat) (h : k < 50) : spL.drop k = wK k :: spL.drop (k + 1) := by
  have hl : k < spL.length := h
  have e : wK k = spL[k]'hl := by unfold wK; rw [List.getD_eq_getElem?_getD, List.getElem?_eq_getElem hl]; rfl
  rw [e]
  exact List.drop_eq_getElem_cons hl
theorem findK_yes (s : ByteArray) (k : Nat) (h : k < 50) (hb : ((wK k).toList == s.toList) = true) : findK (spL.drop k) s k = (k, true) := by
  rw [drop_wK k h, findK, if_pos hb]
theorem findK_no (s : ByteArray) (k : Nat) (h : k < 50) (hb : ((wK k).toList == s.toList) = false) : findK (spL.drop k) s k = findK (spL.drop (k + 1)) s (k + 1) := by
  rw [drop_wK k h, findK, if_neg (by rw [hb]; simp)]
theorem findK_end (s : ByteArray) : findK (spL.drop 50) s 50 = (0, false) := by
  rw [List.drop_eq_nil_of_le (by decide)]; rfl

theorem Word_any (k : Int) (w : World) (hW : SpAt w) : Calls Tryd.prog 23 #[.int .i64 k] w fun e w' => e = .returned (.string (wdK k)) ∧ w' = w := by
  by_cases h0 : k < 0
  · have HR : Hid (wdK k = ⟨#[]⟩) := hide (by unfold wdK; rw [if_neg (by omega)])
    clear hW
    go_enter Tryd.func23, Tryd.ntmps23
    go_wp2
    go_ret
    exact ⟨by rw [unhide HR]; rfl, rfl⟩
  · by_cases h5 : k ≥ 50
    · have HR : Hid (wdK k = ⟨#[]⟩) := hide (by unfold wdK; rw [if_neg (by omega)])
      clear hW
      go_enter Tryd.func23, Tryd.ntmps23
      go_wp2
      go_ret
      exact ⟨by rw [unhide HR]; rfl, rfl⟩
    · obtain ⟨n, rfl⟩ : ∃ n : Nat, k = (n : Int) := ⟨k.toNat, by omega⟩
      have hn : n < 50 := by omega
      have i1 : ((n : Nat) : Int) < 50 := by omega
      have HR : Hid (wdK (n : Int) = wK n) := hide (by unfold wdK; rw [if_pos (by omega), Int.toNat_natCast])
      have c0 := hW.cell n hn
      generalize wK n = z at c0 HR
      clear hW
      go_enter Tryd.func23, Tryd.ntmps23
      go_wp2
      go_ret
      exact ⟨by rw [unhide HR]; rfl, rfl⟩

set_option maxHeartbeats 1000000 in
theorem Kind_any (s : ByteArray) (w : World) (hW : SpAt w) : Calls Tryd.prog 40 #[.string s] w fun e w' => e = .returned (.tuple #[.int .i64 ((kdD s).1 : Int), .bool (kdD s).2]) ∧ w' = w := by
  have HW := hide hW
  clear hW
  go_enter Tryd.func40, Tryd.ntmps40
  go_wp2
  go_loopw [4] (fun i wr => ∃ k : Nat, 3 ≤ k ∧ k ≤ 50 ∧ i = .int .i64 (k : Int) ∧ Hid (findK (spL.drop k) s k = kdD s) ∧ wr = w) (fun i _ => 50 - (intOf i).toNat)
  case atStart => exact ⟨3, by omega, by omega, rfl, hide rfl, rfl⟩
  case round =>
    obtain ⟨k, hk3, hk, rfl, HE, rfl⟩ := hrel
    by_cases hlt : k < 50
    · have i1 : ((k : Nat) : Int) < 50 := by omega
      have c0 := (unhide HW).cell k hlt
      cases hb : ((wK k).toList == s.toList)
      · have HE2 : Hid (findK (spL.drop (k + 1)) s (k + 1) = kdD s) := hide (by rw [← findK_no s k hlt hb]; exact unhide HE)
        clear HE
        generalize wK k = z at hb c0
        go_wp2
        go_roundw
        case rel => exact ⟨k + 1, by omega, by omega, by go_num, HE2, trivial⟩
        case measure => simp [intOf]; omega
      · have HR : Hid (kdD s = (k, true)) := hide (by rw [← unhide HE]; exact findK_yes s k hlt hb)
        clear HE
        generalize wK k = z at hb c0
        go_wp2
        go_ret2
        exact ⟨by rw [unhide HR]; rfl, rfl⟩
    · have i1 : ¬ ((k : Nat) : Int) < 50 := by omega
      have HR : Hid (kdD s = (0, false)) := hide (by rw [← unhide HE, show k = 50 by omega]; exact findK_end s)
      go_wp2
      go_ret2
      exact ⟨by rw [unhide HR]; rfl, rfl⟩

theorem infoS : (Tryd.prog.info? 9).map (fun i => (i.zero, i.size, i.bytes)) = some (some (.string ⟨#[]⟩), 1, 16) := by kernel_rfl
def wA22 : Array Value := (((spL.drop 3).take 22).map Value.string).toArray
def wA25 : Array Value := ((spL.drop 25).map Value.string).toArray
theorem wA22_at (i : Nat) (h : i < 22) : wA22[i]? = some (.string (wK (3 + i))) := by
  have hl : spL.length = 50 := rfl
  unfold wA22 wK
  rw [List.getElem?_toArray, List.getElem?_map, List.getElem?_take_of_lt h, List.getElem?_drop, List.getElem?_eq_getElem (by omega), List.getD_eq_getElem?_getD, List.getElem?_eq_getElem (by omega)]
  rfl
theorem wA25_at (i : Nat) (h : i < 25) : wA25[i]? = some (.string (wK (25 + i))) := by
  have hl : spL.length = 50 := rfl
  unfold wA25 wK
  rw [List.getElem?_toArray, List.getElem?_map, List.getElem?_drop, List.getElem?_eq_getElem (by omega), List.getD_eq_getElem?_getD, List.getElem?_eq_getElem (by omega)]
  rfl

set_option maxRecDepth 100000 in
set_option maxHeartbeats 2000000 in
theorem refWord_any (k : Int) (w : World) (hk : -9223372036854775808 ≤ k ∧ k ≤ 9223372036854775807) : Calls Tryd.prog 43 #[.int .i64 k] w fun e w' => e = .returned (.string (wdK k)) ∧ Below w.heap.size w w' := by
  obtain ⟨ie, hie, hz0, hz1, _⟩ := info_parts infoS
  have HB : Hid (Below w.heap.size w ((w.alloc (.cells wA22 9)).alloc (.cells wA25 9))) := hide (((Below.refl _ _).alloc (Nat.le_refl _) _).alloc (by simp) _)
  have n1 := heap_alloc_new w (.cells wA22 9)
  have n2 := heap_alloc_new (w.alloc (.cells wA22 9)) (.cells wA25 9)
  rw [World.size_alloc] at n2
  have n1' : ((w.alloc (.cells wA22 9)).alloc (.cells wA25 9)).heap[w.heap.size]? = some (.cells wA22 9 (0, 0)) := (((Below.refl (w.alloc (.cells wA22 9)).heap.size _).alloc (Nat.le_refl _) _).block w.heap.size (by simp)).trans n1
  have HC1 : Hid (∀ i, i < 22 → ((w.alloc (.cells wA22 9)).alloc (.cells wA25 9)).cell? ⟨w.heap.size, i, none⟩ = some (.string (wK (3 + i)))) := hide (fun i hi => by rw [cell_of_row _ _ _ _ _ _ n1']; exact wA22_at i hi)
  have HC2 : Hid (∀ i, i < 25 → ((w.alloc (.cells wA22 9)).alloc (.cells wA25 9)).cell? ⟨w.heap.size + 1, i, none⟩ = some (.string (wK (25 + i)))) := hide (fun i hi => by rw [cell_of_row _ _ _ _ _ _ n2]; exact wA25_at i hi)
  clear n1 n2 n1'
  go_enter Tryd.func43, Tryd.ntmps43
  go_upto_region 3 with (first | (refine wpList_buildSlice rfl 40 9 22 _ rfl wA22 ie (.string ⟨#[]⟩) Tryd.underlying40 hie hz0 (by rw [hz1]; decide) (by rw [hz1]; decide) (by rw [hz1]; kernel_rfl) ?_) | (refine wpList_buildSlice rfl 40 9 25 _ rfl wA25 ie (.string ⟨#[]⟩) Tryd.underlying40 hie hz0 (by rw [hz1]; decide) (by rw [hz1]; decide) (by rw [hz1]; kernel_rfl) ?_))
  generalize (w.alloc (.cells wA22 9)).alloc (.cells wA25 9) = W at HB HC1 HC2 ⊢
  by_cases h3 : k ≥ 3
  · by_cases h25 : k < 25
    · obtain ⟨m, e1⟩ : ∃ m : Nat, k - 3 = (m : Int) := ⟨(k - 3).toNat, by omega⟩
      have HR : Hid (wdK k = wK (3 + m)) := hide (by unfold wdK; rw [if_pos (by omega), show k.toNat = 3 + m by omega])
      have c0 := unhide HC1 m (by omega)
      have i1 : ((m : Nat) : Int) < 22 := by omega
      have i2 : ((m : Nat) : Int) < ((22 : Nat) : Int) := by omega
      generalize wK (3 + m) = z at c0 HR
      go_wp2
      go_ret
      exact ⟨by rw [unhide HR]; rfl, unhide HB⟩
    · have h25' : k ≥ 25 := by omega
      by_cases h50 : k < 50
      · obtain ⟨m, e1⟩ : ∃ m : Nat, k - 25 = (m : Int) := ⟨(k - 25).toNat, by omega⟩
        have HR : Hid (wdK k = wK (25 + m)) := hide (by unfold wdK; rw [if_pos (by omega), show k.toNat = 25 + m by omega])
        have c0 := unhide HC2 m (by omega)
        have i1 : ((m : Nat) : Int) < 25 := by omega
        have i2 : ((m : Nat) : Int) < ((25 : Nat) : Int) := by omega
        generalize wK (25 + m) = z at c0 HR
        go_wp2
        go_ret
        exact ⟨by rw [unhide HR]; rfl, unhide HB⟩
      · have HR : Hid (wdK k = ⟨#[]⟩) := hide (by unfold wdK; rw [if_neg (by omega)])
        go_wp2
        go_ret
        exact ⟨by rw [unhide HR]; rfl, unhide HB⟩
  · have h25' : ¬ k ≥ 25 := by omega
    have HR : Hid (wdK k = ⟨#[]⟩) := hide (by
      unfold wdK
      by_cases h0 : 0 ≤ k ∧ k < 50
      · rw [if_pos h0]
        rcases (show k = 0 ∨ k = 1 ∨ k = 2 by omega) with rfl | rfl | rfl <;> rfl
      · rw [if_neg h0])
    go_wp2
    go_ret
    exact ⟨by rw [unhide HR]; rfl, unhide HB⟩

set_option maxHeartbeats 1000000 in
theorem refKind_any (s : ByteArray) (w : World) : Calls Tryd.prog 33 #[.string s] w fun e w' => e = .returned (.tuple #[.int .i64 ((kdD s).1 : Int), .bool (kdD s).2]) ∧ Below w.heap.size w w' := by
  go_enter Tryd.func33, Tryd.ntmps33
  go_wp2
  go_loopw [4] (fun i wr => ∃ k : Nat, 3 ≤ k ∧ k ≤ 50 ∧ i = .int .i64 (k : Int) ∧ Hid (findK (spL.drop k) s k = kdD s) ∧ Hid (Below w.heap.size w wr)) (fun i _ => 50 - (intOf i).toNat)
  case atStart => exact ⟨3, by omega, by omega, rfl, hide rfl, hide (Below.refl _ _)⟩
  case round =>
    obtain ⟨k, hk3, hk, rfl, HE, HB⟩ := hrel
    by_cases hlt : k < 50
    · have i1 : ((k : Nat) : Int) < 50 := by omega
      have HN : Hid (wdK (k : Int) = wK k) := hide (by unfold wdK; rw [if_pos (by omega), Int.toNat_natCast])
      go_wp2_with fail
      with_reducible refine (refWord_any (k : Int) _ (by omega)).mono ?_
      rintro e w2 ⟨rfl, hB2⟩
      have HB2 : Hid (Below w.heap.size w w2) := hide ((unhide HB).trans (hB2.mono (unhide HB).size))
      clear hB2 HB
      rw [unhide HN]
      cases hb : ((wK k).toList == s.toList)
      · have HE2 : Hid (findK (spL.drop (k + 1)) s (k + 1) = kdD s) := hide (by rw [← findK_no s k hlt hb]; exact unhide HE)
        clear HE HN
        generalize wK k = z at hb ⊢
        go_wp2
        go_roundw
        case rel => exact ⟨k + 1, by omega, by omega, by go_num, HE2, HB2⟩
        case measure => simp [intOf]; omega
      · have HR : Hid (kdD s = (k, true)) := hide (by rw [← unhide HE]; exact findK_yes s k hlt hb)
        clear HE HN
        generalize wK k = z at hb ⊢
        go_wp2
        go_ret2
        exact ⟨by rw [unhide HR]; rfl, unhide HB2⟩
    · have i1 : ¬ ((k : Nat) : Int) < 50 := by omega
      have HR : Hid (kdD s = (0, false)) := hide (by rw [← unhide HE, show k = 50 by omega]; exact findK_end s)
      go_wp2
      go_ret2
      exact ⟨by rw [unhide HR]; rfl, unhide HB⟩
end Go.Proofs.YtgnipgcligmpiaaDoor
