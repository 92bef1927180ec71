/-
  Contracts of wire.sumRound, wire.makeSumWords, wire.Sum and provisoref01.Sum: both sums are the same plain function of the bytes ('sumOf'). Conditions: lengths fit.
-/
import Derived.Test.YtibgfdjopikafaaGreatDoorCrcW
import Derived.Laws.CopyOwn
namespace Go.Proofs.YtibgfdjopikafaaGreatDoor
open Go.RowKit
set_option maxRecDepth 20000

theorem ret_u32 {k : IntKind} {a b : Int} (h : a = b) : Ending.returned (.int k a) = .returned (.int k b) := by rw [h]

theorem sumRound_any (c : Nat) (w : World) (hc : c < 4294967296) :
    Calls Tryz.prog 121 #[.int .u32 (c : Int)] w fun e w' => e = .returned (.int .u32 ((rnd c : Nat) : Int)) ∧ w' = w := by
  by_cases ho : c % 2 = 1
  · have h : ((c : Int) % 2 == 1) = true := beq_t (by omega)
    have HB := hide (bits_half c hc ho)
    go_enter Tryz.func121, Tryz.ntmps121
    go_wp2
    go_ret
    exact ⟨ret_u32 (unhide HB), rfl⟩
  · have h : ((c : Int) % 2 == 1) = false := beq_f (by omega)
    have HB := hide (even_half c ho)
    go_enter Tryz.func121, Tryz.ntmps121
    go_wp2
    go_ret
    exact ⟨ret_u32 (unhide HB), rfl⟩

set_option maxHeartbeats 1000000 in
theorem refSum_any (ao : Option Addr) (cap : Nat) (l : List UInt8) (w : World) (h : BAt w ao l) (hl : l.length ≤ 140737488355328) :
    Calls Tryz.prog 61 #[.slice ao l.length cap] w fun e w' => e = .returned (.int .i64 ((sumOf l : Nat) : Int)) ∧ w' = w := by
  go_enter Tryz.func61, Tryz.ntmps61
  go_wp2
  go_loop [3, 10] (fun c i => ∃ k C : Nat, k ≤ l.length ∧ i = .int .i64 k ∧ c = .int .u32 (C : Int) ∧ C < 4294967296 ∧ Hid (C = upTo l k)) (fun _ i => l.length - (intOf i).toNat)
  case atStart => exact ⟨0, 4294967295, by omega, rfl, rfl, by omega, hide (upTo_zero l).symm⟩
  case round =>
    obtain ⟨k, C, hk, rfl, rfl, hC, HC⟩ := hrel
    by_cases hlt : k < l.length
    · obtain ⟨b, off, rfl, hc⟩ := h.head (by omega)
      have c1 := hc k hlt
      have lo := at8_lo l k
      have hi := at8_hi l k
      have i1 : ((k : Nat) : Int) < ((l.length : Nat) : Int) := by omega
      have hx := bits_byte C l k hC
      obtain ⟨D, hD⟩ : ∃ D, D = C ^^^ (l.getD k 0).toNat := ⟨_, rfl⟩
      rw [← hD] at hx
      have hDlt : D < 4294967296 := by rw [hD]; exact xor_lt hC (by have := (l.getD k 0).toNat_lt; omega)
      have HU : Hid (upTo l (k + 1) = rndN 8 D) := hide (by rw [upTo_succ l k hlt, ← unhide HC, hD]; rfl)
      clear hc h hD
      go_wp2
      go_loop [3, 6] (fun c j => ∃ m E : Nat, m ≤ 8 ∧ j = .int .i64 m ∧ c = .int .u32 (E : Int) ∧ E < 4294967296 ∧ Hid (E = rndN m D)) (fun _ j => 8 - (intOf j).toNat)
      case atStart => exact ⟨0, D, by omega, rfl, rfl, hDlt, hide rfl⟩
      case round =>
        obtain ⟨m, E, hm, rfl, rfl, hE, HE⟩ := hrel
        by_cases hm8 : m < 8
        · have HE1 : Hid (rnd E = rndN (m + 1) D) := hide (by rw [unhide HE]; rfl)
          have hr := rnd_lt hE
          by_cases ho : E % 2 = 1
          · have h2 : ((E : Int) % 2 == 1) = true := beq_t (by omega)
            have HB := hide (bits_half E hE ho)
            go_wp2
            go_round
            case rel => exact ⟨m + 1, rnd E, by omega, by go_num, val_int (unhide HB), hr, HE1⟩
            case measure => simp [intOf]; omega
          · have h2 : ((E : Int) % 2 == 1) = false := beq_f (by omega)
            have HB := hide (even_half E ho)
            go_wp2
            go_round
            case rel => exact ⟨m + 1, rnd E, by omega, by go_num, val_int (unhide HB), hr, HE1⟩
            case measure => simp [intOf]; omega
        · have HF : Hid (E = upTo l (k + 1)) := hide (by
            rw [unhide HU, unhide HE, show m = 8 from by omega])
          go_wp2
          go_round
          case rel => exact ⟨k + 1, E, by omega, by go_num, rfl, hE, HF⟩
          case measure => simp [intOf]; omega
    · have HF : Hid (bits .xor .u32 (C : Int) 4294967295 = ((sumOf l : Nat) : Int)) := hide (by
        rw [bits_end C hC, unhide HC, show k = l.length from by omega]; rfl)
      have hb : ∃ z : Nat, bits .xor .u32 (C : Int) 4294967295 = (z : Int) ∧ z < 4294967296 ∧ Hid (z = sumOf l) := ⟨_, unhide HF, sumOf_lt l, hide rfl⟩
      obtain ⟨z, hz, hzl, HZ⟩ := hb
      go_wp2
      go_ret
      exact ⟨ret_u32 (by rw [unhide HZ]), rfl⟩

/-- The table when k words stand. -/
def tabL (k : Nat) : List Value := (List.range 16).map fun i => Value.int .u32 ((if i < k then rndN 4 i else 0 : Nat) : Int)
def tabA (k : Nat) : Array Value := (tabL k).toArray

theorem tab_get (k i : Nat) (hi : i < 16) : (tabA k)[i]? = some (.int .u32 ((if i < k then rndN 4 i else 0 : Nat) : Int)) := by
  simp [tabA, tabL, hi]
theorem tab_size (k : Nat) : (tabA k).size = 16 := by simp [tabA, tabL]
theorem tab_next (k : Nat) (hk : k < 16) : (tabA k).setIfInBounds k (.int .u32 ((rndN 4 k : Nat) : Int)) = tabA (k + 1) := by
  apply Array.ext'
  apply List.ext_getElem?
  intro i
  rw [Array.getElem?_toList, Array.getElem?_toList, Array.getElem?_setIfInBounds, tab_size]
  by_cases hi : i < 16
  · rw [tab_get (k + 1) i hi]
    by_cases e : k = i
    · subst e; simp [hk]
    · rw [if_neg e, tab_get k i hi]
      by_cases h : i < k
      · rw [if_pos h, if_pos (by omega)]
      · rw [if_neg h, if_neg (by omega)]
  · have h1 : k ≠ i := by omega
    rw [if_neg h1, Array.getElem?_eq_none (by rw [tab_size]; omega), Array.getElem?_eq_none (by rw [tab_size]; omega)]
def zeros : Array Value := #[Value.int IntKind.u32 0, Value.int IntKind.u32 0, Value.int IntKind.u32 0, Value.int IntKind.u32 0,
          Value.int IntKind.u32 0, Value.int IntKind.u32 0, Value.int IntKind.u32 0, Value.int IntKind.u32 0,
          Value.int IntKind.u32 0, Value.int IntKind.u32 0, Value.int IntKind.u32 0, Value.int IntKind.u32 0,
          Value.int IntKind.u32 0, Value.int IntKind.u32 0, Value.int IntKind.u32 0, Value.int IntKind.u32 0]
theorem zeros_eq : #[Value.int IntKind.u32 0, Value.int IntKind.u32 0, Value.int IntKind.u32 0, Value.int IntKind.u32 0,
          Value.int IntKind.u32 0, Value.int IntKind.u32 0, Value.int IntKind.u32 0, Value.int IntKind.u32 0,
          Value.int IntKind.u32 0, Value.int IntKind.u32 0, Value.int IntKind.u32 0, Value.int IntKind.u32 0,
          Value.int IntKind.u32 0, Value.int IntKind.u32 0, Value.int IntKind.u32 0, Value.int IntKind.u32 0] = zeros := rfl
theorem tab_zero : zeros = tabA 0 := by rfl

theorem size90 : (Tryz.prog.info? 142).map (·.size) = some (tabA 16).size := by kernel_rfl
theorem tab_one : (tabA 16).all (·.oneCell') = true := by kernel_rfl

set_option maxHeartbeats 1000000 in
theorem make_any (w : World) :
    Calls Tryz.prog 96 #[] w fun e w' => e = .returned (.agg (tabA 16)) ∧ Below w.heap.size w w' := by
  go_enter Tryz.func96, Tryz.ntmps96
  go_wp2
  go_loopw [4] (fun i wr => ∃ k : Nat, k ≤ 16 ∧ i = .int .i64 k ∧ wr = (w.alloc (.cells zeros 142)).alloc (.cells (tabA k) 142)) (fun i _ => 16 - (intOf i).toNat)
  case atStart => exact ⟨0, by omega, rfl, by rw [← tab_zero]; rfl⟩
  case round =>
    obtain ⟨k, hk, rfl, rfl⟩ := hrel
    by_cases hlt : k < 16
    · have hc := tab_get k k hlt
      rw [if_neg (by omega)] at hc
      have hn := tab_next k hlt
      have hs := tab_size k
      have hk16 : decide ((k : Int) < 16) = true := decide_eq_true (by omega)
      have hk32 : IntKind.u32.wrap (k : Int) = (k : Int) := by simp [IntKind.wrap, IntKind.bits, IntKind.signed]; omega
      go_wp2
      go_loopw [3, 9] (fun c j wr => ∃ m E : Nat, m ≤ 4 ∧ j = .int .i64 m ∧ c = .int .u32 (E : Int) ∧ E < 4294967296 ∧ Hid (E = rndN m k) ∧ wr = (w.alloc (.cells zeros 142)).alloc (.cells (tabA k) 142)) (fun _ j _ => 4 - (intOf j).toNat)
      case atStart => exact ⟨0, k, by omega, rfl, rfl, by omega, hide rfl, rfl⟩
      case round =>
        obtain ⟨m, E, hm, rfl, rfl, hE, HE, rfl⟩ := hrel
        by_cases hm4 : m < 4
        · have HE1 : Hid (rnd E = rndN (m + 1) k) := hide (by rw [unhide HE]; rfl)
          have hr := rnd_lt hE
          go_wp2_with (go_at_call 121; refine (sumRound_any _ _ hE).mono ?_; rintro e w' ⟨rfl, rfl⟩)
          go_roundw
          case rel => exact ⟨m + 1, rnd E, by omega, by go_num, rfl, hr, HE1, by trivial⟩
          case measure => simp [intOf]; omega
        · obtain rfl : E = rndN 4 k := by rw [unhide HE, show m = 4 from by omega]
          go_wp2
          go_roundw
          case rel => exact ⟨k + 1, by omega, by go_num, rfl⟩
          case measure => simp [intOf]; omega
    · obtain rfl : k = 16 := by omega
      have hrow1 : ((w.alloc (.cells zeros 142)).alloc (.cells (tabA 16) 142)).heap[w.heap.size + 1]? = some (.cells (tabA 16) 142 (0, 0)) := by
        have := heap_alloc_new (w.alloc (.cells zeros 142)) (.cells (tabA 16) 142)
        rw [World.size_alloc] at this
        exact this
      have hrow0 : ((w.alloc (.cells zeros 142)).alloc (.cells (tabA 16) 142)).heap[w.heap.size]? = some (.cells zeros 142 (0, 0)) := by
        rw [Below.heap_alloc _ _ _ (by simp)]
        exact heap_alloc_new w _
      have H0 := hide hrow0
      have H1 := hide hrow1
      clear hrow0 hrow1
      go_wp2_with (first | (refine wpList_load_row rfl 142 _ rfl (w.heap.size + 1) rfl 142 (tabA 16) (0, 0) _ (unhide H1) Tryz.underlying142 rfl size90 ?_) | (refine wpList_store_row rfl 142 _ _ rfl w.heap.size (tabA 16) rfl rfl 142 zeros (unhide H0) size90 rfl tab_one ?_))
      have hb : Below w.heap.size w ((w.alloc (.cells zeros 142)).alloc (.cells (tabA 16) 142)) := ((Below.refl _ w).alloc (Nat.le_refl _) _).alloc (by simp) _
      exact bodyPost_ret (v := .agg (tabA 16)) (results_cell_row rfl _ _ w.heap.size 142 (tabA 16) (0, 0) _ rfl (setRow_heap _ _ _ _ _ _ (unhide H0)) Tryz.underlying142 rfl size90) rfl ⟨rfl, below_setRow hb (Nat.le_refl _) _⟩

set_option maxHeartbeats 1000000 in
theorem Sum_any (ao : Option Addr) (cap : Nat) (l : List UInt8) (w : World) (h : BAt w ao l) (hl : l.length ≤ 140737488355328) :
    Calls Tryz.prog 55 #[.slice ao l.length cap] w fun e w' => e = .returned (.int .i64 ((sumOf l : Nat) : Int)) ∧ Below w.heap.size w w' := by
  go_enter Tryz.func55, Tryz.ntmps55
  go_wp2_with fail
  refine (make_any _).mono ?_
  rintro e w1 ⟨rfl, hb1⟩
  have H0 : Hid ((w1.alloc (.cells zeros 142)).heap[w1.heap.size]? = some (.cells zeros 142 (0, 0))) := hide (heap_alloc_new w1 _)
  go_wp2_with (refine wpList_store_row rfl 142 _ _ rfl w1.heap.size (tabA 16) rfl rfl 142 zeros (unhide H0) size90 rfl tab_one ?_)
  have hB : Below w.heap.size w ((w1.alloc (.cells zeros 142)).setRow w1.heap.size (tabA 16)) := below_setRow (hb1.alloc hb1.size _) hb1.size _
  have hrow : ((w1.alloc (.cells zeros 142)).setRow w1.heap.size (tabA 16)).heap[w1.heap.size]? = some (.cells (tabA 16) 142 (0, 0)) := setRow_heap _ _ _ _ _ _ (unhide H0)
  have hcw : ∀ i, i < 16 → ((w1.alloc (.cells zeros 142)).setRow w1.heap.size (tabA 16)).cell? ⟨w1.heap.size, i, none⟩ = some (.int .u32 ((rndN 4 i : Nat) : Int)) := by
    intro i hi
    rw [cell_of_row _ _ _ _ _ _ hrow, tab_get 16 i hi, if_pos hi]
  have hbat : BAt ((w1.alloc (.cells zeros 142)).setRow w1.heap.size (tabA 16)) ao l := h.below' hB
  rw [zeros_eq]
  generalize ((w1.alloc (.cells zeros 142)).setRow w1.heap.size (tabA 16)) = W2 at hB hrow hcw hbat ⊢
  generalize w1.heap.size = g at hrow hcw ⊢
  clear hrow H0 hb1 h
  have HB := hide hB
  have HW := hide hcw
  clear hB hcw
  go_wp2
  go_loop [4, 10] (fun c i => ∃ k C : Nat, k ≤ l.length ∧ i = .int .i64 k ∧ c = .int .u32 (C : Int) ∧ C < 4294967296 ∧ Hid (C = upTo l k)) (fun _ i => l.length - (intOf i).toNat)
  case atStart => exact ⟨0, 4294967295, by omega, rfl, rfl, by omega, hide (upTo_zero l).symm⟩
  case round =>
    obtain ⟨k, C, hk, rfl, rfl, hC, HC⟩ := hrel
    by_cases hlt : k < l.length
    · obtain ⟨b, off, rfl, hc⟩ := hbat.head (by omega)
      have c1 := hc k hlt
      have lo := at8_lo l k
      have hi := at8_hi l k
      have i1 : ((k : Nat) : Int) < ((l.length : Nat) : Int) := by omega
      have hx := bits_byte C l k hC
      obtain ⟨D, hD⟩ : ∃ D, D = C ^^^ (l.getD k 0).toNat := ⟨_, rfl⟩
      rw [← hD] at hx
      have hDlt : D < 4294967296 := by rw [hD]; exact xor_lt hC (by have := (l.getD k 0).toNat_lt; omega)
      have HU : Hid (upTo l (k + 1) = rndN 4 (rndN 4 D)) := hide (by rw [upTo_succ l k hlt, ← unhide HC, eat_two, hD])
      have w1c := unhide HW (D % 16) (by omega)
      have hb1 := bits_word D hDlt
      have hElt := rndN_lt 4 hDlt
      generalize rndN 4 D = E at hb1 hElt HU
      have w2c := unhide HW (E % 16) (by omega)
      have hb2 := bits_word E hElt
      have hFlt := rndN_lt 4 hElt
      generalize rndN 4 E = F at hb2 hFlt HU
      clear hc hbat hD
      go_wp2
      go_round
      case rel => exact ⟨k + 1, F, by omega, by go_num, rfl, hFlt, hide (unhide HU).symm⟩
      case measure => simp [intOf]; omega
    · have HF : Hid (bits .xor .u32 (C : Int) 4294967295 = ((sumOf l : Nat) : Int)) := hide (by
        rw [bits_end C hC, unhide HC, show k = l.length from by omega]; rfl)
      have hb : ∃ z : Nat, bits .xor .u32 (C : Int) 4294967295 = (z : Int) ∧ z < 4294967296 ∧ Hid (z = sumOf l) := ⟨_, unhide HF, sumOf_lt l, hide rfl⟩
      obtain ⟨z, hz, hzl, HZ⟩ := hb
      go_wp2
      go_ret
      exact ⟨ret_u32 (by rw [unhide HZ]), unhide HB⟩
end Go.Proofs.YtibgfdjopikafaaGreatDoor
