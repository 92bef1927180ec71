/-
  Contracts of types.Rank and highestRef: what the plain functions say; nothing old is turned. Conditions: types are bytes; the table fits.
-/
import Derived.Test.YtelbajcfdecaoaaDoorMerge
namespace Go.Proofs.YtelbajcfdecaoaaDoor
open Go.RowKit Go.Shelf
set_option maxRecDepth 20000
attribute [local go_sem] Oper.semAt_some

theorem lineB_length (T : List Cl) : ∀ (n bel : Nat) (c : Int), bel ≤ n → (lineB T bel c).length ≤ bel
  | 0, bel, c, hn => by rw [lineB_out (by omega)]; simp
  | n + 1, bel, c, hn => by
    by_cases hc : 0 ≤ c ∧ c < (bel : Int)
    · obtain ⟨k, rfl⟩ : ∃ k : Nat, c = (k : Int) := ⟨c.toNat, by omega⟩
      rw [lineB_in (by omega), List.length_cons]
      have := lineB_length T n k (parD T k) (by omega)
      omega
    · rw [lineB_out hc]; simp

/-- The rank of what is neither null nor a row of numbers. -/
def rankP (T : List Cl) (t : Nat) : Nat := if (!validD T.length t || t == 0) = true then 0 else 1 + (lineB T T.length ((t : Int) - 16)).length

set_option maxRecDepth 100000 in
set_option maxHeartbeats 4000000 in
theorem Rank_plain (ao : Option Addr) (cap : Nat) (T : List Cl) (t : Nat) (w : World) (hT : TabAt w ao T) (hz : T.length * 48 ≤ 140737488351232) (ht : t < 256) (h3 : t ≠ 3) (h4 : t ≠ 4) :
    Calls Tryd.prog 46 #[.slice ao T.length cap, .int .u8 (t : Int)] w fun e w' => e = .returned (.int .i64 ((rankP T t : Nat) : Int)) ∧ Below w.heap.size w w' := by
  have b3 : (((t : Nat) : Int) == 3) = false := beq_f (by omega)
  have b4 : (((t : Nat) : Int) == 4) = false := beq_f (by omega)
  have HLn : Hid ((lineB T T.length ((t : Int) - 16)).length ≤ 4000000000000) := hide (by have := lineB_length T _ T.length ((t : Int) - 16) (Nat.le_refl _); omega)
  have HT := hide hT
  clear hT h3 h4 hz
  refine (callsIn_wide (n := 4)).1 ?_
  refine callsIn_of_wp_marks Tryd.func46 rfl trivial ?_ rfl
  simp only [Tryd.ntmps46, List.size_toArray, List.length_cons, List.length_nil, Nat.reduceAdd, Nat.reduceSub, Array.replicate_succ, Array.replicate_zero, List.push_toArray, List.append_toArray, List.nil_append, List.cons_append]
  gi_wp2
  refine ⟨trivial, ?_⟩
  refine (callsIn_wide.2 (Valid_any ao T.length cap t _ ht)).mono ?_
  rintro e w1 ⟨rfl, rfl⟩
  by_cases hv : validD T.length t = true
  · rw [hv]
    by_cases h0 : t = 0
    · have b0 : (((t : Nat) : Int) == 0) = true := beq_t (by omega)
      have HR : Hid (rankP T t = 0) := hide (by unfold rankP; rw [if_pos (by simp [h0])])
      clear h0 hv
      gi_wp2
      exact ⟨_, results_tmp rfl _ _ _, by rw [unhide HR]; rfl, Below.refl _ _⟩
    · have b0 : (((t : Nat) : Int) == 0) = false := beq_f (by omega)
      have HR : Hid (rankP T t = 1 + (lineB T T.length ((t : Int) - 16)).length) := hide (by unfold rankP; rw [if_neg (by simp [h0, hv])])
      clear h0 hv
      gi_wp2
      refine ⟨trivial, ?_⟩
      refine (callsIn_wide.2 (classOf_any t _ ht)).mono ?_
      rintro e w2 ⟨rfl, rfl⟩
      gi_wp2
      refine ⟨trivial, ?_⟩
      refine (lineMake_in _ _ _ _ _ _).mono ?_
      rintro e w3 ⟨rfl, rfl⟩
      gi_wp2
      have c0 := cellNew w1 (.int .i64 1) 3
      have c1 := cellNew (w1.alloc (.cells #[.int .i64 1] 3)) (.slice ao T.length cap) 22
      have c2 := cellNew ((w1.alloc (.cells #[.int .i64 1] 3)).alloc (.cells #[.slice ao T.length cap] 22)) (.int .i64 ((t : Int) - 16)) 3
      simp only [World.size_alloc] at c1 c2
      have hB0 : Below w1.heap.size w1 (((w1.alloc (.cells #[.int .i64 1] 3)).alloc (.cells #[.slice ao T.length cap] 22)).alloc (.cells #[.int .i64 ((t : Int) - 16)] 3)) := (((Below.refl _ w1).alloc (Nat.le_refl _) _).alloc (by simp) _).alloc (by simp; omega) _
      have h1 : 1 ≤ 4 := by omega
      refine wpIn_rangeFunc_ownF rfl h1 (gf := 101) (lb := #[.pointer (some ⟨w1.heap.size + 1 + 1, 0, none⟩), .pointer (some ⟨w1.heap.size + 1, 0, none⟩)]) rfl trivial (enters_of Tryd.func101 (by kernel_rfl) rfl)
        (line_stops (4 - 1) (by omega) (w1.heap.size + 1 + 1) (w1.heap.size + 1) ao cap T ((t : Int) - 16) w1 _ (unhide HT) hB0 c2.1 (cellAlloc _ c1.1)) keepsL_t (keepsL_b (by simp; omega) (by simp)) (Below.refl _ _) (fun _ => rfl)
        (fun pre W => (W.cell? ⟨w1.heap.size, 0, none⟩ = some (.int .i64 ((1 + pre.length : Nat) : Int)) ∧ W.frozen? ⟨w1.heap.size, 0, none⟩ = false) ∧ Below w1.heap.size w1 W)
        (fun _ _ _ => False)
        (OwnFrom.and (Own.from (fun s A B row hs hg hr => ⟨cell_kept hs.1 hg hr, (frozen_kept hs.1 hg hr).trans hs.2⟩) _) (ownFrom_below (Nat.le_refl _) (by simp; omega)))
        (fun _ _ _ _ _ hs _ _ => hs)
        ⟨⟨cellAlloc _ (cellAlloc _ c0.1), frozenAlloc _ (cellAlloc _ c0.1) (frozenAlloc _ c0.1 c0.2)⟩, hB0⟩
        (fun x => { tmps := #[Value.slice ao T.length cap, Value.int IntKind.u8 (t : Int), undef, undef, Value.int IntKind.i64 0, Value.pointer (some { block := w1.heap.size, off := 0 }), Value.bool false, Value.slice ao T.length cap, Value.int IntKind.u8 (t : Int), Value.bool true, Value.bool false, Value.bool false, Value.int IntKind.u8 (t : Int), Value.bool false, Value.bool false, Value.bool false, Value.int IntKind.u8 (t : Int), Value.bool false, undef, undef, undef, Value.bool false, Value.int IntKind.u8 (t : Int), Value.bool false, undef, undef, undef, Value.slice ao T.length cap, Value.int IntKind.u8 (t : Int), Value.int IntKind.i64 ((t : Int) - 16), Value.func (Fn.func 101) #[] #[Value.pointer (some { block := w1.heap.size + 1 + 1, off := 0 }), Value.pointer (some { block := w1.heap.size + 1, off := 0 })], Value.int .i64 (x : Int), undef, undef, undef], defers := [] }) ?assign ?body ?done ?stop
      case assign =>
        intro l x W K hK
        gi_wp2
        exact hK
      case body =>
        rintro l pre x W ⟨⟨hc, hf⟩, hB⟩ hlt
        have hlen := unhide HLn
        have hpre : pre.length < 4000000000000 := by omega
        clear hlen hlt
        gi_wp2
        refine ⟨KeepsOthers.setCell _ _ _, ⟨(Below.refl w1.heap.size W).setCell (p := ⟨w1.heap.size, 0, none⟩) (Nat.le_refl _) _, Below.heap_setCell _ _ _ _ (by simp)⟩, ⟨?_, by rw [World.frozen?_setCell]; exact hf⟩, hB.setCell (p := ⟨w1.heap.size, 0, none⟩) (Nat.le_refl _) _⟩
        rw [World.cell?_setCell_same' _ _ _ (by rw [hc]; rfl)]
        congr 2
        rw [List.length_append]
        simp
        omega
      case done =>
        rintro D ys W hD rfl ⟨⟨hc, _⟩, hB⟩ hK
        gi_wp2
        refine ⟨by simp, .inl ⟨_, _, rfl, run_takeDeferred hK, ?_⟩⟩
        exact ⟨_, results_tmp rfl _ _ _, by rw [unhide HR]; exact ret_int (by omega), hB.trans (belowK_b (w := w1) (Nat.le_refl _) W D _ _ (by simp at hD; omega) hK rfl rfl)⟩
      case stop =>
        rintro D c pre W _ _ h _
        exact h.elim
  · have hv' : validD T.length t = false := by simpa using hv
    have HR : Hid (rankP T t = 0) := hide (by unfold rankP; rw [if_pos (by simp [hv'])])
    rw [hv']
    clear hv hv'
    gi_wp2
    exact ⟨_, results_tmp rfl _ _ _, by rw [unhide HR]; rfl, Below.refl _ _⟩

theorem rankP_5 (T : List Cl) : rankP T 5 = 1 := by
  unfold rankP
  rw [if_neg (by rw [validD_lo (by omega)]; simp), lineB_out (by omega)]
  rfl
theorem rankP_class {T : List Cl} {c : Nat} (h : c < T.length) : rankP T (16 + c) = 1 + (lineB T T.length (c : Int)).length := by
  unfold rankP
  rw [if_neg (by rw [validD_hi (by omega) (by omega)]; simp), show ((16 + c : Nat) : Int) - 16 = (c : Int) from by omega]

set_option maxRecDepth 100000 in
set_option maxHeartbeats 4000000 in
theorem Rank_ints (ao : Option Addr) (cap : Nat) (T : List Cl) (w : World) (hT : TabAt w ao T) (hz : T.length * 48 ≤ 140737488351232) :
    Calls Tryd.prog 46 #[.slice ao T.length cap, .int .u8 4] w fun e w' => e = .returned (.int .i64 2) ∧ Below w.heap.size w w' := by
  have HT := hide hT
  have HZ := hide hz
  clear hT hz
  refine (callsIn_wide (n := 4)).1 ?_
  refine callsIn_of_wp_marks Tryd.func46 rfl trivial ?_ rfl
  simp only [Tryd.ntmps46, List.size_toArray, List.length_cons, List.length_nil, Nat.reduceAdd, Nat.reduceSub, Array.replicate_succ, Array.replicate_zero, List.push_toArray, List.append_toArray, List.nil_append, List.cons_append]
  gi_wp2
  refine ⟨trivial, ?_⟩
  refine (callsIn_wide.2 (Valid_any ao T.length cap 4 _ (by omega))).mono ?_
  rintro e w1 ⟨rfl, rfl⟩
  rw [validD_lo (by omega)]
  gi_wp2
  refine ⟨trivial, ?_⟩
  refine (callsIn_wide.2 (Rank_plain ao cap T 5 _ (unhide HT) (unhide HZ) (by omega) (by omega) (by omega))).mono ?_
  rintro e w2 ⟨rfl, hB⟩
  rw [rankP_5]
  gi_wp2
  exact ⟨_, results_tmp rfl _ _ _, rfl, hB⟩

/-- The highest rank of the first classes, and of a row of numbers. -/
def highN (T : List Cl) : Nat → Nat
  | 0 => 2
  | k + 1 => max (highN T k) (1 + (lineB T T.length (k : Int)).length)
theorem highN_le {T : List Cl} {b : Nat} (hb : 2 ≤ b) : ∀ (k : Nat), (∀ (j : Nat), j < k → 1 + (lineB T T.length (j : Int)).length ≤ b) → highN T k ≤ b
  | 0, _ => hb
  | k + 1, h => by
    unfold highN
    have := highN_le hb k (fun j hj => h j (by omega))
    have := h k (by omega)
    omega
theorem highN_ge {T : List Cl} : ∀ {k j : Nat}, j < k → 1 + (lineB T T.length (j : Int)).length ≤ highN T k
  | k + 1, j, h => by
    unfold highN
    by_cases e : j = k
    · subst e; omega
    · have := highN_ge (T := T) (show j < k by omega); omega
theorem highN_two {T : List Cl} : ∀ (k : Nat), 2 ≤ highN T k
  | 0 => Nat.le_refl _
  | k + 1 => by unfold highN; have := highN_two (T := T) k; omega

set_option maxHeartbeats 1000000 in
theorem highestRef_any (ao : Option Addr) (cap : Nat) (T : List Cl) (w : World) (hT : TabAt w ao T) (hz : T.length * 48 ≤ 140737488351232) :
    Calls Tryd.prog 78 #[.slice ao T.length cap] w fun e w' => e = .returned (.int .i64 ((highN T (min T.length 32) : Nat) : Int)) ∧ Below w.heap.size w w' := by
  have HT := hide hT
  have HZ := hide hz
  clear hT hz
  by_cases h32 : 32 < T.length
  · have h32' : (32 : Int) < ((T.length : Nat) : Int) := by omega
    have HN : Hid (min T.length 32 = 32) := hide (by omega)
    rw [unhide HN]
    go_enter Tryd.func78, Tryd.ntmps78
    go_wp2_with fail
    refine (Rank_ints ao cap T _ (unhide HT) (unhide HZ)).mono ?_
    rintro e w1 ⟨rfl, hB1⟩
    have HB1 := hide hB1
    clear hB1
    go_wp2
    go_loopw [3, 10] (fun n i wr => ∃ k : Nat, k ≤ 32 ∧ i = .int .i64 (k : Int) ∧ n = .int .i64 ((highN T k : Nat) : Int) ∧ Hid (Below w.heap.size w wr)) (fun _ i _ => 32 - (intOf i).toNat)
    case atStart => exact ⟨0, by omega, rfl, rfl, HB1⟩
    case round =>
      clear HB1
      obtain ⟨k, hk, rfl, rfl, HB⟩ := hrel
      by_cases hlt : k < 32
      · have i1 : ((k : Nat) : Int) < ((32 : Nat) : Int) := by omega
        have hkT : k < T.length := by omega
        go_wp2_with fail
        refine (typeOf_any k _ (by omega)).mono ?_
        rintro e w2 ⟨rfl, rfl⟩
        go_wp2_with fail
        refine (Rank_plain ao cap T (16 + k) _ ((unhide HT).below (unhide HB)) (unhide HZ) (by omega) (by omega) (by omega)).mono ?_
        rintro e w3 ⟨rfl, hB3⟩
        have HB3 := hide ((unhide HB).trans (hB3.mono (unhide HB).size))
        rw [rankP_class hkT]
        obtain ⟨r, HRr⟩ : ∃ r, Hid (1 + (lineB T T.length (k : Int)).length = r) := ⟨_, hide rfl⟩
        rw [unhide HRr]
        have HHk : Hid (highN T (k + 1) = max (highN T k) r) := hide (by rw [← unhide HRr]; rfl)
        obtain ⟨m, HMm⟩ : ∃ m, Hid (highN T k = m) := ⟨_, hide rfl⟩
        rw [unhide HMm] at HHk ⊢
        clear hB3 HB HRr
        by_cases hmr : m < r
        · have hmr' : ((m : Nat) : Int) < ((r : Nat) : Int) := by omega
          have HE : Hid (highN T (k + 1) = r) := hide (by rw [unhide HHk]; omega)
          clear HHk
          go_wp2
          go_roundw
          case rel => exact ⟨k + 1, by omega, by go_num, by rw [unhide HE], HB3⟩
          case measure => simp [intOf]; omega
        · have hmr' : ¬ ((m : Nat) : Int) < ((r : Nat) : Int) := by omega
          have HE : Hid (highN T (k + 1) = m) := hide (by rw [unhide HHk]; omega)
          clear HHk
          go_wp2
          go_roundw
          case rel => exact ⟨k + 1, by omega, by go_num, by rw [unhide HE], HB3⟩
          case measure => simp [intOf]; omega
      · have ek : k = 32 := by omega
        have i1 : ¬ ((k : Nat) : Int) < ((32 : Nat) : Int) := by omega
        have HE : Hid (highN T k = highN T 32) := hide (by rw [ek])
        clear ek
        go_wp2
        go_ret
        exact ⟨by rw [unhide HE]; rfl, unhide HB⟩
  · have h32' : ¬ (32 : Int) < ((T.length : Nat) : Int) := by omega
    have HN : Hid (min T.length 32 = T.length) := hide (by omega)
    rw [unhide HN]
    go_enter Tryd.func78, Tryd.ntmps78
    go_wp2_with fail
    refine (Rank_ints ao cap T _ (unhide HT) (unhide HZ)).mono ?_
    rintro e w1 ⟨rfl, hB1⟩
    have HB1 := hide hB1
    clear hB1
    go_wp2
    go_loopw [3, 10] (fun n i wr => ∃ k : Nat, k ≤ T.length ∧ i = .int .i64 (k : Int) ∧ n = .int .i64 ((highN T k : Nat) : Int) ∧ Hid (Below w.heap.size w wr)) (fun _ i _ => T.length - (intOf i).toNat)
    case atStart => exact ⟨0, by omega, rfl, rfl, HB1⟩
    case round =>
      clear HB1
      obtain ⟨k, hk, rfl, rfl, HB⟩ := hrel
      by_cases hlt : k < T.length
      · have i1 : ((k : Nat) : Int) < ((T.length : Nat) : Int) := by omega
        have hkT : k < T.length := by omega
        go_wp2_with fail
        refine (typeOf_any k _ (by omega)).mono ?_
        rintro e w2 ⟨rfl, rfl⟩
        go_wp2_with fail
        refine (Rank_plain ao cap T (16 + k) _ ((unhide HT).below (unhide HB)) (unhide HZ) (by omega) (by omega) (by omega)).mono ?_
        rintro e w3 ⟨rfl, hB3⟩
        have HB3 := hide ((unhide HB).trans (hB3.mono (unhide HB).size))
        rw [rankP_class hkT]
        obtain ⟨r, HRr⟩ : ∃ r, Hid (1 + (lineB T T.length (k : Int)).length = r) := ⟨_, hide rfl⟩
        rw [unhide HRr]
        have HHk : Hid (highN T (k + 1) = max (highN T k) r) := hide (by rw [← unhide HRr]; rfl)
        obtain ⟨m, HMm⟩ : ∃ m, Hid (highN T k = m) := ⟨_, hide rfl⟩
        rw [unhide HMm] at HHk ⊢
        clear hB3 HB HRr
        by_cases hmr : m < r
        · have hmr' : ((m : Nat) : Int) < ((r : Nat) : Int) := by omega
          have HE : Hid (highN T (k + 1) = r) := hide (by rw [unhide HHk]; omega)
          clear HHk
          go_wp2
          go_roundw
          case rel => exact ⟨k + 1, by omega, by go_num, by rw [unhide HE], HB3⟩
          case measure => simp [intOf]; omega
        · have hmr' : ¬ ((m : Nat) : Int) < ((r : Nat) : Int) := by omega
          have HE : Hid (highN T (k + 1) = m) := hide (by rw [unhide HHk]; omega)
          clear HHk
          go_wp2
          go_roundw
          case rel => exact ⟨k + 1, by omega, by go_num, by rw [unhide HE], HB3⟩
          case measure => simp [intOf]; omega
      · have ek : k = T.length := by omega
        have i1 : ¬ ((k : Nat) : Int) < ((T.length : Nat) : Int) := by omega
        have HE : Hid (highN T k = highN T T.length) := hide (by rw [ek])
        clear ek
        go_wp2
        go_ret
        exact ⟨by rw [unhide HE]; rfl, unhide HB⟩

theorem highN_fit {T : List Cl} (hz : T.length * 48 ≤ 140737488351232) (k : Nat) : highN T k ≤ 4000000000000 := highN_le (by omega) k (fun j _ => by have := lineB_length T _ T.length (j : Int) (Nat.le_refl _); omega)
set_option maxRecDepth 100000 in
set_option maxHeartbeats 4000000 in
theorem Rank_null (ao : Option Addr) (cap : Nat) (T : List Cl) (w : World) (hT : TabAt w ao T) (hz : T.length * 48 ≤ 140737488351232) :
    Calls Tryd.prog 46 #[.slice ao T.length cap, .int .u8 3] w fun e w' => e = .returned (.int .i64 ((1 + highN T (min T.length 32) : Nat) : Int)) ∧ Below w.heap.size w w' := by
  have HT := hide hT
  have HZ := hide hz
  have HF := hide (highN_fit hz (min T.length 32))
  clear hT hz
  refine (callsIn_wide (n := 4)).1 ?_
  refine callsIn_of_wp_marks Tryd.func46 rfl trivial ?_ rfl
  simp only [Tryd.ntmps46, List.size_toArray, List.length_cons, List.length_nil, Nat.reduceAdd, Nat.reduceSub, Array.replicate_succ, Array.replicate_zero, List.push_toArray, List.append_toArray, List.nil_append, List.cons_append]
  gi_wp2
  refine ⟨trivial, ?_⟩
  refine (callsIn_wide.2 (Valid_any ao T.length cap 3 _ (by omega))).mono ?_
  rintro e w1 ⟨rfl, rfl⟩
  rw [validD_lo (by omega)]
  gi_wp2
  refine ⟨trivial, ?_⟩
  refine (callsIn_wide.2 (highestRef_any ao cap T _ (unhide HT) (unhide HZ))).mono ?_
  rintro e w2 ⟨rfl, hB⟩
  obtain ⟨H, HH⟩ : ∃ H, Hid (highN T (min T.length 32) = H) := ⟨_, hide rfl⟩
  rw [unhide HH] at HF ⊢
  have hf := unhide HF
  gi_wp2
  refine ⟨_, results_tmp rfl _ _ _, ?_, hB⟩
  exact ret_int (a := 1 + (H : Int)) (by have := unhide HH; omega)

def rankD (T : List Cl) (t : Nat) : Nat := if t = 3 then 1 + highN T (min T.length 32) else if t = 4 then 2 else rankP T t
theorem Rank_any (ao : Option Addr) (cap : Nat) (T : List Cl) (t : Nat) (w : World) (hT : TabAt w ao T) (hz : T.length * 48 ≤ 140737488351232) (ht : t < 256) :
    Calls Tryd.prog 46 #[.slice ao T.length cap, .int .u8 (t : Int)] w fun e w' => e = .returned (.int .i64 ((rankD T t : Nat) : Int)) ∧ Below w.heap.size w w' := by
  unfold rankD
  by_cases h3 : t = 3
  · rw [if_pos h3, h3]
    exact Rank_null ao cap T w hT hz
  · rw [if_neg h3]
    by_cases h4 : t = 4
    · rw [if_pos h4, h4]
      exact Rank_ints ao cap T w hT hz
    · rw [if_neg h4]
      exact Rank_plain ao cap T t w hT hz ht h3 h4

/-! ### Ranks fall as the order rises -/
theorem line_pos {T : List Cl} {c : Nat} (h : c < T.length) : 1 ≤ (lineB T T.length (c : Int)).length := by rw [lineB_in h]; simp
theorem rank_class {T : List Cl} {t : Nat} (h : 16 ≤ t) (h2 : t - 16 < T.length) : rankD T t = 1 + (lineB T T.length ((t - 16 : Nat) : Int)).length := by
  unfold rankD
  rw [if_neg (by omega), if_neg (by omega)]
  have := rankP_class h2
  rw [show 16 + (t - 16) = t from by omega] at this
  exact this
theorem rank_small {T : List Cl} {t : Nat} (h : t = 1 ∨ t = 2 ∨ t = 5) : rankD T t = 1 := by
  unfold rankD rankP
  rw [if_neg (by omega), if_neg (by omega), if_neg (by rw [validD_lo (by omega)]; simp; omega), lineB_out (by omega)]
  rfl
theorem rank_0 {T : List Cl} : rankD T 0 = 0 := by
  unfold rankD rankP
  rw [if_neg (by omega), if_neg (by omega), if_pos (by simp)]
theorem rank_4 {T : List Cl} : rankD T 4 = 2 := by unfold rankD; rw [if_neg (by omega), if_pos rfl]
theorem rank_3 {T : List Cl} : rankD T 3 = 1 + highN T (min T.length 32) := by unfold rankD; rw [if_pos rfl]
theorem rank_bad {T : List Cl} {t : Nat} (h : ¬ (t ≤ 5 ∨ (16 ≤ t ∧ t - 16 < T.length))) : rankD T t = 0 := by
  unfold rankD rankP
  rw [if_neg (by omega), if_neg (by omega), if_pos]
  have : validD T.length t = false := by
    cases hv : validD T.length t with
    | false => rfl
    | true => exact absurd (validD_iff.1 hv) h
  rw [this]
  rfl
theorem rank_le {T : List Cl} (hT : T.length ≤ 32) (t : Nat) : rankD T t ≤ 34 := by
  by_cases hv : t ≤ 5 ∨ (16 ≤ t ∧ t - 16 < T.length)
  · rcases hv with hv | ⟨h1, h2⟩
    · rcases (show t = 0 ∨ t = 3 ∨ t = 4 ∨ (t = 1 ∨ t = 2 ∨ t = 5) by omega) with rfl | rfl | rfl | h
      · rw [rank_0]; omega
      · rw [rank_3]
        have := highN_le (T := T) (b := 33) (by omega) (min T.length 32) (fun j _ => by have := lineB_length T _ T.length (j : Int) (Nat.le_refl _); omega)
        omega
      · rw [rank_4]; omega
      · rw [rank_small h]; omega
    · rw [rank_class h1 h2]
      have := lineB_length T _ T.length ((t - 16 : Nat) : Int) (Nat.le_refl _)
      omega
  · rw [rank_bad hv]; omega
theorem rank_lt {T : List Cl} (hT : T.length ≤ 32) {a b : Nat} (h : Le T a b) (hne : a ≠ b) : rankD T b < rankD T a := by
  obtain ⟨va, vb, h⟩ := h
  have pos : ∀ t, (t ≤ 5 ∨ (16 ≤ t ∧ t - 16 < T.length)) → t ≠ 0 → 1 ≤ rankD T t := by
    intro t hv h0
    rcases hv with hv | ⟨h1, h2⟩
    · rcases (show t = 3 ∨ t = 4 ∨ (t = 1 ∨ t = 2 ∨ t = 5) by omega) with rfl | rfl | h
      · rw [rank_3]; omega
      · rw [rank_4]; omega
      · rw [rank_small h]; omega
    · rw [rank_class h1 h2]; omega
  rcases h with e | e | ⟨e, e'⟩ | ⟨e, e'⟩ | ⟨e1, e2, e3⟩
  · exact absurd e hne
  · subst e
    rw [rank_0]
    exact pos a va hne
  · subst e
    rw [rank_3]
    have := highN_two (T := T) (min T.length 32)
    rcases e' with e' | e' | e' | e'
    · omega
    · subst e'; rw [rank_4]; omega
    · subst e'; rw [rank_small (by omega)]; omega
    · rw [rank_class e' (by omega)]
      have := highN_ge (T := T) (k := min T.length 32) (j := b - 16) (by omega)
      omega
  · subst e
    rw [rank_small (t := 5) (by omega)]
    rcases e' with e' | e' | e' | e'
    · subst e'; rw [rank_3]; have := highN_two (T := T) (min T.length 32); omega
    · subst e'; rw [rank_4]; omega
    · omega
    · rw [rank_class e' (by omega)]
      have := line_pos (T := T) (c := a - 16) (by omega)
      omega
  · rw [rank_class e1 (by omega), rank_class e2 (by omega)]
    have hs := lineB_tail T _ _ _ (Nat.le_refl _) _ e3
    rw [lineB_in (show a - 16 < T.length by omega)] at hs e3 ⊢
    rw [lineB_in (show b - 16 < T.length by omega)]
    rcases List.suffix_cons_iff.1 hs with h | h
    · injection h with h1 _
      omega
    · have := h.length_le
      simp at this ⊢
      omega
end Go.Proofs.YtelbajcfdecaoaaDoor
