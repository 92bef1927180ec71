/-
  The step 'look' at Take, Name, Within, End. Conditions: lengths fit.
-/
import Derived.Test.YtggaecmjadkopaaLook1
namespace Go.Proofs.Ytggaecmjadkopaa
open Go.RowKit

theorem Equal_own {w : World} {b b' : Nat} {v v' : Value} {l : List UInt8} (h : OwnB w b v l) (h' : OwnB w b' v' l) (hl : l.length ≤ 140737488355328) :
    Calls Try.prog 19 #[v, v'] w fun e w' => e = .returned (.bool true) ∧ ∃ k, w' = w.drewN k := by
  obtain ⟨ao, c, rfl, hb⟩ := h.at
  obtain ⟨ao', c', rfl, hb'⟩ := h'.at
  refine (Equal_any ao ao' c c' l l w hb hb' (by unfold maxLen; omega) (by unfold maxLen; omega)).mono ?_
  rintro e w1 ⟨rfl, k, rfl⟩
  exact ⟨by simp, k, rfl⟩

theorem takeL_len (l : List UInt8) (k : Nat) (n : Int) : (takeL l k n).length ≤ l.length := by
  unfold takeL
  split
  · simp
  · split
    · simp
    · simp; omega

/-- Rows of bytes are not where a place lies. -/
theorem own_not_place {w : World} {q : Nat} {ao : Option Addr} {m c : Nat} {z : Int} (hq : w.heap[q]? = some (.cells #[.slice ao m c, .int .i64 z] 32 (0, 0))) {v : Value} {b : Nat} {l : List UInt8} (ho : OwnB w b v l) : ∀ k, v.ownBlock = some k → ¬ k = q := by
  intro k hk e
  subst e
  rcases ho.2 with ⟨rfl, _⟩ | ⟨g, cp, cur, rfl, _, hh, _⟩
  · cases hk
  · cases hk
    rw [hh] at hq
    simp at hq

set_option maxHeartbeats 1000000 in
set_option maxRecDepth 100000 in
theorem look5 {w : World} {x : RD} (h : Rel w x) (who op n : Int) (hc : pickN op 9 = 5) :
    Calls Try.prog 13 #[.pointer (some ⟨x.p, 0, none⟩), .pointer (some ⟨x.q, 0, none⟩), .agg #[.int .i64 who, .int .i64 op, .int .i64 n]] w (LookPost w x) := by
  have HC := hide hc
  have hA := (Below.refl _ w).alloc (Nat.le_refl _) (.cells #[.int .i64 who, .int .i64 op, .int .i64 n] 35)
  have hR := h.below hA
  have q0 := hR.q0
  have q1 := hR.q1
  have hle := h.rd.le
  have hfit := h.rd.fit
  have HR := hide hR
  have HA := hide hA
  have HB := hide (heap_alloc_new w (.cells #[.int .i64 who, .int .i64 op, .int .i64 n] 35))
  have hws : w.heap.size < (w.alloc (.cells #[.int .i64 who, .int .i64 op, .int .i64 n] 35)).heap.size := by simp
  clear hc hR hA h
  go_enter Try.func13, Try.ntmps13
  go_wp2
  go_quiet (fail)
  go_wp2_with fail
  refine (pick_any op 9 _ (by omega) (by omega)).mono ?_
  rintro e w1 ⟨rfl, hw1⟩
  rw [unhide HC, hw1]
  clear hw1 q0 q1
  have hR1 : Rel (World.drewN (w.alloc (.cells #[.int .i64 who, .int .i64 op, .int .i64 n] 35)) nq) x := (unhide HR).below (belowD (Below.refl _ _) nq)
  have hA1 : Below w.heap.size w (World.drewN (w.alloc (.cells #[.int .i64 who, .int .i64 op, .int .i64 n] 35)) nq) := belowD (unhide HA) nq
  have hB1 : (World.drewN (w.alloc (.cells #[.int .i64 who, .int .i64 op, .int .i64 n] 35)) nq).heap[w.heap.size]? = _ := unhide HB
  have hs1 : w.heap.size < (World.drewN (w.alloc (.cells #[.int .i64 who, .int .i64 op, .int .i64 n] 35)) nq).heap.size := hws
  have b2 : (World.drewN (w.alloc (.cells #[.int .i64 who, .int .i64 op, .int .i64 n] 35)) nq).cell? ⟨w.heap.size, 2, none⟩ = some (.int .i64 n) := by rw [cell_of_row _ _ _ _ _ _ hB1]; rfl
  generalize World.drewN (w.alloc (.cells #[.int .i64 who, .int .i64 op, .int .i64 n] 35)) nq = W1 at hR1 hA1 hB1 hs1 b2 ⊢
  have q0 := hR1.q0
  have q1 := hR1.q1
  have HR1 := hide hR1
  have HA1 := hide hA1
  have HB1 := hide hB1
  clear hR1 hA1 hB1 HR HA HB hws
  go_wp2_with fail
  refine (Take_u (unhide HR1).rd n).mono ?_
  rintro e w2 ⟨v1, rfl, hO1, hI2, hG2⟩
  have hH := (unhide HR1).half hI2 hG2
  have d0 := hH.q0
  have d1 := hH.q1
  have d2 : w2.cell? ⟨w.heap.size, 2, none⟩ = some (.int .i64 n) := hG2.cell b2 (by
    intro e
    injection e with e
    have h1 := (unhide HR1).rd.row
    rw [← e, unhide HB1] at h1
    simp at h1)
  have hq2 : x.q < w2.heap.size := (Array.getElem?_eq_some_iff.1 hH.pl).1
  have hw2 : w.heap.size < w2.heap.size := World.block_lt_of_cell? w2 _ d2
  have HH := hide hH
  have HO1 := hide hO1
  clear hI2 hG2 hH q0 q1 b2 hO1
  go_wp2
  go_region_held3 (fun w' => w'.cell? ⟨x.q, 0, none⟩ = some (.slice x.ao x.l.length x.c) ∧ w'.cell? ⟨x.q, 1, none⟩ = some (.int .i64 (x.k : Int)) ∧ w'.cell? ⟨w.heap.size, 2, none⟩ = some (.int .i64 n)) (first | exact ⟨(hB3.cell (p := ⟨x.q, 0, none⟩) hq2).trans d0, (hB3.cell (p := ⟨x.q, 1, none⟩) hq2).trans d1, (hB3.cell (p := ⟨w.heap.size, 2, none⟩) hw2).trans d2⟩ | go_keep) (first | (go_at_call 40; refine (refTake_any x.ao x.c x.l x.k n _ (show BAt w2.drew x.ao x.l from (unhide HH).by_) hfit hle).mono ?_; rintro e w3 ⟨v2, rfl, hO3, hB3⟩))
  have hB3' : Below w2.heap.size w2 w3 := (Below.drew (Below.refl _ w2)).trans hB3
  have hH3 := (unhide HH).below hB3'
  have e1 := hH3.q1
  have ef := hH3.qf
  have hD := hH3.done _ rfl
  have HD := hide hD
  have hO1 := (unhide HO1).below hB3'
  have hkW := kept_setCell w3 ⟨x.q, 1, none⟩ (.int .i64 ((takeK x.l x.k n : Nat) : Int))
  have HO1' := hide (hO1.keep hkW (own_not_place hH3.pl hO1))
  have HO3' := hide (hO3.keep hkW (own_not_place hH3.pl hO3))
  clear hO1 hO3 hB3 hB3' hH3 hD hkW HO1 HH
  go_wp2_with fail
  refine (Equal_own (unhide HO1') (unhide HO3') (Nat.le_trans (takeL_len _ _ _) hfit)).mono ?_
  rintro e w4 ⟨rfl, j, rfl⟩
  go_wp2
  go_ret3
  exact ⟨_, (unhide HD).1.below (belowD (Below.refl _ _) j), ((Kept.of_below (unhide HA1) (fun _ => False)).trans (unhide HD).2 (U := LT x) (fun _ _ h => h.elim) (fun _ _ h => h)).trans (Kept.of_below (belowD (Below.refl _ _) j) (fun _ => False)) (fun _ _ h => h) (fun _ _ h => h.elim), .inl rfl⟩

set_option maxHeartbeats 1000000 in
set_option maxRecDepth 100000 in
theorem look6 {w : World} {x : RD} (h : Rel w x) (who op n : Int) (hc : pickN op 9 = 6) :
    Calls Try.prog 13 #[.pointer (some ⟨x.p, 0, none⟩), .pointer (some ⟨x.q, 0, none⟩), .agg #[.int .i64 who, .int .i64 op, .int .i64 n]] w (LookPost w x) := by
  have HC := hide hc
  have hA := (Below.refl _ w).alloc (Nat.le_refl _) (.cells #[.int .i64 who, .int .i64 op, .int .i64 n] 35)
  have hR := h.below hA
  have q0 := hR.q0
  have q1 := hR.q1
  have hle := h.rd.le
  have hfit := h.rd.fit
  have HR := hide hR
  have HA := hide hA
  have HB := hide (heap_alloc_new w (.cells #[.int .i64 who, .int .i64 op, .int .i64 n] 35))
  have hws : w.heap.size < (w.alloc (.cells #[.int .i64 who, .int .i64 op, .int .i64 n] 35)).heap.size := by simp
  clear hc hR hA h
  go_enter Try.func13, Try.ntmps13
  go_wp2
  go_quiet (fail)
  go_wp2_with fail
  refine (pick_any op 9 _ (by omega) (by omega)).mono ?_
  rintro e w1 ⟨rfl, hw1⟩
  rw [unhide HC, hw1]
  clear hw1 q0 q1
  have hR1 : Rel (World.drewN (w.alloc (.cells #[.int .i64 who, .int .i64 op, .int .i64 n] 35)) nq) x := (unhide HR).below (belowD (Below.refl _ _) nq)
  have hA1 : Below w.heap.size w (World.drewN (w.alloc (.cells #[.int .i64 who, .int .i64 op, .int .i64 n] 35)) nq) := belowD (unhide HA) nq
  have hB1 : (World.drewN (w.alloc (.cells #[.int .i64 who, .int .i64 op, .int .i64 n] 35)) nq).heap[w.heap.size]? = _ := unhide HB
  have hs1 : w.heap.size < (World.drewN (w.alloc (.cells #[.int .i64 who, .int .i64 op, .int .i64 n] 35)) nq).heap.size := hws
  have b2 : (World.drewN (w.alloc (.cells #[.int .i64 who, .int .i64 op, .int .i64 n] 35)) nq).cell? ⟨w.heap.size, 2, none⟩ = some (.int .i64 n) := by rw [cell_of_row _ _ _ _ _ _ hB1]; rfl
  generalize World.drewN (w.alloc (.cells #[.int .i64 who, .int .i64 op, .int .i64 n] 35)) nq = W1 at hR1 hA1 hB1 hs1 b2 ⊢
  have q0 := hR1.q0
  have q1 := hR1.q1
  have HR1 := hide hR1
  have HA1 := hide hA1
  have HB1 := hide hB1
  clear hR1 hA1 hB1 HR HA HB hws
  go_wp2_with fail
  refine (Name_u (unhide HR1).rd).mono ?_
  rintro e w2 ⟨rfl, hI2, hG2⟩
  have hH := (unhide HR1).half hI2 hG2
  have d0 := hH.q0
  have d1 := hH.q1
  have d2 : w2.cell? ⟨w.heap.size, 2, none⟩ = some (.int .i64 n) := hG2.cell b2 (by
    intro e
    injection e with e
    have h1 := (unhide HR1).rd.row
    rw [← e, unhide HB1] at h1
    simp at h1)
  have hq2 : x.q < w2.heap.size := (Array.getElem?_eq_some_iff.1 hH.pl).1
  have hw2 : w.heap.size < w2.heap.size := World.block_lt_of_cell? w2 _ d2
  have HH := hide hH
  clear hI2 hG2 hH q0 q1 b2
  go_wp2
  go_region_held3 (fun w' => w'.cell? ⟨x.q, 0, none⟩ = some (.slice x.ao x.l.length x.c) ∧ w'.cell? ⟨x.q, 1, none⟩ = some (.int .i64 (x.k : Int)) ∧ w'.cell? ⟨w.heap.size, 2, none⟩ = some (.int .i64 n)) (first | exact ⟨(hB3.cell (p := ⟨x.q, 0, none⟩) hq2).trans d0, (hB3.cell (p := ⟨x.q, 1, none⟩) hq2).trans d1, (hB3.cell (p := ⟨w.heap.size, 2, none⟩) hw2).trans d2⟩ | go_keep) (first | (go_at_call 42; refine (refName_u x.ao x.c x.l x.k _ (show BAt w2.drew x.ao x.l from (unhide HH).by_) hfit hle).mono ?_; rintro e w3 ⟨rfl, hB3⟩))
  have hB3' : Below w2.heap.size w2 w3 := (Below.drew (Below.refl _ w2)).trans hB3
  have hH3 := (unhide HH).below hB3'
  have e1 := hH3.q1
  have ef := hH3.qf
  have hD := hH3.done _ rfl
  have HD := hide hD
  clear hB3 hB3' hH3 hD HH
  go_wp2
  go_ret3
  exact ⟨_, (unhide HD).1, (Kept.of_below (unhide HA1) (fun _ => False)).trans (unhide HD).2 (U := LT x) (fun _ _ h => h.elim) (fun _ _ h => h), .inl rfl⟩

end Go.Proofs.Ytggaecmjadkopaa
