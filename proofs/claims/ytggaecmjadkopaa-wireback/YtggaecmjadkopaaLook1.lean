/-
  The step 'look', call by call. Conditions: lengths fit.
-/
import Derived.Test.YtggaecmjadkopaaLook0
namespace Go.Proofs.Ytggaecmjadkopaa
open Go.RowKit

theorem ret_l {a : Bool} {u v : Value} (h : a = true) : Ending.returned (.tuple #[.bool a, u, v]) = .returned (.tuple #[.bool true, u, v]) := by rw [h]

set_option maxHeartbeats 1000000 in
set_option maxRecDepth 100000 in
theorem look0 {w : World} {x : RD} (h : Rel w x) (who op n : Int) (hc : pickN op 9 = 0) :
    Calls Try.prog 13 #[.pointer (some ⟨x.p, 0, none⟩), .pointer (some ⟨x.q, 0, none⟩), .agg #[.int .i64 who, .int .i64 op, .int .i64 n]] w (LookPost w x) := by
  have HC := hide hc
  have hA := (Below.refl _ w).alloc (Nat.le_refl _) (.cells #[.int .i64 who, .int .i64 op, .int .i64 n] 35)
  have hR := h.below hA
  have q0 := hR.q0
  have q1 := hR.q1
  have hle := h.rd.le
  have hfit := h.rd.fit
  have HR := hide hR
  have HA := hide hA
  have HB := hide (heap_alloc_new w (.cells #[.int .i64 who, .int .i64 op, .int .i64 n] 35))
  have hws : w.heap.size < (w.alloc (.cells #[.int .i64 who, .int .i64 op, .int .i64 n] 35)).heap.size := by simp
  clear hc hR hA h
  go_enter Try.func13, Try.ntmps13
  go_wp2
  go_quiet (fail)
  go_wp2_with fail
  refine (pick_any op 9 _ (by omega) (by omega)).mono ?_
  rintro e w1 ⟨rfl, hw1⟩
  rw [unhide HC, hw1]
  clear hw1 q0 q1
  have hR1 : Rel (World.drewN (w.alloc (.cells #[.int .i64 who, .int .i64 op, .int .i64 n] 35)) nq) x := (unhide HR).below (belowD (Below.refl _ _) nq)
  have hA1 : Below w.heap.size w (World.drewN (w.alloc (.cells #[.int .i64 who, .int .i64 op, .int .i64 n] 35)) nq) := belowD (unhide HA) nq
  have hB1 : (World.drewN (w.alloc (.cells #[.int .i64 who, .int .i64 op, .int .i64 n] 35)) nq).heap[w.heap.size]? = _ := unhide HB
  have hs1 : w.heap.size < (World.drewN (w.alloc (.cells #[.int .i64 who, .int .i64 op, .int .i64 n] 35)) nq).heap.size := hws
  have b2 : (World.drewN (w.alloc (.cells #[.int .i64 who, .int .i64 op, .int .i64 n] 35)) nq).cell? ⟨w.heap.size, 2, none⟩ = some (.int .i64 n) := by rw [cell_of_row _ _ _ _ _ _ hB1]; rfl
  generalize World.drewN (w.alloc (.cells #[.int .i64 who, .int .i64 op, .int .i64 n] 35)) nq = W1 at hR1 hA1 hB1 hs1 b2 ⊢
  have q0 := hR1.q0
  have q1 := hR1.q1
  have HR1 := hide hR1
  have HA1 := hide hA1
  have HB1 := hide hB1
  clear hR1 hA1 hB1 HR HA HB hws
  go_wp2
  go_quiet ((go_at_call 14; exact Calls.quiet_of_same (At_any ((unhide HR1).rd.drewN _))))
  go_wp2
  go_ret3
  exact ⟨x.k, (unhide HR1).below (belowD (Below.refl _ _) _), Kept.of_below (belowD (unhide HA1) _) _, .inl rfl⟩

set_option maxHeartbeats 1000000 in
set_option maxRecDepth 100000 in
theorem look1 {w : World} {x : RD} (h : Rel w x) (who op n : Int) (hc : pickN op 9 = 1) :
    Calls Try.prog 13 #[.pointer (some ⟨x.p, 0, none⟩), .pointer (some ⟨x.q, 0, none⟩), .agg #[.int .i64 who, .int .i64 op, .int .i64 n]] w (LookPost w x) := by
  have HC := hide hc
  have hA := (Below.refl _ w).alloc (Nat.le_refl _) (.cells #[.int .i64 who, .int .i64 op, .int .i64 n] 35)
  have hR := h.below hA
  have q0 := hR.q0
  have q1 := hR.q1
  have hle := h.rd.le
  have hfit := h.rd.fit
  have HR := hide hR
  have HA := hide hA
  have HB := hide (heap_alloc_new w (.cells #[.int .i64 who, .int .i64 op, .int .i64 n] 35))
  have hws : w.heap.size < (w.alloc (.cells #[.int .i64 who, .int .i64 op, .int .i64 n] 35)).heap.size := by simp
  clear hc hR hA h
  go_enter Try.func13, Try.ntmps13
  go_wp2
  go_quiet (fail)
  go_wp2_with fail
  refine (pick_any op 9 _ (by omega) (by omega)).mono ?_
  rintro e w1 ⟨rfl, hw1⟩
  rw [unhide HC, hw1]
  clear hw1 q0 q1
  have hR1 : Rel (World.drewN (w.alloc (.cells #[.int .i64 who, .int .i64 op, .int .i64 n] 35)) nq) x := (unhide HR).below (belowD (Below.refl _ _) nq)
  have hA1 : Below w.heap.size w (World.drewN (w.alloc (.cells #[.int .i64 who, .int .i64 op, .int .i64 n] 35)) nq) := belowD (unhide HA) nq
  have hB1 : (World.drewN (w.alloc (.cells #[.int .i64 who, .int .i64 op, .int .i64 n] 35)) nq).heap[w.heap.size]? = _ := unhide HB
  have hs1 : w.heap.size < (World.drewN (w.alloc (.cells #[.int .i64 who, .int .i64 op, .int .i64 n] 35)) nq).heap.size := hws
  have b2 : (World.drewN (w.alloc (.cells #[.int .i64 who, .int .i64 op, .int .i64 n] 35)) nq).cell? ⟨w.heap.size, 2, none⟩ = some (.int .i64 n) := by rw [cell_of_row _ _ _ _ _ _ hB1]; rfl
  generalize World.drewN (w.alloc (.cells #[.int .i64 who, .int .i64 op, .int .i64 n] 35)) nq = W1 at hR1 hA1 hB1 hs1 b2 ⊢
  have q0 := hR1.q0
  have q1 := hR1.q1
  have HR1 := hide hR1
  have HA1 := hide hA1
  have HB1 := hide hB1
  clear hR1 hA1 hB1 HR HA HB hws
  have hsub : ((x.l.length : Int) - (x.k : Int)) = ((x.l.length - x.k : Nat) : Int) := by omega
  have HS := hide (beq_t hsub.symm)
  clear hsub
  go_wp2
  go_quiet ((go_at_call 15; exact Calls.quiet_of (Left_any ((unhide HR1).rd.drewN _))))
  go_wp2
  go_ret3
  exact ⟨x.k, (unhide HR1).below (belowD (Below.refl _ _) _), Kept.of_below (belowD (unhide HA1) _) _, .inl (ret_l (unhide HS))⟩

set_option maxHeartbeats 1000000 in
set_option maxRecDepth 100000 in
theorem look2 {w : World} {x : RD} (h : Rel w x) (who op n : Int) (hc : pickN op 9 = 2) :
    Calls Try.prog 13 #[.pointer (some ⟨x.p, 0, none⟩), .pointer (some ⟨x.q, 0, none⟩), .agg #[.int .i64 who, .int .i64 op, .int .i64 n]] w (LookPost w x) := by
  have HC := hide hc
  have hA := (Below.refl _ w).alloc (Nat.le_refl _) (.cells #[.int .i64 who, .int .i64 op, .int .i64 n] 35)
  have hR := h.below hA
  have q0 := hR.q0
  have q1 := hR.q1
  have hle := h.rd.le
  have hfit := h.rd.fit
  have HR := hide hR
  have HA := hide hA
  have HB := hide (heap_alloc_new w (.cells #[.int .i64 who, .int .i64 op, .int .i64 n] 35))
  have hws : w.heap.size < (w.alloc (.cells #[.int .i64 who, .int .i64 op, .int .i64 n] 35)).heap.size := by simp
  clear hc hR hA h
  go_enter Try.func13, Try.ntmps13
  go_wp2
  go_quiet (fail)
  go_wp2_with fail
  refine (pick_any op 9 _ (by omega) (by omega)).mono ?_
  rintro e w1 ⟨rfl, hw1⟩
  rw [unhide HC, hw1]
  clear hw1 q0 q1
  have hR1 : Rel (World.drewN (w.alloc (.cells #[.int .i64 who, .int .i64 op, .int .i64 n] 35)) nq) x := (unhide HR).below (belowD (Below.refl _ _) nq)
  have hA1 : Below w.heap.size w (World.drewN (w.alloc (.cells #[.int .i64 who, .int .i64 op, .int .i64 n] 35)) nq) := belowD (unhide HA) nq
  have hB1 : (World.drewN (w.alloc (.cells #[.int .i64 who, .int .i64 op, .int .i64 n] 35)) nq).heap[w.heap.size]? = _ := unhide HB
  have hs1 : w.heap.size < (World.drewN (w.alloc (.cells #[.int .i64 who, .int .i64 op, .int .i64 n] 35)) nq).heap.size := hws
  have b2 : (World.drewN (w.alloc (.cells #[.int .i64 who, .int .i64 op, .int .i64 n] 35)) nq).cell? ⟨w.heap.size, 2, none⟩ = some (.int .i64 n) := by rw [cell_of_row _ _ _ _ _ _ hB1]; rfl
  generalize World.drewN (w.alloc (.cells #[.int .i64 who, .int .i64 op, .int .i64 n] 35)) nq = W1 at hR1 hA1 hB1 hs1 b2 ⊢
  have q0 := hR1.q0
  have q1 := hR1.q1
  have HR1 := hide hR1
  have HA1 := hide hA1
  have HB1 := hide hB1
  clear hR1 hA1 hB1 HR HA HB hws
  go_wp2_with fail
  refine (Byte_u (unhide HR1).rd).mono ?_
  rintro e w2 ⟨rfl, hI2, hG2⟩
  have hH := (unhide HR1).half hI2 hG2
  have d0 := hH.q0
  have d1 := hH.q1
  have df := hH.qf
  have HH := hide hH
  clear hI2 hG2 hH q0 q1 b2
  go_wp2
  go_quiet ((go_at_call 36; exact Calls.quiet_of_same (refNumber_any x.ao x.c x.l x.k 1 _ ((unhide HH).by_.drewN _) hfit hle (by omega))))
  have hH2 := (unhide HH).below (belowD (Below.refl _ w2) nq)
  have e0 := hH2.q1
  have ef := hH2.qf
  have HH2 := hide hH2
  clear d0 d1 df hH2
  generalize World.drewN w2 nq = W2 at HH2 e0 ef ⊢
  go_wp2
  go_ret3
  have hD := (unhide HH2).done _ rfl
  exact ⟨_, hD.1, (Kept.of_below (unhide HA1) (fun _ => False)).trans hD.2 (fun _ _ h => h.elim) (fun _ _ h => h), .inl rfl⟩

set_option maxHeartbeats 1000000 in
set_option maxRecDepth 100000 in
theorem look3 {w : World} {x : RD} (h : Rel w x) (who op n : Int) (hc : pickN op 9 = 3) :
    Calls Try.prog 13 #[.pointer (some ⟨x.p, 0, none⟩), .pointer (some ⟨x.q, 0, none⟩), .agg #[.int .i64 who, .int .i64 op, .int .i64 n]] w (LookPost w x) := by
  have HC := hide hc
  have hA := (Below.refl _ w).alloc (Nat.le_refl _) (.cells #[.int .i64 who, .int .i64 op, .int .i64 n] 35)
  have hR := h.below hA
  have q0 := hR.q0
  have q1 := hR.q1
  have hle := h.rd.le
  have hfit := h.rd.fit
  have HR := hide hR
  have HA := hide hA
  have HB := hide (heap_alloc_new w (.cells #[.int .i64 who, .int .i64 op, .int .i64 n] 35))
  have hws : w.heap.size < (w.alloc (.cells #[.int .i64 who, .int .i64 op, .int .i64 n] 35)).heap.size := by simp
  clear hc hR hA h
  go_enter Try.func13, Try.ntmps13
  go_wp2
  go_quiet (fail)
  go_wp2_with fail
  refine (pick_any op 9 _ (by omega) (by omega)).mono ?_
  rintro e w1 ⟨rfl, hw1⟩
  rw [unhide HC, hw1]
  clear hw1 q0 q1
  have hR1 : Rel (World.drewN (w.alloc (.cells #[.int .i64 who, .int .i64 op, .int .i64 n] 35)) nq) x := (unhide HR).below (belowD (Below.refl _ _) nq)
  have hA1 : Below w.heap.size w (World.drewN (w.alloc (.cells #[.int .i64 who, .int .i64 op, .int .i64 n] 35)) nq) := belowD (unhide HA) nq
  have hB1 : (World.drewN (w.alloc (.cells #[.int .i64 who, .int .i64 op, .int .i64 n] 35)) nq).heap[w.heap.size]? = _ := unhide HB
  have hs1 : w.heap.size < (World.drewN (w.alloc (.cells #[.int .i64 who, .int .i64 op, .int .i64 n] 35)) nq).heap.size := hws
  have b2 : (World.drewN (w.alloc (.cells #[.int .i64 who, .int .i64 op, .int .i64 n] 35)) nq).cell? ⟨w.heap.size, 2, none⟩ = some (.int .i64 n) := by rw [cell_of_row _ _ _ _ _ _ hB1]; rfl
  generalize World.drewN (w.alloc (.cells #[.int .i64 who, .int .i64 op, .int .i64 n] 35)) nq = W1 at hR1 hA1 hB1 hs1 b2 ⊢
  have q0 := hR1.q0
  have q1 := hR1.q1
  have HR1 := hide hR1
  have HA1 := hide hA1
  have HB1 := hide hB1
  clear hR1 hA1 hB1 HR HA HB hws
  go_wp2_with fail
  refine (Word_u (unhide HR1).rd).mono ?_
  rintro e w2 ⟨rfl, hI2, hG2⟩
  have hH := (unhide HR1).half hI2 hG2
  have d0 := hH.q0
  have d1 := hH.q1
  have df := hH.qf
  have HH := hide hH
  clear hI2 hG2 hH q0 q1 b2
  go_wp2
  go_quiet ((go_at_call 36; exact Calls.quiet_of_same (refNumber_any x.ao x.c x.l x.k 2 _ ((unhide HH).by_.drewN _) hfit hle (by omega))))
  have hH2 := (unhide HH).below (belowD (Below.refl _ w2) nq)
  have e0 := hH2.q1
  have ef := hH2.qf
  have HH2 := hide hH2
  clear d0 d1 df hH2
  generalize World.drewN w2 nq = W2 at HH2 e0 ef ⊢
  go_wp2
  go_ret3
  have hD := (unhide HH2).done _ rfl
  exact ⟨_, hD.1, (Kept.of_below (unhide HA1) (fun _ => False)).trans hD.2 (fun _ _ h => h.elim) (fun _ _ h => h), .inl rfl⟩

set_option maxHeartbeats 1000000 in
set_option maxRecDepth 100000 in
theorem look4 {w : World} {x : RD} (h : Rel w x) (who op n : Int) (hc : pickN op 9 = 4) :
    Calls Try.prog 13 #[.pointer (some ⟨x.p, 0, none⟩), .pointer (some ⟨x.q, 0, none⟩), .agg #[.int .i64 who, .int .i64 op, .int .i64 n]] w (LookPost w x) := by
  have HC := hide hc
  have hA := (Below.refl _ w).alloc (Nat.le_refl _) (.cells #[.int .i64 who, .int .i64 op, .int .i64 n] 35)
  have hR := h.below hA
  have q0 := hR.q0
  have q1 := hR.q1
  have hle := h.rd.le
  have hfit := h.rd.fit
  have HR := hide hR
  have HA := hide hA
  have HB := hide (heap_alloc_new w (.cells #[.int .i64 who, .int .i64 op, .int .i64 n] 35))
  have hws : w.heap.size < (w.alloc (.cells #[.int .i64 who, .int .i64 op, .int .i64 n] 35)).heap.size := by simp
  clear hc hR hA h
  go_enter Try.func13, Try.ntmps13
  go_wp2
  go_quiet (fail)
  go_wp2_with fail
  refine (pick_any op 9 _ (by omega) (by omega)).mono ?_
  rintro e w1 ⟨rfl, hw1⟩
  rw [unhide HC, hw1]
  clear hw1 q0 q1
  have hR1 : Rel (World.drewN (w.alloc (.cells #[.int .i64 who, .int .i64 op, .int .i64 n] 35)) nq) x := (unhide HR).below (belowD (Below.refl _ _) nq)
  have hA1 : Below w.heap.size w (World.drewN (w.alloc (.cells #[.int .i64 who, .int .i64 op, .int .i64 n] 35)) nq) := belowD (unhide HA) nq
  have hB1 : (World.drewN (w.alloc (.cells #[.int .i64 who, .int .i64 op, .int .i64 n] 35)) nq).heap[w.heap.size]? = _ := unhide HB
  have hs1 : w.heap.size < (World.drewN (w.alloc (.cells #[.int .i64 who, .int .i64 op, .int .i64 n] 35)) nq).heap.size := hws
  have b2 : (World.drewN (w.alloc (.cells #[.int .i64 who, .int .i64 op, .int .i64 n] 35)) nq).cell? ⟨w.heap.size, 2, none⟩ = some (.int .i64 n) := by rw [cell_of_row _ _ _ _ _ _ hB1]; rfl
  generalize World.drewN (w.alloc (.cells #[.int .i64 who, .int .i64 op, .int .i64 n] 35)) nq = W1 at hR1 hA1 hB1 hs1 b2 ⊢
  have q0 := hR1.q0
  have q1 := hR1.q1
  have HR1 := hide hR1
  have HA1 := hide hA1
  have HB1 := hide hB1
  clear hR1 hA1 hB1 HR HA HB hws
  go_wp2_with fail
  refine (Long_u (unhide HR1).rd).mono ?_
  rintro e w2 ⟨rfl, hI2, hG2⟩
  have hH := (unhide HR1).half hI2 hG2
  have d0 := hH.q0
  have d1 := hH.q1
  have df := hH.qf
  have HH := hide hH
  clear hI2 hG2 hH q0 q1 b2
  go_wp2
  go_quiet ((go_at_call 36; exact Calls.quiet_of_same (refNumber_any x.ao x.c x.l x.k 4 _ ((unhide HH).by_.drewN _) hfit hle (by omega))))
  have hH2 := (unhide HH).below (belowD (Below.refl _ w2) nq)
  have e0 := hH2.q1
  have ef := hH2.qf
  have HH2 := hide hH2
  clear d0 d1 df hH2
  generalize World.drewN w2 nq = W2 at HH2 e0 ef ⊢
  go_wp2
  go_ret3
  have hD := (unhide HH2).done _ rfl
  exact ⟨_, hD.1, (Kept.of_below (unhide HA1) (fun _ => False)).trans hD.2 (fun _ _ h => h.elim) (fun _ _ h => h), .inl rfl⟩

end Go.Proofs.Ytggaecmjadkopaa
