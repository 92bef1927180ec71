/-
  The step 'look' at Within and End, and 'look' whole. Conditions: lengths fit.
-/
import Derived.Test.YtggaecmjadkopaaLook2
namespace Go.Proofs.Ytggaecmjadkopaa
open Go.RowKit

set_option maxHeartbeats 1000000 in
set_option maxRecDepth 100000 in
theorem look7a {w : World} {x : RD} (h : Rel w x) (who op n : Int) (hc : pickN op 9 = 7) (hn : n < 0) :
    Calls Try.prog 13 #[.pointer (some ⟨x.p, 0, none⟩), .pointer (some ⟨x.q, 0, none⟩), .agg #[.int .i64 who, .int .i64 op, .int .i64 n]] w (LookPost w x) := by
  have HC := hide hc
  have HT : Hid (takeE x.l x.k n = 1) := hide (by unfold takeE; rw [if_pos hn])
  have HTK : Hid (takeK x.l x.k n = x.k) := hide (by unfold takeK; rw [if_pos hn])
  have hA := (Below.refl _ w).alloc (Nat.le_refl _) (.cells #[.int .i64 who, .int .i64 op, .int .i64 n] 35)
  have hR := h.below hA
  have q0 := hR.q0
  have q1 := hR.q1
  have hle := h.rd.le
  have hfit := h.rd.fit
  have HR := hide hR
  have HA := hide hA
  have HB := hide (heap_alloc_new w (.cells #[.int .i64 who, .int .i64 op, .int .i64 n] 35))
  have hws : w.heap.size < (w.alloc (.cells #[.int .i64 who, .int .i64 op, .int .i64 n] 35)).heap.size := by simp
  clear hc hR hA h
  go_enter Try.func13, Try.ntmps13
  go_wp2
  go_quiet (fail)
  go_wp2_with fail
  refine (pick_any op 9 _ (by omega) (by omega)).mono ?_
  rintro e w1 ⟨rfl, hw1⟩
  rw [unhide HC, hw1]
  clear hw1 q0 q1
  have hR1 : Rel (World.drewN (w.alloc (.cells #[.int .i64 who, .int .i64 op, .int .i64 n] 35)) nq) x := (unhide HR).below (belowD (Below.refl _ _) nq)
  have hA1 : Below w.heap.size w (World.drewN (w.alloc (.cells #[.int .i64 who, .int .i64 op, .int .i64 n] 35)) nq) := belowD (unhide HA) nq
  have hB1 : (World.drewN (w.alloc (.cells #[.int .i64 who, .int .i64 op, .int .i64 n] 35)) nq).heap[w.heap.size]? = _ := unhide HB
  have hs1 : w.heap.size < (World.drewN (w.alloc (.cells #[.int .i64 who, .int .i64 op, .int .i64 n] 35)) nq).heap.size := hws
  have b2 : (World.drewN (w.alloc (.cells #[.int .i64 who, .int .i64 op, .int .i64 n] 35)) nq).cell? ⟨w.heap.size, 2, none⟩ = some (.int .i64 n) := by rw [cell_of_row _ _ _ _ _ _ hB1]; rfl
  generalize World.drewN (w.alloc (.cells #[.int .i64 who, .int .i64 op, .int .i64 n] 35)) nq = W1 at hR1 hA1 hB1 hs1 b2 ⊢
  have q0 := hR1.q0
  have q1 := hR1.q1
  have HR1 := hide hR1
  have HA1 := hide hA1
  have HB1 := hide hB1
  clear hR1 hA1 hB1 HR HA HB hws
  go_wp2_with fail
  refine (Within_arg (unhide HR1).rd n hn).mono ?_
  rintro e w2 ⟨rfl, rfl⟩
  have hH : Half w2 w2 x (takeK x.l x.k n) := by rw [unhide HTK]; exact ⟨(unhide HR1).rd, (unhide HR1).pl, (unhide HR1).by_, Kept.refl _ _⟩
  have d2 := b2
  have d0 := hH.q0
  have d1 := hH.q1
  have hq2 : x.q < w2.heap.size := (Array.getElem?_eq_some_iff.1 hH.pl).1
  have hw2 : w.heap.size < w2.heap.size := World.block_lt_of_cell? w2 _ d2
  have HH := hide hH
  clear hH q0 q1 b2
  go_wp2
  go_region_held3 (fun w' => w'.cell? ⟨x.q, 0, none⟩ = some (.slice x.ao x.l.length x.c) ∧ w'.cell? ⟨x.q, 1, none⟩ = some (.int .i64 (x.k : Int)) ∧ w'.cell? ⟨w.heap.size, 2, none⟩ = some (.int .i64 n)) (first | exact ⟨(hB3.cell (p := ⟨x.q, 0, none⟩) hq2).trans d0, (hB3.cell (p := ⟨x.q, 1, none⟩) hq2).trans d1, (hB3.cell (p := ⟨w.heap.size, 2, none⟩) hw2).trans d2⟩ | go_keep) (first | (go_at_call 40; refine (refTake_any x.ao x.c x.l x.k n _ (show BAt w2.drew x.ao x.l from (unhide HH).by_) hfit hle).mono ?_; rintro e w3 ⟨v2, rfl, hO3, hB3⟩))
  have hB3' : Below w2.heap.size w2 w3 := (Below.drew (Below.refl _ w2)).trans hB3
  have hH3 := (unhide HH).below hB3'
  have e1 := hH3.q1
  have ef := hH3.qf
  have hD := hH3.done _ rfl
  have HD := hide hD
  rw [unhide HT]
  clear hB3 hB3' hH3 hD HH hO3
  go_wp2
  go_ret3
  exact ⟨_, (unhide HD).1, (Kept.of_below (unhide HA1) (fun _ => False)).trans (unhide HD).2 (U := LT x) (fun _ _ h => h.elim) (fun _ _ h => h), .inl rfl⟩

set_option maxHeartbeats 1000000 in
set_option maxRecDepth 100000 in
theorem look7b {w : World} {x : RD} (h : Rel w x) (who op n : Int) (hc : pickN op 9 = 7) (hn0 : ¬ n < 0) (hn : ((x.l.length - x.k : Nat) : Int) < n) :
    Calls Try.prog 13 #[.pointer (some ⟨x.p, 0, none⟩), .pointer (some ⟨x.q, 0, none⟩), .agg #[.int .i64 who, .int .i64 op, .int .i64 n]] w (LookPost w x) := by
  have HC := hide hc
  have HT : Hid (takeE x.l x.k n = 2) := hide (by unfold takeE; rw [if_neg hn0, if_pos hn])
  have HTK : Hid (takeK x.l x.k n = x.k) := hide (by unfold takeK; rw [if_neg hn0, if_pos hn])
  have hA := (Below.refl _ w).alloc (Nat.le_refl _) (.cells #[.int .i64 who, .int .i64 op, .int .i64 n] 35)
  have hR := h.below hA
  have q0 := hR.q0
  have q1 := hR.q1
  have hle := h.rd.le
  have hfit := h.rd.fit
  have HR := hide hR
  have HA := hide hA
  have HB := hide (heap_alloc_new w (.cells #[.int .i64 who, .int .i64 op, .int .i64 n] 35))
  have hws : w.heap.size < (w.alloc (.cells #[.int .i64 who, .int .i64 op, .int .i64 n] 35)).heap.size := by simp
  clear hc hR hA h
  go_enter Try.func13, Try.ntmps13
  go_wp2
  go_quiet (fail)
  go_wp2_with fail
  refine (pick_any op 9 _ (by omega) (by omega)).mono ?_
  rintro e w1 ⟨rfl, hw1⟩
  rw [unhide HC, hw1]
  clear hw1 q0 q1
  have hR1 : Rel (World.drewN (w.alloc (.cells #[.int .i64 who, .int .i64 op, .int .i64 n] 35)) nq) x := (unhide HR).below (belowD (Below.refl _ _) nq)
  have hA1 : Below w.heap.size w (World.drewN (w.alloc (.cells #[.int .i64 who, .int .i64 op, .int .i64 n] 35)) nq) := belowD (unhide HA) nq
  have hB1 : (World.drewN (w.alloc (.cells #[.int .i64 who, .int .i64 op, .int .i64 n] 35)) nq).heap[w.heap.size]? = _ := unhide HB
  have hs1 : w.heap.size < (World.drewN (w.alloc (.cells #[.int .i64 who, .int .i64 op, .int .i64 n] 35)) nq).heap.size := hws
  have b2 : (World.drewN (w.alloc (.cells #[.int .i64 who, .int .i64 op, .int .i64 n] 35)) nq).cell? ⟨w.heap.size, 2, none⟩ = some (.int .i64 n) := by rw [cell_of_row _ _ _ _ _ _ hB1]; rfl
  generalize World.drewN (w.alloc (.cells #[.int .i64 who, .int .i64 op, .int .i64 n] 35)) nq = W1 at hR1 hA1 hB1 hs1 b2 ⊢
  have q0 := hR1.q0
  have q1 := hR1.q1
  have HR1 := hide hR1
  have HA1 := hide hA1
  have HB1 := hide hB1
  clear hR1 hA1 hB1 HR HA HB hws
  go_wp2_with fail
  refine (Within_short (unhide HR1).rd n hn).mono ?_
  rintro e w2 ⟨rfl, j, rfl⟩
  have hR2 := (unhide HR1).below (belowD (Below.refl _ W1) j)
  have hH : Half W1 (World.drewN W1 j) x (takeK x.l x.k n) := by rw [unhide HTK]; exact ⟨hR2.rd, hR2.pl, hR2.by_, Kept.of_below (belowD (Below.refl _ W1) j) _⟩
  have d2 : (World.drewN W1 j).cell? ⟨w.heap.size, 2, none⟩ = some (.int .i64 n) := b2
  clear hR2
  generalize World.drewN W1 j = w2 at hH d2 ⊢
  have d0 := hH.q0
  have d1 := hH.q1
  have hq2 : x.q < w2.heap.size := (Array.getElem?_eq_some_iff.1 hH.pl).1
  have hw2 : w.heap.size < w2.heap.size := World.block_lt_of_cell? w2 _ d2
  have HH := hide hH
  clear hH q0 q1 b2
  go_wp2
  go_region_held3 (fun w' => w'.cell? ⟨x.q, 0, none⟩ = some (.slice x.ao x.l.length x.c) ∧ w'.cell? ⟨x.q, 1, none⟩ = some (.int .i64 (x.k : Int)) ∧ w'.cell? ⟨w.heap.size, 2, none⟩ = some (.int .i64 n)) (first | exact ⟨(hB3.cell (p := ⟨x.q, 0, none⟩) hq2).trans d0, (hB3.cell (p := ⟨x.q, 1, none⟩) hq2).trans d1, (hB3.cell (p := ⟨w.heap.size, 2, none⟩) hw2).trans d2⟩ | go_keep) (first | (go_at_call 40; refine (refTake_any x.ao x.c x.l x.k n _ (show BAt w2.drew x.ao x.l from (unhide HH).by_) hfit hle).mono ?_; rintro e w3 ⟨v2, rfl, hO3, hB3⟩))
  have hB3' : Below w2.heap.size w2 w3 := (Below.drew (Below.refl _ w2)).trans hB3
  have hH3 := (unhide HH).below hB3'
  have e1 := hH3.q1
  have ef := hH3.qf
  have hD := hH3.done _ rfl
  have HD := hide hD
  rw [unhide HT]
  clear hB3 hB3' hH3 hD HH hO3
  go_wp2
  go_ret3
  exact ⟨_, (unhide HD).1, (Kept.of_below (unhide HA1) (fun _ => False)).trans (unhide HD).2 (U := LT x) (fun _ _ h => h.elim) (fun _ _ h => h), .inl rfl⟩

set_option maxHeartbeats 1000000 in
set_option maxRecDepth 100000 in
theorem look7c {w : World} {x : RD} (h : Rel w x) (who op : Int) (m : Nat) (hc : pickN op 9 = 7) (hml : m ≤ x.l.length - x.k) :
    Calls Try.prog 13 #[.pointer (some ⟨x.p, 0, none⟩), .pointer (some ⟨x.q, 0, none⟩), .agg #[.int .i64 who, .int .i64 op, .int .i64 (m : Int)]] w (LookPost w x) := by
  have HC := hide hc
  have HT : Hid (takeE x.l x.k (m : Int) = 0) := hide (by unfold takeE; rw [if_neg (by omega), if_neg (by omega)])
  have HTK : Hid (takeK x.l x.k (m : Int) = x.k + m) := hide (by unfold takeK; rw [if_neg (by omega), if_neg (by omega), Int.toNat_natCast])
  have HTL : Hid (takeL x.l x.k (m : Int) = (x.l.drop x.k).take m) := hide (by unfold takeL; rw [if_neg (by omega), if_neg (by omega), Int.toNat_natCast])
  have hA := (Below.refl _ w).alloc (Nat.le_refl _) (.cells #[.int .i64 who, .int .i64 op, .int .i64 (m : Int)] 35)
  have hR := h.below hA
  have q0 := hR.q0
  have q1 := hR.q1
  have hle := h.rd.le
  have hfit := h.rd.fit
  have HR := hide hR
  have HA := hide hA
  have HB := hide (heap_alloc_new w (.cells #[.int .i64 who, .int .i64 op, .int .i64 (m : Int)] 35))
  have hws : w.heap.size < (w.alloc (.cells #[.int .i64 who, .int .i64 op, .int .i64 (m : Int)] 35)).heap.size := by simp
  clear hc hR hA h
  go_enter Try.func13, Try.ntmps13
  go_wp2
  go_quiet (fail)
  go_wp2_with fail
  refine (pick_any op 9 _ (by omega) (by omega)).mono ?_
  rintro e w1 ⟨rfl, hw1⟩
  rw [unhide HC, hw1]
  clear hw1 q0 q1
  have hR1 : Rel (World.drewN (w.alloc (.cells #[.int .i64 who, .int .i64 op, .int .i64 (m : Int)] 35)) nq) x := (unhide HR).below (belowD (Below.refl _ _) nq)
  have hA1 : Below w.heap.size w (World.drewN (w.alloc (.cells #[.int .i64 who, .int .i64 op, .int .i64 (m : Int)] 35)) nq) := belowD (unhide HA) nq
  have hB1 : (World.drewN (w.alloc (.cells #[.int .i64 who, .int .i64 op, .int .i64 (m : Int)] 35)) nq).heap[w.heap.size]? = _ := unhide HB
  have hs1 : w.heap.size < (World.drewN (w.alloc (.cells #[.int .i64 who, .int .i64 op, .int .i64 (m : Int)] 35)) nq).heap.size := hws
  have b2 : (World.drewN (w.alloc (.cells #[.int .i64 who, .int .i64 op, .int .i64 (m : Int)] 35)) nq).cell? ⟨w.heap.size, 2, none⟩ = some (.int .i64 (m : Int)) := by rw [cell_of_row _ _ _ _ _ _ hB1]; rfl
  generalize World.drewN (w.alloc (.cells #[.int .i64 who, .int .i64 op, .int .i64 (m : Int)] 35)) nq = W1 at hR1 hA1 hB1 hs1 b2 ⊢
  have q0 := hR1.q0
  have q1 := hR1.q1
  have HR1 := hide hR1
  have HA1 := hide hA1
  have HB1 := hide hB1
  clear hR1 hA1 hB1 HR HA HB hws
  go_wp2_with fail
  refine (Within_ok (unhide HR1).rd m hml).mono ?_
  rintro e w2 ⟨p2, g2, rfl, hp2, hg2, hS2, hI2, hG2⟩
  have hH := (unhide HR1).half hI2 hG2
  have d0 := hH.q0
  have d1 := hH.q1
  have d2 : w2.cell? ⟨w.heap.size, 2, none⟩ = some (.int .i64 (m : Int)) := hG2.cell b2 (by
    intro e
    injection e with e
    have h1 := (unhide HR1).rd.row
    rw [← e, unhide HB1] at h1
    simp at h1)
  have hq2 : x.q < w2.heap.size := (Array.getElem?_eq_some_iff.1 hH.pl).1
  have hw2 : w.heap.size < w2.heap.size := World.block_lt_of_cell? w2 _ d2
  have HH := hide hH
  have HS := hide hS2
  clear hI2 hG2 hH q0 q1 b2 hS2
  go_wp2
  go_region_held3 (fun w' => w'.cell? ⟨x.q, 0, none⟩ = some (.slice x.ao x.l.length x.c) ∧ w'.cell? ⟨x.q, 1, none⟩ = some (.int .i64 (x.k : Int)) ∧ w'.cell? ⟨w.heap.size, 2, none⟩ = some (.int .i64 (m : Int))) (first | exact ⟨(hB3.cell (p := ⟨x.q, 0, none⟩) hq2).trans d0, (hB3.cell (p := ⟨x.q, 1, none⟩) hq2).trans d1, (hB3.cell (p := ⟨w.heap.size, 2, none⟩) hw2).trans d2⟩ | go_keep) (first | (go_at_call 40; refine (refTake_any x.ao x.c x.l x.k (m : Int) _ (show BAt w2.drew x.ao x.l from (unhide HH).by_) hfit hle).mono ?_; rintro e w3 ⟨v2, rfl, hO3, hB3⟩))
  have hB3' : Below w2.heap.size w2 w3 := (Below.drew (Below.refl _ w2)).trans hB3
  have hH3 := (unhide HH).below hB3'
  have e1 := hH3.q1
  have ef := hH3.qf
  have hD := hH3.done ((takeK x.l x.k (m : Int) : Nat) : Int) (by rw [unhide HTK])
  have HD := hide hD
  rw [unhide HT]
  have hS3 := (unhide HS).below hB3'
  have hkW := kept_setCell w3 ⟨x.q, 1, none⟩ (.int .i64 ((takeK x.l x.k (m : Int) : Nat) : Int))
  have hp2l := (unhide HS).pl
  have hO3' := hO3.keep hkW (own_not_place hH3.pl hO3)
  have hS3' : IsReader (w3.setCell ⟨x.q, 1, none⟩ (.int .i64 ((takeK x.l x.k (m : Int) : Nat) : Int))) p2 g2 m ((x.l.drop x.k).take m) 0 := by
    refine ⟨(hkW.block _ hS3.pl ?_).trans hS3.row, hS3.bytes.keep hkW (fun b off e hl e' => hS3.bytes.not_in hH3.pl (row2_not _ _ _ _) b off e hl e'), Nat.lt_of_lt_of_le hS3.gl hkW.size, hS3.ne, hS3.le, hS3.cap_, hS3.fit⟩
    intro e
    have h1 := hS3.row
    rw [e, hH3.pl] at h1
    simp at h1
  rw [unhide HTL] at hO3'
  have hsz3 : w2.heap.size ≤ w3.heap.size := hB3'.size
  have hO3s := hO3'.at
  obtain ⟨ao3, c3, hv2, hb3⟩ := hO3s
  have HAO : Hid (∀ b off, ao3 = some ⟨b, off, none⟩ → 0 < ((x.l.drop x.k).take m).length → w.heap.size ≤ b) := hide (by
    intro b off e hl
    rcases hO3'.shape with ⟨_, hx⟩ | ⟨g, cp, hx, hb, _⟩
    · rw [hx] at hl; simp at hl
    · rw [hv2] at hx
      injection hx with hx
      rw [e] at hx
      injection hx with hx
      injection hx with hx
      subst hx
      have hb' : w2.heap.size ≤ b := hb
      omega)
  have HO3 := hide hO3'
  have HS3 := hide hS3'
  have HB3 := hide hb3
  subst hv2
  have hlen2 : ((x.l.drop x.k).take m).length = m := by simp; omega
  have hws2 : w.heap.size ≤ W1.heap.size := by omega
  clear hB3 hB3' hH3 hD HH hO3 hS3 hO3' hS3' hkW hb3 HS
  rw [hlen2]
  have hsz4 : (w3.setCell ⟨x.q, 1, none⟩ (.int .i64 ((takeK x.l x.k (m : Int) : Nat) : Int))).heap.size = w3.heap.size := by simp [World.setCell]
  have hB4 := (Below.refl _ (w3.setCell ⟨x.q, 1, none⟩ (.int .i64 ((takeK x.l x.k (m : Int) : Nat) : Int)))).alloc (Nat.le_refl _) (.cells #[.slice ao3 m c3, .int .i64 0] 32)
  have hN4 := heap_alloc_new (w3.setCell ⟨x.q, 1, none⟩ (.int .i64 ((takeK x.l x.k (m : Int) : Nat) : Int))) (.cells #[.slice ao3 m c3, .int .i64 0] 32)
  rw [hsz4] at hN4
  have HN4 := hide hN4
  have HB4 := hide hB4
  clear hB4 hN4 hsz4
  go_wp2
  go_ret3
  refine ⟨_, (unhide HD).1.below (unhide HB4), ((Kept.of_below (unhide HA1) (fun _ => False)).trans (unhide HD).2 (U := LT x) (fun _ _ h => h.elim) (fun _ _ h => h)).trans (Kept.of_below (unhide HB4) (fun _ => False)) (fun _ _ h => h) (fun _ _ h => h.elim), .inr ⟨⟨p2, g2, m, w3.heap.size, ao3, c3, (x.l.drop x.k).take m, 0⟩, rfl, ⟨(unhide HS3).below (unhide HB4), ?_, (unhide HB3).below' (unhide HB4)⟩, by show w.heap.size ≤ p2; omega, by show w.heap.size ≤ w3.heap.size; omega, by show w.heap.size ≤ g2; omega, unhide HAO⟩⟩
  show _ = some (Obj.cells #[.slice ao3 ((x.l.drop x.k).take m).length c3, .int .i64 ((0 : Nat) : Int)] _ (0, 0))
  rw [hlen2]
  exact unhide HN4

set_option maxHeartbeats 1000000 in
set_option maxRecDepth 100000 in
theorem look8 {w : World} {x : RD} (h : Rel w x) (who op n : Int) (hc : pickN op 9 = 8) :
    Calls Try.prog 13 #[.pointer (some ⟨x.p, 0, none⟩), .pointer (some ⟨x.q, 0, none⟩), .agg #[.int .i64 who, .int .i64 op, .int .i64 n]] w (LookPost w x) := by
  have HC := hide hc
  have hA := (Below.refl _ w).alloc (Nat.le_refl _) (.cells #[.int .i64 who, .int .i64 op, .int .i64 n] 35)
  have hR := h.below hA
  have q0 := hR.q0
  have q1 := hR.q1
  have hle := h.rd.le
  have hfit := h.rd.fit
  have HR := hide hR
  have HA := hide hA
  have HB := hide (heap_alloc_new w (.cells #[.int .i64 who, .int .i64 op, .int .i64 n] 35))
  have hws : w.heap.size < (w.alloc (.cells #[.int .i64 who, .int .i64 op, .int .i64 n] 35)).heap.size := by simp
  clear hc hR hA h
  go_enter Try.func13, Try.ntmps13
  go_wp2
  go_quiet (fail)
  go_wp2_with fail
  refine (pick_any op 9 _ (by omega) (by omega)).mono ?_
  rintro e w1 ⟨rfl, hw1⟩
  rw [unhide HC, hw1]
  clear hw1 q0 q1
  have hR1 : Rel (World.drewN (w.alloc (.cells #[.int .i64 who, .int .i64 op, .int .i64 n] 35)) nq) x := (unhide HR).below (belowD (Below.refl _ _) nq)
  have hA1 : Below w.heap.size w (World.drewN (w.alloc (.cells #[.int .i64 who, .int .i64 op, .int .i64 n] 35)) nq) := belowD (unhide HA) nq
  have hB1 : (World.drewN (w.alloc (.cells #[.int .i64 who, .int .i64 op, .int .i64 n] 35)) nq).heap[w.heap.size]? = _ := unhide HB
  have hs1 : w.heap.size < (World.drewN (w.alloc (.cells #[.int .i64 who, .int .i64 op, .int .i64 n] 35)) nq).heap.size := hws
  have b2 : (World.drewN (w.alloc (.cells #[.int .i64 who, .int .i64 op, .int .i64 n] 35)) nq).cell? ⟨w.heap.size, 2, none⟩ = some (.int .i64 n) := by rw [cell_of_row _ _ _ _ _ _ hB1]; rfl
  generalize World.drewN (w.alloc (.cells #[.int .i64 who, .int .i64 op, .int .i64 n] 35)) nq = W1 at hR1 hA1 hB1 hs1 b2 ⊢
  have q0 := hR1.q0
  have q1 := hR1.q1
  have HR1 := hide hR1
  have HA1 := hide hA1
  have HB1 := hide hB1
  clear hR1 hA1 hB1 HR HA HB hws
  by_cases hk : x.k < x.l.length
  · have hk' : (x.k : Int) < (x.l.length : Int) := by omega
    go_wp2
    go_quiet (fail)
    have hR2 := (unhide HR1).below (belowD (Below.refl _ W1) nq)
    go_wp2_with fail
    refine (End_any hR2.rd).mono ?_
    rintro e w2 ⟨rfl, j, rfl⟩
    rw [if_pos hk]
    have hR3 := hR2.below (belowD (Below.refl _ _) j)
    go_wp2
    go_ret3
    exact ⟨x.k, (unhide HR1).below (belowD (Below.refl _ _) _), Kept.of_below (belowD (unhide HA1) _) _, .inl rfl⟩
  · have hk' : ¬ (x.k : Int) < (x.l.length : Int) := by omega
    go_wp2
    go_quiet (fail)
    have hR2 := (unhide HR1).below (belowD (Below.refl _ W1) nq)
    go_wp2_with fail
    refine (End_any hR2.rd).mono ?_
    rintro e w2 ⟨rfl, j, rfl⟩
    rw [if_neg hk]
    go_wp2
    go_ret3
    exact ⟨x.k, (unhide HR1).below (belowD (Below.refl _ _) _), Kept.of_below (belowD (unhide HA1) _) _, .inl rfl⟩

theorem look_any {w : World} {x : RD} (h : Rel w x) (who op n : Int) :
    Calls Try.prog 13 #[.pointer (some ⟨x.p, 0, none⟩), .pointer (some ⟨x.q, 0, none⟩), .agg #[.int .i64 who, .int .i64 op, .int .i64 n]] w (LookPost w x) := by
  have hlt := pickN_lt op 9 (by omega)
  have hc : pickN op 9 = 0 ∨ pickN op 9 = 1 ∨ pickN op 9 = 2 ∨ pickN op 9 = 3 ∨ pickN op 9 = 4 ∨ pickN op 9 = 5 ∨ pickN op 9 = 6 ∨ pickN op 9 = 7 ∨ pickN op 9 = 8 := by omega
  rcases hc with hc | hc | hc | hc | hc | hc | hc | hc | hc
  · exact look0 h who op n hc
  · exact look1 h who op n hc
  · exact look2 h who op n hc
  · exact look3 h who op n hc
  · exact look4 h who op n hc
  · exact look5 h who op n hc
  · exact look6 h who op n hc
  · by_cases hn : n < 0
    · exact look7a h who op n hc hn
    · by_cases hn2 : ((x.l.length - x.k : Nat) : Int) < n
      · exact look7b h who op n hc hn hn2
      · obtain ⟨m, rfl⟩ := Int.eq_ofNat_of_zero_le (show 0 ≤ n by omega)
        exact look7c h who op m hc (by omega)
  · exact look8 h who op n hc

end Go.Proofs.Ytggaecmjadkopaa
