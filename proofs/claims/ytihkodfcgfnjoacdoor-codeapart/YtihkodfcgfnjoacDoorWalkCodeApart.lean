/-
  The walk of the law CodeApart: it returns true for every two instructions, and writes nothing that was there.
-/
import Derived.Test.YtihkodfcgfnjoacDoorAp1
import Derived.Test.YtihkodfcgfnjoacDoorFit
import Derived.Deep.RegionHeld
namespace Go.Proofs.YtihkodfcgfnjoacDoor
open Go.RowKit

set_option maxHeartbeats 4000000 in
theorem walkCodeApart {w : World} (hW : WidAt w ∧ WordsC w) (p : Int) (op : Nat) (a b : Int) (ho : op < 256) (_ : -9223372036854775808 ≤ a ∧ a ≤ 9223372036854775807) (_ : -9223372036854775808 ≤ b ∧ b ≤ 9223372036854775807) (p2 : Int) (op2 : Nat) (a2 b2 : Int) (ho2 : op2 < 256) (_ : -9223372036854775808 ≤ a2 ∧ a2 ≤ 9223372036854775807) (_ : -9223372036854775808 ≤ b2 ∧ b2 ≤ 9223372036854775807) :
    Calls Tryd.prog 6 #[.agg #[.int .i64 p, .int .u8 (op : Int), .int .i64 a, .int .i64 b], .agg #[.int .i64 p2, .int .u8 (op2 : Int), .int .i64 a2, .int .i64 b2]] w fun e w' => e = .returned (.bool true) ∧ Below w.heap.size w w' := by
  obtain ⟨hW1, hW2⟩ := hW
  have HW := hide hW1
  have HC := hide hW2
  clear hW1 hW2
  have HB0 : Hid (Below w.heap.size w ((w.alloc (.cells #[.int .i64 p, .int .u8 (op : Int), .int .i64 a, .int .i64 b] 37)).alloc (.cells #[.int .i64 p2, .int .u8 (op2 : Int), .int .i64 a2, .int .i64 b2] 37))) := hide (((Below.refl _ _).alloc (Nat.le_refl _) _).alloc (by simp) _)
  have HX0 : Hid (IAt ((w.alloc (.cells #[.int .i64 p, .int .u8 (op : Int), .int .i64 a, .int .i64 b] 37)).alloc (.cells #[.int .i64 p2, .int .u8 (op2 : Int), .int .i64 a2, .int .i64 b2] 37)) w.heap.size p op a b) := hide (IAt.below (heap_alloc_new w _) ((Below.refl _ _).alloc (Nat.le_refl _) _))
  have HY0 : Hid (IAt ((w.alloc (.cells #[.int .i64 p, .int .u8 (op : Int), .int .i64 a, .int .i64 b] 37)).alloc (.cells #[.int .i64 p2, .int .u8 (op2 : Int), .int .i64 a2, .int .i64 b2] 37)) (w.heap.size + 1) p2 op2 a2 b2) := hide (by
    have h := heap_alloc_new (w.alloc (.cells #[.int .i64 p, .int .u8 (op : Int), .int .i64 a, .int .i64 b] 37)) (.cells #[.int .i64 p2, .int .u8 (op2 : Int), .int .i64 a2, .int .i64 b2] 37)
    rw [World.size_alloc] at h
    exact h)
  go_enter Tryd.func6, Tryd.ntmps6
  go_wp2_with fail
  have HB1 : Hid (Below w.heap.size w ((w.alloc (.cells #[.int .i64 p, .int .u8 (op : Int), .int .i64 a, .int .i64 b] 37)).alloc (.cells #[.int .i64 p2, .int .u8 (op2 : Int), .int .i64 a2, .int .i64 b2] 37)).drew) := hide ((unhide HB0).trans ⟨rfl, rfl, rfl, Nat.le_refl _, fun _ _ => rfl⟩)
  have HX1 : Hid (IAt ((w.alloc (.cells #[.int .i64 p, .int .u8 (op : Int), .int .i64 a, .int .i64 b] 37)).alloc (.cells #[.int .i64 p2, .int .u8 (op2 : Int), .int .i64 a2, .int .i64 b2] 37)).drew w.heap.size p op a b) := hide (unhide HX0)
  have HY1 : Hid (IAt ((w.alloc (.cells #[.int .i64 p, .int .u8 (op : Int), .int .i64 a, .int .i64 b] 37)).alloc (.cells #[.int .i64 p2, .int .u8 (op2 : Int), .int .i64 a2, .int .i64 b2] 37)).drew (w.heap.size + 1) p2 op2 a2 b2) := hide (unhide HY0)
  clear HB0 HX0 HY0
  refine wp_region_held_drew (S := fun _ => True) (by kernel_rfl) trivial (fun hS => ?_)
  generalize ((w.alloc (.cells #[.int .i64 p, .int .u8 (op : Int), .int .i64 a, .int .i64 b] 37)).alloc (.cells #[.int .i64 p2, .int .u8 (op2 : Int), .int .i64 a2, .int .i64 b2] 37)).drew = W1 at HB1 HX1 HY1 ⊢
  clear hS
  refine wpAnyH_ready (rs := [0, 2]) (by kernel_rfl) (by simp) ?_
  refine (AllReadyH.cons rfl (fun K hK => ?_) (AllReadyH.cons rfl (fun K hK => ?_) AllReadyH.nil))
  · have c0 := (unhide HX1).c0
    obtain ⟨c1, c2, c3⟩ := (unhide HX1).c
    go_simp
    refine hK.out _ _ trivial (fun hS => ?_)
    clear hK K hS c0 c1 c2 c3
    refine wpAnyH_ready (rs := [1, 2]) (by kernel_rfl) (by simp) ?_
    refine (AllReadyH.cons rfl (fun K hK => ?_) (AllReadyH.cons rfl (fun K hK => ?_) AllReadyH.nil))
    · go_simp
      go_wp2_with (go_at_call 14; refine (fit_any p op a b _ ho).mono ?_; rintro e V11 ⟨⟨A, B, rfl, hin⟩, hB⟩)
      have HI12 := hide hin
      have HX13 := hide ((unhide HX1).below hB)
      have HY14 := hide ((unhide HY1).below hB)
      have HB15 := hide ((unhide HB1).trans (hB.mono (unhide HB1).size))
      refine hK.out _ _ trivial (fun hS => ?_)
      clear hK K hS hin hB HX1 HY1 HB1
      refine wpAnyH_ready (rs := [2]) (by kernel_rfl) (by simp) ?_
      refine (AllReadyH.cons rfl (fun K hK => ?_) AllReadyH.nil)
      have c0 := (unhide HY14).c0
      obtain ⟨c1, c2, c3⟩ := (unhide HY14).c
      go_simp
      refine hK.out _ _ trivial (fun hS => ?_)
      clear hK K hS c0 c1 c2 c3
      refine wpAnyH_ready (rs := [3]) (by kernel_rfl) (by simp) ?_
      refine (AllReadyH.cons rfl (fun K hK => ?_) AllReadyH.nil)
      go_simp
      go_wp2_with (go_at_call 14; refine (fit_any p2 op2 a2 b2 _ ho2).mono ?_; rintro e V16 ⟨⟨A2, B2, rfl, hin⟩, hB⟩)
      have HI17 := hide hin
      have HX18 := hide ((unhide HX13).below hB)
      have HY19 := hide ((unhide HY14).below hB)
      have HB20 := hide ((unhide HB15).trans (hB.mono (unhide HB15).size))
      refine hK.out _ _ trivial (fun hS => ?_)
      clear hK K hS hin hB HX13 HY14 HB15
      refine wpAnyH_ready (rs := [4]) (by kernel_rfl) (by simp) ?_
      refine (AllReadyH.cons rfl (fun K hK => ?_) AllReadyH.nil)
      rw [if_pos (by rfl)]
      refine wp_store_row 37 _ _ rfl w.heap.size #[.int .i64 0, .int .u8 ((op % 34 : Nat) : Int), .int .i64 A, .int .i64 B] rfl rfl 37 _ (unhide HX18) sizeIn rfl (by simp; exact ⟨rfl, rfl, rfl, rfl⟩) ?_
      refine hK.out _ _ trivial (fun hS => ?_)
      clear hK K hS
      have HX21 := hide ((unhide HX18).row 0 (op % 34) A B)
      have HY22 := hide ((unhide HY19).rowOther (g := w.heap.size) #[.int .i64 0, .int .u8 ((op % 34 : Nat) : Int), .int .i64 A, .int .i64 B] (by simp))
      have HB23 := hide (below_setRowI (unhide HB20) (g := w.heap.size) (by simp) #[.int .i64 0, .int .u8 ((op % 34 : Nat) : Int), .int .i64 A, .int .i64 B])
      generalize (V16.setRow w.heap.size #[.int .i64 0, .int .u8 ((op % 34 : Nat) : Int), .int .i64 A, .int .i64 B]) = V24 at HX21 HY22 HB23 ⊢
      clear HX18 HY19 HB20 V16
      refine wpAnyH_ready (rs := [5]) (by kernel_rfl) (by simp) ?_
      refine (AllReadyH.cons rfl (fun K hK => ?_) AllReadyH.nil)
      rw [if_pos (by rfl)]
      refine wp_store_row 37 _ _ rfl (w.heap.size + 1) #[.int .i64 0, .int .u8 ((op2 % 34 : Nat) : Int), .int .i64 A2, .int .i64 B2] rfl rfl 37 _ (unhide HY22) sizeIn rfl (by simp; exact ⟨rfl, rfl, rfl, rfl⟩) ?_
      refine hK.out _ _ trivial (fun hS => ?_)
      clear hK K hS
      have HX25 := hide ((unhide HY22).row 0 (op2 % 34) A2 B2)
      have HY26 := hide ((unhide HX21).rowOther (g := (w.heap.size + 1)) #[.int .i64 0, .int .u8 ((op2 % 34 : Nat) : Int), .int .i64 A2, .int .i64 B2] (by simp))
      have HB27 := hide (below_setRowI (unhide HB23) (g := (w.heap.size + 1)) (by simp) #[.int .i64 0, .int .u8 ((op2 % 34 : Nat) : Int), .int .i64 A2, .int .i64 B2])
      generalize (V24.setRow (w.heap.size + 1) #[.int .i64 0, .int .u8 ((op2 % 34 : Nat) : Int), .int .i64 A2, .int .i64 B2]) = V28 at HX25 HY26 HB27 ⊢
      clear HY22 HX21 HB23 V24
      refine wpAnyH_done (by kernel_rfl) ?_ _
      have hr1 : op % 34 < 34 := Nat.mod_lt _ (by omega)
      have hr2 : op2 % 34 < 34 := Nat.mod_lt _ (by omega)
      obtain ⟨r1, HR1⟩ : ∃ r1, Hid (op % 34 = r1) := ⟨_, hide rfl⟩
      obtain ⟨r2, HR2⟩ : ∃ r2, Hid (op2 % 34 = r2) := ⟨_, hide rfl⟩
      rw [unhide HR1] at hr1 HI12 HY26
      rw [unhide HR2] at hr2 HI17 HX25
      clear HR1 HR2
      have hE1 : eE r1 A B = 0 := by unfold eE; rw [if_pos hr1, if_pos (unhide HI12)]
      have hE2 : eE r2 A2 B2 = 0 := by unfold eE; rw [if_pos hr2, if_pos (unhide HI17)]
      have hL1 : eL r1 A B = encL r1 A B := by unfold eL; rw [if_pos hE1]
      have hL2 : eL r2 A2 B2 = encL r2 A2 B2 := by unfold eL; rw [if_pos hE2]
      have E1 := hide (fun W h => Encode_any 0 r1 A B W h (by omega))
      have E2 := hide (fun W h => Encode_any 0 r2 A2 B2 W h (by omega))
      rw [hE1, hL1] at E1
      rw [hE2, hL2] at E2
      have n1 := encL_length r1 A B
      have n2 := encL_length r2 A2 B2
      have la1 := wA_le r1 hr1
      have lb1 := wB_le r1 hr1
      have la2 := wA_le r2 hr2
      have lb2 := wB_le r2 hr2
      have HAP := hide (enc_apart r1 r2 A B A2 B2 hr1 hr2 (unhide HI12) (unhide HI17) _ rfl)
      have hOW := op_word r1 hr1
      have hWA := words_apart r1 r2 hr1 hr2
      have HN1 : Hid (nmD r1 = wC r1) := hide (by unfold nmD; rw [if_pos hr1])
      have HN2 : Hid (nmD r2 = wC r2) := hide (by unfold nmD; rw [if_pos hr2])
      have m1 : 0 < (encL r1 A B).length ∧ (encL r1 A B).length ≤ 6 := by omega
      have m2 : 0 < (encL r2 A2 B2).length ∧ (encL r2 A2 B2).length ≤ 6 := by omega
      clear hE1 hE2 hL1 hL2 n1 n2 la1 lb1 la2 lb2 HI12 HI17
      generalize encL r1 A B = x at E1 HAP m1
      generalize encL r2 A2 B2 = y at E2 HAP m2
      obtain ⟨c1, c2, c3⟩ := (unhide HY26).c
      have c0 := (unhide HY26).c0
      go_wp2_with fail
      clear c0 c1 c2 c3
      with_reducible refine (unhide E1 _ ((unhide HW).below (unhide HB27))).mono ?_
      rintro e w3 ⟨v3, rfl, hO3, hB3⟩
      have HB3 := hide ((unhide HB27).trans (hB3.mono (unhide HB27).size))
      have HX3 := hide ((unhide HY26).below hB3)
      have HY3 := hide ((unhide HX25).below hB3)
      have HO3 := hide hO3
      obtain ⟨a3, p3, rfl, _⟩ := hO3.at
      clear hO3 hB3 HB27 HY26 HX25
      obtain ⟨d1, d2, d3⟩ := (unhide HY3).c
      have d0 := (unhide HY3).c0
      go_wp2_with fail
      with_reducible refine (unhide E2 _ ((unhide HW).below (unhide HB3))).mono ?_
      clear d0 d1 d2 d3
      rintro e w4 ⟨v4, rfl, hO4, hB4⟩
      have HB4 := hide ((unhide HB3).trans (hB4.mono (unhide HB3).size))
      have HX4 := hide ((unhide HX3).below hB4)
      have HY4 := hide ((unhide HY3).below hB4)
      obtain ⟨_, _, e3, hb3⟩ := ((unhide HO3).below hB4).at
      simp only [Value.slice.injEq] at e3
      obtain ⟨rfl, _, rfl⟩ := e3
      obtain ⟨a4, p4, rfl, hb4⟩ := hO4.at
      have hc3 : x.length ≤ p3 := by
        rcases (unhide HO3).shape with ⟨h1, _⟩ | ⟨g', cap', h1, _, _, h4, _, _⟩
        · injection h1 with _ h1; omega
        · injection h1 with _ _ h1; omega
      have hc4 : y.length ≤ p4 := by
        rcases hO4.shape with ⟨h1, _⟩ | ⟨g', cap', h1, _, _, h4, _, _⟩
        · injection h1 with _ h1; omega
        · injection h1 with _ _ h1; omega
      have HA3 := hide hb3
      have HA4 := hide hb4
      clear hO4 hB4 HB3 HX3 HY3 HO3 hb3 hb4 E1 E2
      obtain ⟨c1, c2, c3⟩ := (unhide HX4).c
      have c0 := (unhide HX4).c0
      obtain ⟨d1, d2, d3⟩ := (unhide HY4).c
      have d0 := (unhide HY4).c0
      have N1 := hide (fun k => Name_any r1 (w4.drewN k) (((unhide HC).below (unhide HB4)).below (belowD (Below.refl _ _) k)) (by omega))
      have N2 := hide (fun k => Name_any r2 (w4.drewN k) (((unhide HC).below (unhide HB4)).below (belowD (Below.refl _ _) k)) (by omega))
      have N0 := hide (Name_any r1 w4 ((unhide HC).below (unhide HB4)) (by omega))
      have O0 := hide (Op_any (wC r1) w4 ((unhide HC).below (unhide HB4)))
      rw [hOW] at O0
      rw [unhide HN1] at N1 N0
      rw [unhide HN2] at N2
      clear hOW HN1 HN2 HX4 HY4
      generalize wC r1 = z1 at N0 N1 O0 hWA
      generalize wC r2 = z2 at N2 hWA
      have q1 : ((x.length : Int) == 0) = false := beq_f (by omega)
      have q2 : ((y.length : Int) == 0) = false := beq_f (by omega)
      go_wp2_with (first | (go_at_call 20; with_reducible refine (unhide N0).mono ?_; rintro e w5 ⟨rfl, hw5⟩; rw [hw5]; clear hw5) | (go_at_call 19; with_reducible refine (unhide O0).mono ?_; rintro e w5 ⟨rfl, hw5⟩; rw [hw5]; clear hw5))
      have HWA := hide hWA
      clear hWA N0 O0 q1 q2
      have hp3 : ¬ p3 = 0 := by omega
      have hp4 : ¬ p4 = 0 := by omega
      by_cases hyx : y.length < x.length
      · have t1 : (x.take y.length).length = y.length := by rw [List.length_take]; omega
        have t2 : (y.take y.length).length = y.length := by rw [List.length_take]; omega
        have EQ := hide (fun j k => Equal_any a3 a4 p3 p4 (x.take y.length) (y.take y.length) ((w4.drewN j).drewN k) (by have h := unhide HA3; rw [← List.take_append_drop y.length x] at h; exact h.take) (by have h := unhide HA4; rw [← List.take_append_drop y.length y] at h; exact h.take) (by unfold maxLen; omega) (by unfold maxLen; omega))
        rw [t1, t2] at EQ
        have AP : Hid ((x.take y.length == y.take y.length) = (decide (r1 = r2) && decide (A = A2) && decide (B = B2))) := hide (by have h := unhide HAP; rwa [show min x.length y.length = y.length from Nat.min_eq_right (by omega)] at h)
        generalize (x.take y.length == y.take y.length) = eqv at EQ AP
        have i3 : (y.length : Int) ≤ (p3 : Int) := by omega
        have i4 : (y.length : Int) ≤ (p4 : Int) := by omega
        have HYX := hide hyx
        clear t1 t2
        by_cases hrr : r1 = r2
        · have b1 : (((r1 : Nat) : Int) != ((r2 : Nat) : Int)) = false := bne_f (by omega)
          have b2 : (((r1 : Nat) : Int) == ((r2 : Nat) : Int)) = true := beq_t (by omega)
          have HRR := hide hrr
          clear hrr
          by_cases hA : A = A2
          · by_cases hB : B = B2
            · have bA : (A == A2) = true := beq_t hA
              have bB : (B == B2) = true := beq_t hB
              have HA := hide hA
              have HBb := hide hB
              clear hA hB
              go_quiet (fail)
              go_wp2_with fail
              have EQ5 := hide (fun k => unhide EQ nq k)
              have HB5 : Hid (Below w.heap.size w (w4.drewN nq)) := hide (belowD (unhide HB4) _)
              have g0 : (w4.drewN nq).cell? ⟨w.heap.size, 0, none⟩ = some (.int .i64 0) := c0
              have g1 : (w4.drewN nq).cell? ⟨w.heap.size, 1, none⟩ = some (.int .u8 (r1 : Int)) := c1
              have g2 : (w4.drewN nq).cell? ⟨w.heap.size, 2, none⟩ = some (.int .i64 A) := c2
              have g3 : (w4.drewN nq).cell? ⟨w.heap.size, 3, none⟩ = some (.int .i64 B) := c3
              have j0 : (w4.drewN nq).cell? ⟨w.heap.size + 1, 0, none⟩ = some (.int .i64 0) := d0
              have j1 : (w4.drewN nq).cell? ⟨w.heap.size + 1, 1, none⟩ = some (.int .u8 (r2 : Int)) := d1
              have j2 : (w4.drewN nq).cell? ⟨w.heap.size + 1, 2, none⟩ = some (.int .i64 A2) := d2
              have j3 : (w4.drewN nq).cell? ⟨w.heap.size + 1, 3, none⟩ = some (.int .i64 B2) := d3
              generalize w4.drewN nq = w5 at EQ5 HB5 g0 g1 g2 g3 j0 j1 j2 j3 ⊢
              clear c0 c1 c2 c3 d0 d1 d2 d3 EQ N1 N2 HA3 HA4 HB4
              go_quiet ((go_at_call 10; with_reducible exact Calls.quiet_of (unhide EQ5 _)))
              go_wp2
              go_ret
              refine ⟨ret_bool ?_, belowD (unhide HB5) _⟩
              rw [unhide AP]
              rw [unhide HRR]
              rw [decide_eq_true (unhide HA), decide_eq_true (unhide HBb)]
              simp
            · have bA : (A == A2) = true := beq_t hA
              have bB : (B == B2) = false := beq_f hB
              have HA := hide hA
              have HBb := hide hB
              clear hA hB
              go_quiet (fail)
              go_wp2_with fail
              have EQ5 := hide (fun k => unhide EQ nq k)
              have HB5 : Hid (Below w.heap.size w (w4.drewN nq)) := hide (belowD (unhide HB4) _)
              have g0 : (w4.drewN nq).cell? ⟨w.heap.size, 0, none⟩ = some (.int .i64 0) := c0
              have g1 : (w4.drewN nq).cell? ⟨w.heap.size, 1, none⟩ = some (.int .u8 (r1 : Int)) := c1
              have g2 : (w4.drewN nq).cell? ⟨w.heap.size, 2, none⟩ = some (.int .i64 A) := c2
              have g3 : (w4.drewN nq).cell? ⟨w.heap.size, 3, none⟩ = some (.int .i64 B) := c3
              have j0 : (w4.drewN nq).cell? ⟨w.heap.size + 1, 0, none⟩ = some (.int .i64 0) := d0
              have j1 : (w4.drewN nq).cell? ⟨w.heap.size + 1, 1, none⟩ = some (.int .u8 (r2 : Int)) := d1
              have j2 : (w4.drewN nq).cell? ⟨w.heap.size + 1, 2, none⟩ = some (.int .i64 A2) := d2
              have j3 : (w4.drewN nq).cell? ⟨w.heap.size + 1, 3, none⟩ = some (.int .i64 B2) := d3
              generalize w4.drewN nq = w5 at EQ5 HB5 g0 g1 g2 g3 j0 j1 j2 j3 ⊢
              clear c0 c1 c2 c3 d0 d1 d2 d3 EQ N1 N2 HA3 HA4 HB4
              go_quiet ((go_at_call 10; with_reducible exact Calls.quiet_of (unhide EQ5 _)))
              go_wp2
              go_ret
              refine ⟨ret_bool ?_, belowD (unhide HB5) _⟩
              rw [unhide AP]
              rw [unhide HRR]
              rw [decide_eq_true (unhide HA), decide_eq_false (unhide HBb)]
              simp
          · by_cases hB : B = B2
            · have bA : (A == A2) = false := beq_f hA
              have bB : (B == B2) = true := beq_t hB
              have HA := hide hA
              have HBb := hide hB
              clear hA hB
              go_quiet (fail)
              go_wp2_with fail
              have EQ5 := hide (fun k => unhide EQ nq k)
              have HB5 : Hid (Below w.heap.size w (w4.drewN nq)) := hide (belowD (unhide HB4) _)
              have g0 : (w4.drewN nq).cell? ⟨w.heap.size, 0, none⟩ = some (.int .i64 0) := c0
              have g1 : (w4.drewN nq).cell? ⟨w.heap.size, 1, none⟩ = some (.int .u8 (r1 : Int)) := c1
              have g2 : (w4.drewN nq).cell? ⟨w.heap.size, 2, none⟩ = some (.int .i64 A) := c2
              have g3 : (w4.drewN nq).cell? ⟨w.heap.size, 3, none⟩ = some (.int .i64 B) := c3
              have j0 : (w4.drewN nq).cell? ⟨w.heap.size + 1, 0, none⟩ = some (.int .i64 0) := d0
              have j1 : (w4.drewN nq).cell? ⟨w.heap.size + 1, 1, none⟩ = some (.int .u8 (r2 : Int)) := d1
              have j2 : (w4.drewN nq).cell? ⟨w.heap.size + 1, 2, none⟩ = some (.int .i64 A2) := d2
              have j3 : (w4.drewN nq).cell? ⟨w.heap.size + 1, 3, none⟩ = some (.int .i64 B2) := d3
              generalize w4.drewN nq = w5 at EQ5 HB5 g0 g1 g2 g3 j0 j1 j2 j3 ⊢
              clear c0 c1 c2 c3 d0 d1 d2 d3 EQ N1 N2 HA3 HA4 HB4
              go_quiet ((go_at_call 10; with_reducible exact Calls.quiet_of (unhide EQ5 _)))
              go_wp2
              go_ret
              refine ⟨ret_bool ?_, belowD (unhide HB5) _⟩
              rw [unhide AP]
              rw [unhide HRR]
              rw [decide_eq_false (unhide HA), decide_eq_true (unhide HBb)]
              simp
            · have bA : (A == A2) = false := beq_f hA
              have bB : (B == B2) = false := beq_f hB
              have HA := hide hA
              have HBb := hide hB
              clear hA hB
              go_quiet (fail)
              go_wp2_with fail
              have EQ5 := hide (fun k => unhide EQ nq k)
              have HB5 : Hid (Below w.heap.size w (w4.drewN nq)) := hide (belowD (unhide HB4) _)
              have g0 : (w4.drewN nq).cell? ⟨w.heap.size, 0, none⟩ = some (.int .i64 0) := c0
              have g1 : (w4.drewN nq).cell? ⟨w.heap.size, 1, none⟩ = some (.int .u8 (r1 : Int)) := c1
              have g2 : (w4.drewN nq).cell? ⟨w.heap.size, 2, none⟩ = some (.int .i64 A) := c2
              have g3 : (w4.drewN nq).cell? ⟨w.heap.size, 3, none⟩ = some (.int .i64 B) := c3
              have j0 : (w4.drewN nq).cell? ⟨w.heap.size + 1, 0, none⟩ = some (.int .i64 0) := d0
              have j1 : (w4.drewN nq).cell? ⟨w.heap.size + 1, 1, none⟩ = some (.int .u8 (r2 : Int)) := d1
              have j2 : (w4.drewN nq).cell? ⟨w.heap.size + 1, 2, none⟩ = some (.int .i64 A2) := d2
              have j3 : (w4.drewN nq).cell? ⟨w.heap.size + 1, 3, none⟩ = some (.int .i64 B2) := d3
              generalize w4.drewN nq = w5 at EQ5 HB5 g0 g1 g2 g3 j0 j1 j2 j3 ⊢
              clear c0 c1 c2 c3 d0 d1 d2 d3 EQ N1 N2 HA3 HA4 HB4
              go_quiet ((go_at_call 10; with_reducible exact Calls.quiet_of (unhide EQ5 _)))
              go_wp2
              go_ret
              refine ⟨ret_bool ?_, belowD (unhide HB5) _⟩
              rw [unhide AP]
              rw [unhide HRR]
              rw [decide_eq_false (unhide HA), decide_eq_false (unhide HBb)]
              simp
        · have b1 : (((r1 : Nat) : Int) != ((r2 : Nat) : Int)) = true := bne_t (by omega)
          have b2 : (((r1 : Nat) : Int) == ((r2 : Nat) : Int)) = false := beq_f (by omega)
          have hz : (z1.toList == z2.toList) = false := by rw [unhide HWA]; exact decide_eq_false hrr
          have HRR := hide hrr
          clear hrr
          go_quiet (first | (go_at_call 20; with_reducible exact Calls.quiet_of_same (unhide N1 _)) | (go_at_call 20; with_reducible exact Calls.quiet_of_same (unhide N2 _)))
          go_wp2_with fail
          have EQ5 := hide (fun k => unhide EQ nq k)
          have HB5 : Hid (Below w.heap.size w (w4.drewN nq)) := hide (belowD (unhide HB4) _)
          have g0 : (w4.drewN nq).cell? ⟨w.heap.size, 0, none⟩ = some (.int .i64 0) := c0
          have g1 : (w4.drewN nq).cell? ⟨w.heap.size, 1, none⟩ = some (.int .u8 (r1 : Int)) := c1
          have g2 : (w4.drewN nq).cell? ⟨w.heap.size, 2, none⟩ = some (.int .i64 A) := c2
          have g3 : (w4.drewN nq).cell? ⟨w.heap.size, 3, none⟩ = some (.int .i64 B) := c3
          have j0 : (w4.drewN nq).cell? ⟨w.heap.size + 1, 0, none⟩ = some (.int .i64 0) := d0
          have j1 : (w4.drewN nq).cell? ⟨w.heap.size + 1, 1, none⟩ = some (.int .u8 (r2 : Int)) := d1
          have j2 : (w4.drewN nq).cell? ⟨w.heap.size + 1, 2, none⟩ = some (.int .i64 A2) := d2
          have j3 : (w4.drewN nq).cell? ⟨w.heap.size + 1, 3, none⟩ = some (.int .i64 B2) := d3
          generalize w4.drewN nq = w5 at EQ5 HB5 g0 g1 g2 g3 j0 j1 j2 j3 ⊢
          clear c0 c1 c2 c3 d0 d1 d2 d3 EQ N1 N2 HA3 HA4 HB4
          go_quiet ((go_at_call 10; with_reducible exact Calls.quiet_of (unhide EQ5 _)))
          go_wp2
          go_ret
          refine ⟨ret_bool ?_, belowD (unhide HB5) _⟩
          rw [unhide AP]
          rw [decide_eq_false (unhide HRR)]
          simp
      · have t1 : (x.take x.length).length = x.length := by rw [List.length_take]; omega
        have t2 : (y.take x.length).length = x.length := by rw [List.length_take]; omega
        have EQ := hide (fun j k => Equal_any a3 a4 p3 p4 (x.take x.length) (y.take x.length) ((w4.drewN j).drewN k) (by have h := unhide HA3; rw [← List.take_append_drop x.length x] at h; exact h.take) (by have h := unhide HA4; rw [← List.take_append_drop x.length y] at h; exact h.take) (by unfold maxLen; omega) (by unfold maxLen; omega))
        rw [t1, t2] at EQ
        have AP : Hid ((x.take x.length == y.take x.length) = (decide (r1 = r2) && decide (A = A2) && decide (B = B2))) := hide (by have h := unhide HAP; rwa [show min x.length y.length = x.length from Nat.min_eq_left (by omega)] at h)
        generalize (x.take x.length == y.take x.length) = eqv at EQ AP
        have i3 : (x.length : Int) ≤ (p3 : Int) := by omega
        have i4 : (x.length : Int) ≤ (p4 : Int) := by omega
        have HYX := hide hyx
        clear t1 t2
        by_cases hrr : r1 = r2
        · have b1 : (((r1 : Nat) : Int) != ((r2 : Nat) : Int)) = false := bne_f (by omega)
          have b2 : (((r1 : Nat) : Int) == ((r2 : Nat) : Int)) = true := beq_t (by omega)
          have HRR := hide hrr
          clear hrr
          by_cases hA : A = A2
          · by_cases hB : B = B2
            · have bA : (A == A2) = true := beq_t hA
              have bB : (B == B2) = true := beq_t hB
              have HA := hide hA
              have HBb := hide hB
              clear hA hB
              go_quiet (fail)
              go_wp2_with fail
              have EQ5 := hide (fun k => unhide EQ nq k)
              have HB5 : Hid (Below w.heap.size w (w4.drewN nq)) := hide (belowD (unhide HB4) _)
              have g0 : (w4.drewN nq).cell? ⟨w.heap.size, 0, none⟩ = some (.int .i64 0) := c0
              have g1 : (w4.drewN nq).cell? ⟨w.heap.size, 1, none⟩ = some (.int .u8 (r1 : Int)) := c1
              have g2 : (w4.drewN nq).cell? ⟨w.heap.size, 2, none⟩ = some (.int .i64 A) := c2
              have g3 : (w4.drewN nq).cell? ⟨w.heap.size, 3, none⟩ = some (.int .i64 B) := c3
              have j0 : (w4.drewN nq).cell? ⟨w.heap.size + 1, 0, none⟩ = some (.int .i64 0) := d0
              have j1 : (w4.drewN nq).cell? ⟨w.heap.size + 1, 1, none⟩ = some (.int .u8 (r2 : Int)) := d1
              have j2 : (w4.drewN nq).cell? ⟨w.heap.size + 1, 2, none⟩ = some (.int .i64 A2) := d2
              have j3 : (w4.drewN nq).cell? ⟨w.heap.size + 1, 3, none⟩ = some (.int .i64 B2) := d3
              generalize w4.drewN nq = w5 at EQ5 HB5 g0 g1 g2 g3 j0 j1 j2 j3 ⊢
              clear c0 c1 c2 c3 d0 d1 d2 d3 EQ N1 N2 HA3 HA4 HB4
              go_quiet ((go_at_call 10; with_reducible exact Calls.quiet_of (unhide EQ5 _)))
              go_wp2
              go_ret
              refine ⟨ret_bool ?_, belowD (unhide HB5) _⟩
              rw [unhide AP]
              rw [unhide HRR]
              rw [decide_eq_true (unhide HA), decide_eq_true (unhide HBb)]
              simp
            · have bA : (A == A2) = true := beq_t hA
              have bB : (B == B2) = false := beq_f hB
              have HA := hide hA
              have HBb := hide hB
              clear hA hB
              go_quiet (fail)
              go_wp2_with fail
              have EQ5 := hide (fun k => unhide EQ nq k)
              have HB5 : Hid (Below w.heap.size w (w4.drewN nq)) := hide (belowD (unhide HB4) _)
              have g0 : (w4.drewN nq).cell? ⟨w.heap.size, 0, none⟩ = some (.int .i64 0) := c0
              have g1 : (w4.drewN nq).cell? ⟨w.heap.size, 1, none⟩ = some (.int .u8 (r1 : Int)) := c1
              have g2 : (w4.drewN nq).cell? ⟨w.heap.size, 2, none⟩ = some (.int .i64 A) := c2
              have g3 : (w4.drewN nq).cell? ⟨w.heap.size, 3, none⟩ = some (.int .i64 B) := c3
              have j0 : (w4.drewN nq).cell? ⟨w.heap.size + 1, 0, none⟩ = some (.int .i64 0) := d0
              have j1 : (w4.drewN nq).cell? ⟨w.heap.size + 1, 1, none⟩ = some (.int .u8 (r2 : Int)) := d1
              have j2 : (w4.drewN nq).cell? ⟨w.heap.size + 1, 2, none⟩ = some (.int .i64 A2) := d2
              have j3 : (w4.drewN nq).cell? ⟨w.heap.size + 1, 3, none⟩ = some (.int .i64 B2) := d3
              generalize w4.drewN nq = w5 at EQ5 HB5 g0 g1 g2 g3 j0 j1 j2 j3 ⊢
              clear c0 c1 c2 c3 d0 d1 d2 d3 EQ N1 N2 HA3 HA4 HB4
              go_quiet ((go_at_call 10; with_reducible exact Calls.quiet_of (unhide EQ5 _)))
              go_wp2
              go_ret
              refine ⟨ret_bool ?_, belowD (unhide HB5) _⟩
              rw [unhide AP]
              rw [unhide HRR]
              rw [decide_eq_true (unhide HA), decide_eq_false (unhide HBb)]
              simp
          · by_cases hB : B = B2
            · have bA : (A == A2) = false := beq_f hA
              have bB : (B == B2) = true := beq_t hB
              have HA := hide hA
              have HBb := hide hB
              clear hA hB
              go_quiet (fail)
              go_wp2_with fail
              have EQ5 := hide (fun k => unhide EQ nq k)
              have HB5 : Hid (Below w.heap.size w (w4.drewN nq)) := hide (belowD (unhide HB4) _)
              have g0 : (w4.drewN nq).cell? ⟨w.heap.size, 0, none⟩ = some (.int .i64 0) := c0
              have g1 : (w4.drewN nq).cell? ⟨w.heap.size, 1, none⟩ = some (.int .u8 (r1 : Int)) := c1
              have g2 : (w4.drewN nq).cell? ⟨w.heap.size, 2, none⟩ = some (.int .i64 A) := c2
              have g3 : (w4.drewN nq).cell? ⟨w.heap.size, 3, none⟩ = some (.int .i64 B) := c3
              have j0 : (w4.drewN nq).cell? ⟨w.heap.size + 1, 0, none⟩ = some (.int .i64 0) := d0
              have j1 : (w4.drewN nq).cell? ⟨w.heap.size + 1, 1, none⟩ = some (.int .u8 (r2 : Int)) := d1
              have j2 : (w4.drewN nq).cell? ⟨w.heap.size + 1, 2, none⟩ = some (.int .i64 A2) := d2
              have j3 : (w4.drewN nq).cell? ⟨w.heap.size + 1, 3, none⟩ = some (.int .i64 B2) := d3
              generalize w4.drewN nq = w5 at EQ5 HB5 g0 g1 g2 g3 j0 j1 j2 j3 ⊢
              clear c0 c1 c2 c3 d0 d1 d2 d3 EQ N1 N2 HA3 HA4 HB4
              go_quiet ((go_at_call 10; with_reducible exact Calls.quiet_of (unhide EQ5 _)))
              go_wp2
              go_ret
              refine ⟨ret_bool ?_, belowD (unhide HB5) _⟩
              rw [unhide AP]
              rw [unhide HRR]
              rw [decide_eq_false (unhide HA), decide_eq_true (unhide HBb)]
              simp
            · have bA : (A == A2) = false := beq_f hA
              have bB : (B == B2) = false := beq_f hB
              have HA := hide hA
              have HBb := hide hB
              clear hA hB
              go_quiet (fail)
              go_wp2_with fail
              have EQ5 := hide (fun k => unhide EQ nq k)
              have HB5 : Hid (Below w.heap.size w (w4.drewN nq)) := hide (belowD (unhide HB4) _)
              have g0 : (w4.drewN nq).cell? ⟨w.heap.size, 0, none⟩ = some (.int .i64 0) := c0
              have g1 : (w4.drewN nq).cell? ⟨w.heap.size, 1, none⟩ = some (.int .u8 (r1 : Int)) := c1
              have g2 : (w4.drewN nq).cell? ⟨w.heap.size, 2, none⟩ = some (.int .i64 A) := c2
              have g3 : (w4.drewN nq).cell? ⟨w.heap.size, 3, none⟩ = some (.int .i64 B) := c3
              have j0 : (w4.drewN nq).cell? ⟨w.heap.size + 1, 0, none⟩ = some (.int .i64 0) := d0
              have j1 : (w4.drewN nq).cell? ⟨w.heap.size + 1, 1, none⟩ = some (.int .u8 (r2 : Int)) := d1
              have j2 : (w4.drewN nq).cell? ⟨w.heap.size + 1, 2, none⟩ = some (.int .i64 A2) := d2
              have j3 : (w4.drewN nq).cell? ⟨w.heap.size + 1, 3, none⟩ = some (.int .i64 B2) := d3
              generalize w4.drewN nq = w5 at EQ5 HB5 g0 g1 g2 g3 j0 j1 j2 j3 ⊢
              clear c0 c1 c2 c3 d0 d1 d2 d3 EQ N1 N2 HA3 HA4 HB4
              go_quiet ((go_at_call 10; with_reducible exact Calls.quiet_of (unhide EQ5 _)))
              go_wp2
              go_ret
              refine ⟨ret_bool ?_, belowD (unhide HB5) _⟩
              rw [unhide AP]
              rw [unhide HRR]
              rw [decide_eq_false (unhide HA), decide_eq_false (unhide HBb)]
              simp
        · have b1 : (((r1 : Nat) : Int) != ((r2 : Nat) : Int)) = true := bne_t (by omega)
          have b2 : (((r1 : Nat) : Int) == ((r2 : Nat) : Int)) = false := beq_f (by omega)
          have hz : (z1.toList == z2.toList) = false := by rw [unhide HWA]; exact decide_eq_false hrr
          have HRR := hide hrr
          clear hrr
          go_quiet (first | (go_at_call 20; with_reducible exact Calls.quiet_of_same (unhide N1 _)) | (go_at_call 20; with_reducible exact Calls.quiet_of_same (unhide N2 _)))
          go_wp2_with fail
          have EQ5 := hide (fun k => unhide EQ nq k)
          have HB5 : Hid (Below w.heap.size w (w4.drewN nq)) := hide (belowD (unhide HB4) _)
          have g0 : (w4.drewN nq).cell? ⟨w.heap.size, 0, none⟩ = some (.int .i64 0) := c0
          have g1 : (w4.drewN nq).cell? ⟨w.heap.size, 1, none⟩ = some (.int .u8 (r1 : Int)) := c1
          have g2 : (w4.drewN nq).cell? ⟨w.heap.size, 2, none⟩ = some (.int .i64 A) := c2
          have g3 : (w4.drewN nq).cell? ⟨w.heap.size, 3, none⟩ = some (.int .i64 B) := c3
          have j0 : (w4.drewN nq).cell? ⟨w.heap.size + 1, 0, none⟩ = some (.int .i64 0) := d0
          have j1 : (w4.drewN nq).cell? ⟨w.heap.size + 1, 1, none⟩ = some (.int .u8 (r2 : Int)) := d1
          have j2 : (w4.drewN nq).cell? ⟨w.heap.size + 1, 2, none⟩ = some (.int .i64 A2) := d2
          have j3 : (w4.drewN nq).cell? ⟨w.heap.size + 1, 3, none⟩ = some (.int .i64 B2) := d3
          generalize w4.drewN nq = w5 at EQ5 HB5 g0 g1 g2 g3 j0 j1 j2 j3 ⊢
          clear c0 c1 c2 c3 d0 d1 d2 d3 EQ N1 N2 HA3 HA4 HB4
          go_quiet ((go_at_call 10; with_reducible exact Calls.quiet_of (unhide EQ5 _)))
          go_wp2
          go_ret
          refine ⟨ret_bool ?_, belowD (unhide HB5) _⟩
          rw [unhide AP]
          rw [decide_eq_false (unhide HRR)]
          simp
    · have c0 := (unhide HY1).c0
      obtain ⟨c1, c2, c3⟩ := (unhide HY1).c
      go_simp
      refine hK.out _ _ trivial (fun hS => ?_)
      clear hK K hS c0 c1 c2 c3
      refine wpAnyH_ready (rs := [1]) (by kernel_rfl) (by simp) ?_
      refine (AllReadyH.cons rfl (fun K hK => ?_) AllReadyH.nil)
      go_simp
      go_wp2_with (go_at_call 14; refine (fit_any p op a b _ ho).mono ?_; rintro e V29 ⟨⟨A, B, rfl, hin⟩, hB⟩)
      have HI30 := hide hin
      have HX31 := hide ((unhide HX1).below hB)
      have HY32 := hide ((unhide HY1).below hB)
      have HB33 := hide ((unhide HB1).trans (hB.mono (unhide HB1).size))
      refine hK.out _ _ trivial (fun hS => ?_)
      clear hK K hS hin hB HX1 HY1 HB1
      refine wpAnyH_ready (rs := [3]) (by kernel_rfl) (by simp) ?_
      refine (AllReadyH.cons rfl (fun K hK => ?_) AllReadyH.nil)
      go_simp
      go_wp2_with (go_at_call 14; refine (fit_any p2 op2 a2 b2 _ ho2).mono ?_; rintro e V34 ⟨⟨A2, B2, rfl, hin⟩, hB⟩)
      have HI35 := hide hin
      have HX36 := hide ((unhide HX31).below hB)
      have HY37 := hide ((unhide HY32).below hB)
      have HB38 := hide ((unhide HB33).trans (hB.mono (unhide HB33).size))
      refine hK.out _ _ trivial (fun hS => ?_)
      clear hK K hS hin hB HX31 HY32 HB33
      refine wpAnyH_ready (rs := [4]) (by kernel_rfl) (by simp) ?_
      refine (AllReadyH.cons rfl (fun K hK => ?_) AllReadyH.nil)
      rw [if_pos (by rfl)]
      refine wp_store_row 37 _ _ rfl w.heap.size #[.int .i64 0, .int .u8 ((op % 34 : Nat) : Int), .int .i64 A, .int .i64 B] rfl rfl 37 _ (unhide HX36) sizeIn rfl (by simp; exact ⟨rfl, rfl, rfl, rfl⟩) ?_
      refine hK.out _ _ trivial (fun hS => ?_)
      clear hK K hS
      have HX39 := hide ((unhide HX36).row 0 (op % 34) A B)
      have HY40 := hide ((unhide HY37).rowOther (g := w.heap.size) #[.int .i64 0, .int .u8 ((op % 34 : Nat) : Int), .int .i64 A, .int .i64 B] (by simp))
      have HB41 := hide (below_setRowI (unhide HB38) (g := w.heap.size) (by simp) #[.int .i64 0, .int .u8 ((op % 34 : Nat) : Int), .int .i64 A, .int .i64 B])
      generalize (V34.setRow w.heap.size #[.int .i64 0, .int .u8 ((op % 34 : Nat) : Int), .int .i64 A, .int .i64 B]) = V42 at HX39 HY40 HB41 ⊢
      clear HX36 HY37 HB38 V34
      refine wpAnyH_ready (rs := [5]) (by kernel_rfl) (by simp) ?_
      refine (AllReadyH.cons rfl (fun K hK => ?_) AllReadyH.nil)
      rw [if_pos (by rfl)]
      refine wp_store_row 37 _ _ rfl (w.heap.size + 1) #[.int .i64 0, .int .u8 ((op2 % 34 : Nat) : Int), .int .i64 A2, .int .i64 B2] rfl rfl 37 _ (unhide HY40) sizeIn rfl (by simp; exact ⟨rfl, rfl, rfl, rfl⟩) ?_
      refine hK.out _ _ trivial (fun hS => ?_)
      clear hK K hS
      have HX43 := hide ((unhide HY40).row 0 (op2 % 34) A2 B2)
      have HY44 := hide ((unhide HX39).rowOther (g := (w.heap.size + 1)) #[.int .i64 0, .int .u8 ((op2 % 34 : Nat) : Int), .int .i64 A2, .int .i64 B2] (by simp))
      have HB45 := hide (below_setRowI (unhide HB41) (g := (w.heap.size + 1)) (by simp) #[.int .i64 0, .int .u8 ((op2 % 34 : Nat) : Int), .int .i64 A2, .int .i64 B2])
      generalize (V42.setRow (w.heap.size + 1) #[.int .i64 0, .int .u8 ((op2 % 34 : Nat) : Int), .int .i64 A2, .int .i64 B2]) = V46 at HX43 HY44 HB45 ⊢
      clear HY40 HX39 HB41 V42
      refine wpAnyH_done (by kernel_rfl) ?_ _
      have hr1 : op % 34 < 34 := Nat.mod_lt _ (by omega)
      have hr2 : op2 % 34 < 34 := Nat.mod_lt _ (by omega)
      obtain ⟨r1, HR1⟩ : ∃ r1, Hid (op % 34 = r1) := ⟨_, hide rfl⟩
      obtain ⟨r2, HR2⟩ : ∃ r2, Hid (op2 % 34 = r2) := ⟨_, hide rfl⟩
      rw [unhide HR1] at hr1 HI30 HY44
      rw [unhide HR2] at hr2 HI35 HX43
      clear HR1 HR2
      have hE1 : eE r1 A B = 0 := by unfold eE; rw [if_pos hr1, if_pos (unhide HI30)]
      have hE2 : eE r2 A2 B2 = 0 := by unfold eE; rw [if_pos hr2, if_pos (unhide HI35)]
      have hL1 : eL r1 A B = encL r1 A B := by unfold eL; rw [if_pos hE1]
      have hL2 : eL r2 A2 B2 = encL r2 A2 B2 := by unfold eL; rw [if_pos hE2]
      have E1 := hide (fun W h => Encode_any 0 r1 A B W h (by omega))
      have E2 := hide (fun W h => Encode_any 0 r2 A2 B2 W h (by omega))
      rw [hE1, hL1] at E1
      rw [hE2, hL2] at E2
      have n1 := encL_length r1 A B
      have n2 := encL_length r2 A2 B2
      have la1 := wA_le r1 hr1
      have lb1 := wB_le r1 hr1
      have la2 := wA_le r2 hr2
      have lb2 := wB_le r2 hr2
      have HAP := hide (enc_apart r1 r2 A B A2 B2 hr1 hr2 (unhide HI30) (unhide HI35) _ rfl)
      have hOW := op_word r1 hr1
      have hWA := words_apart r1 r2 hr1 hr2
      have HN1 : Hid (nmD r1 = wC r1) := hide (by unfold nmD; rw [if_pos hr1])
      have HN2 : Hid (nmD r2 = wC r2) := hide (by unfold nmD; rw [if_pos hr2])
      have m1 : 0 < (encL r1 A B).length ∧ (encL r1 A B).length ≤ 6 := by omega
      have m2 : 0 < (encL r2 A2 B2).length ∧ (encL r2 A2 B2).length ≤ 6 := by omega
      clear hE1 hE2 hL1 hL2 n1 n2 la1 lb1 la2 lb2 HI30 HI35
      generalize encL r1 A B = x at E1 HAP m1
      generalize encL r2 A2 B2 = y at E2 HAP m2
      obtain ⟨c1, c2, c3⟩ := (unhide HY44).c
      have c0 := (unhide HY44).c0
      go_wp2_with fail
      clear c0 c1 c2 c3
      with_reducible refine (unhide E1 _ ((unhide HW).below (unhide HB45))).mono ?_
      rintro e w3 ⟨v3, rfl, hO3, hB3⟩
      have HB3 := hide ((unhide HB45).trans (hB3.mono (unhide HB45).size))
      have HX3 := hide ((unhide HY44).below hB3)
      have HY3 := hide ((unhide HX43).below hB3)
      have HO3 := hide hO3
      obtain ⟨a3, p3, rfl, _⟩ := hO3.at
      clear hO3 hB3 HB45 HY44 HX43
      obtain ⟨d1, d2, d3⟩ := (unhide HY3).c
      have d0 := (unhide HY3).c0
      go_wp2_with fail
      with_reducible refine (unhide E2 _ ((unhide HW).below (unhide HB3))).mono ?_
      clear d0 d1 d2 d3
      rintro e w4 ⟨v4, rfl, hO4, hB4⟩
      have HB4 := hide ((unhide HB3).trans (hB4.mono (unhide HB3).size))
      have HX4 := hide ((unhide HX3).below hB4)
      have HY4 := hide ((unhide HY3).below hB4)
      obtain ⟨_, _, e3, hb3⟩ := ((unhide HO3).below hB4).at
      simp only [Value.slice.injEq] at e3
      obtain ⟨rfl, _, rfl⟩ := e3
      obtain ⟨a4, p4, rfl, hb4⟩ := hO4.at
      have hc3 : x.length ≤ p3 := by
        rcases (unhide HO3).shape with ⟨h1, _⟩ | ⟨g', cap', h1, _, _, h4, _, _⟩
        · injection h1 with _ h1; omega
        · injection h1 with _ _ h1; omega
      have hc4 : y.length ≤ p4 := by
        rcases hO4.shape with ⟨h1, _⟩ | ⟨g', cap', h1, _, _, h4, _, _⟩
        · injection h1 with _ h1; omega
        · injection h1 with _ _ h1; omega
      have HA3 := hide hb3
      have HA4 := hide hb4
      clear hO4 hB4 HB3 HX3 HY3 HO3 hb3 hb4 E1 E2
      obtain ⟨c1, c2, c3⟩ := (unhide HX4).c
      have c0 := (unhide HX4).c0
      obtain ⟨d1, d2, d3⟩ := (unhide HY4).c
      have d0 := (unhide HY4).c0
      have N1 := hide (fun k => Name_any r1 (w4.drewN k) (((unhide HC).below (unhide HB4)).below (belowD (Below.refl _ _) k)) (by omega))
      have N2 := hide (fun k => Name_any r2 (w4.drewN k) (((unhide HC).below (unhide HB4)).below (belowD (Below.refl _ _) k)) (by omega))
      have N0 := hide (Name_any r1 w4 ((unhide HC).below (unhide HB4)) (by omega))
      have O0 := hide (Op_any (wC r1) w4 ((unhide HC).below (unhide HB4)))
      rw [hOW] at O0
      rw [unhide HN1] at N1 N0
      rw [unhide HN2] at N2
      clear hOW HN1 HN2 HX4 HY4
      generalize wC r1 = z1 at N0 N1 O0 hWA
      generalize wC r2 = z2 at N2 hWA
      have q1 : ((x.length : Int) == 0) = false := beq_f (by omega)
      have q2 : ((y.length : Int) == 0) = false := beq_f (by omega)
      go_wp2_with (first | (go_at_call 20; with_reducible refine (unhide N0).mono ?_; rintro e w5 ⟨rfl, hw5⟩; rw [hw5]; clear hw5) | (go_at_call 19; with_reducible refine (unhide O0).mono ?_; rintro e w5 ⟨rfl, hw5⟩; rw [hw5]; clear hw5))
      have HWA := hide hWA
      clear hWA N0 O0 q1 q2
      have hp3 : ¬ p3 = 0 := by omega
      have hp4 : ¬ p4 = 0 := by omega
      by_cases hyx : y.length < x.length
      · have t1 : (x.take y.length).length = y.length := by rw [List.length_take]; omega
        have t2 : (y.take y.length).length = y.length := by rw [List.length_take]; omega
        have EQ := hide (fun j k => Equal_any a3 a4 p3 p4 (x.take y.length) (y.take y.length) ((w4.drewN j).drewN k) (by have h := unhide HA3; rw [← List.take_append_drop y.length x] at h; exact h.take) (by have h := unhide HA4; rw [← List.take_append_drop y.length y] at h; exact h.take) (by unfold maxLen; omega) (by unfold maxLen; omega))
        rw [t1, t2] at EQ
        have AP : Hid ((x.take y.length == y.take y.length) = (decide (r1 = r2) && decide (A = A2) && decide (B = B2))) := hide (by have h := unhide HAP; rwa [show min x.length y.length = y.length from Nat.min_eq_right (by omega)] at h)
        generalize (x.take y.length == y.take y.length) = eqv at EQ AP
        have i3 : (y.length : Int) ≤ (p3 : Int) := by omega
        have i4 : (y.length : Int) ≤ (p4 : Int) := by omega
        have HYX := hide hyx
        clear t1 t2
        by_cases hrr : r1 = r2
        · have b1 : (((r1 : Nat) : Int) != ((r2 : Nat) : Int)) = false := bne_f (by omega)
          have b2 : (((r1 : Nat) : Int) == ((r2 : Nat) : Int)) = true := beq_t (by omega)
          have HRR := hide hrr
          clear hrr
          by_cases hA : A = A2
          · by_cases hB : B = B2
            · have bA : (A == A2) = true := beq_t hA
              have bB : (B == B2) = true := beq_t hB
              have HA := hide hA
              have HBb := hide hB
              clear hA hB
              go_quiet (fail)
              go_wp2_with fail
              have EQ5 := hide (fun k => unhide EQ nq k)
              have HB5 : Hid (Below w.heap.size w (w4.drewN nq)) := hide (belowD (unhide HB4) _)
              have g0 : (w4.drewN nq).cell? ⟨w.heap.size, 0, none⟩ = some (.int .i64 0) := c0
              have g1 : (w4.drewN nq).cell? ⟨w.heap.size, 1, none⟩ = some (.int .u8 (r1 : Int)) := c1
              have g2 : (w4.drewN nq).cell? ⟨w.heap.size, 2, none⟩ = some (.int .i64 A) := c2
              have g3 : (w4.drewN nq).cell? ⟨w.heap.size, 3, none⟩ = some (.int .i64 B) := c3
              have j0 : (w4.drewN nq).cell? ⟨w.heap.size + 1, 0, none⟩ = some (.int .i64 0) := d0
              have j1 : (w4.drewN nq).cell? ⟨w.heap.size + 1, 1, none⟩ = some (.int .u8 (r2 : Int)) := d1
              have j2 : (w4.drewN nq).cell? ⟨w.heap.size + 1, 2, none⟩ = some (.int .i64 A2) := d2
              have j3 : (w4.drewN nq).cell? ⟨w.heap.size + 1, 3, none⟩ = some (.int .i64 B2) := d3
              generalize w4.drewN nq = w5 at EQ5 HB5 g0 g1 g2 g3 j0 j1 j2 j3 ⊢
              clear c0 c1 c2 c3 d0 d1 d2 d3 EQ N1 N2 HA3 HA4 HB4
              go_quiet ((go_at_call 10; with_reducible exact Calls.quiet_of (unhide EQ5 _)))
              go_wp2
              go_ret
              refine ⟨ret_bool ?_, belowD (unhide HB5) _⟩
              rw [unhide AP]
              rw [unhide HRR]
              rw [decide_eq_true (unhide HA), decide_eq_true (unhide HBb)]
              simp
            · have bA : (A == A2) = true := beq_t hA
              have bB : (B == B2) = false := beq_f hB
              have HA := hide hA
              have HBb := hide hB
              clear hA hB
              go_quiet (fail)
              go_wp2_with fail
              have EQ5 := hide (fun k => unhide EQ nq k)
              have HB5 : Hid (Below w.heap.size w (w4.drewN nq)) := hide (belowD (unhide HB4) _)
              have g0 : (w4.drewN nq).cell? ⟨w.heap.size, 0, none⟩ = some (.int .i64 0) := c0
              have g1 : (w4.drewN nq).cell? ⟨w.heap.size, 1, none⟩ = some (.int .u8 (r1 : Int)) := c1
              have g2 : (w4.drewN nq).cell? ⟨w.heap.size, 2, none⟩ = some (.int .i64 A) := c2
              have g3 : (w4.drewN nq).cell? ⟨w.heap.size, 3, none⟩ = some (.int .i64 B) := c3
              have j0 : (w4.drewN nq).cell? ⟨w.heap.size + 1, 0, none⟩ = some (.int .i64 0) := d0
              have j1 : (w4.drewN nq).cell? ⟨w.heap.size + 1, 1, none⟩ = some (.int .u8 (r2 : Int)) := d1
              have j2 : (w4.drewN nq).cell? ⟨w.heap.size + 1, 2, none⟩ = some (.int .i64 A2) := d2
              have j3 : (w4.drewN nq).cell? ⟨w.heap.size + 1, 3, none⟩ = some (.int .i64 B2) := d3
              generalize w4.drewN nq = w5 at EQ5 HB5 g0 g1 g2 g3 j0 j1 j2 j3 ⊢
              clear c0 c1 c2 c3 d0 d1 d2 d3 EQ N1 N2 HA3 HA4 HB4
              go_quiet ((go_at_call 10; with_reducible exact Calls.quiet_of (unhide EQ5 _)))
              go_wp2
              go_ret
              refine ⟨ret_bool ?_, belowD (unhide HB5) _⟩
              rw [unhide AP]
              rw [unhide HRR]
              rw [decide_eq_true (unhide HA), decide_eq_false (unhide HBb)]
              simp
          · by_cases hB : B = B2
            · have bA : (A == A2) = false := beq_f hA
              have bB : (B == B2) = true := beq_t hB
              have HA := hide hA
              have HBb := hide hB
              clear hA hB
              go_quiet (fail)
              go_wp2_with fail
              have EQ5 := hide (fun k => unhide EQ nq k)
              have HB5 : Hid (Below w.heap.size w (w4.drewN nq)) := hide (belowD (unhide HB4) _)
              have g0 : (w4.drewN nq).cell? ⟨w.heap.size, 0, none⟩ = some (.int .i64 0) := c0
              have g1 : (w4.drewN nq).cell? ⟨w.heap.size, 1, none⟩ = some (.int .u8 (r1 : Int)) := c1
              have g2 : (w4.drewN nq).cell? ⟨w.heap.size, 2, none⟩ = some (.int .i64 A) := c2
              have g3 : (w4.drewN nq).cell? ⟨w.heap.size, 3, none⟩ = some (.int .i64 B) := c3
              have j0 : (w4.drewN nq).cell? ⟨w.heap.size + 1, 0, none⟩ = some (.int .i64 0) := d0
              have j1 : (w4.drewN nq).cell? ⟨w.heap.size + 1, 1, none⟩ = some (.int .u8 (r2 : Int)) := d1
              have j2 : (w4.drewN nq).cell? ⟨w.heap.size + 1, 2, none⟩ = some (.int .i64 A2) := d2
              have j3 : (w4.drewN nq).cell? ⟨w.heap.size + 1, 3, none⟩ = some (.int .i64 B2) := d3
              generalize w4.drewN nq = w5 at EQ5 HB5 g0 g1 g2 g3 j0 j1 j2 j3 ⊢
              clear c0 c1 c2 c3 d0 d1 d2 d3 EQ N1 N2 HA3 HA4 HB4
              go_quiet ((go_at_call 10; with_reducible exact Calls.quiet_of (unhide EQ5 _)))
              go_wp2
              go_ret
              refine ⟨ret_bool ?_, belowD (unhide HB5) _⟩
              rw [unhide AP]
              rw [unhide HRR]
              rw [decide_eq_false (unhide HA), decide_eq_true (unhide HBb)]
              simp
            · have bA : (A == A2) = false := beq_f hA
              have bB : (B == B2) = false := beq_f hB
              have HA := hide hA
              have HBb := hide hB
              clear hA hB
              go_quiet (fail)
              go_wp2_with fail
              have EQ5 := hide (fun k => unhide EQ nq k)
              have HB5 : Hid (Below w.heap.size w (w4.drewN nq)) := hide (belowD (unhide HB4) _)
              have g0 : (w4.drewN nq).cell? ⟨w.heap.size, 0, none⟩ = some (.int .i64 0) := c0
              have g1 : (w4.drewN nq).cell? ⟨w.heap.size, 1, none⟩ = some (.int .u8 (r1 : Int)) := c1
              have g2 : (w4.drewN nq).cell? ⟨w.heap.size, 2, none⟩ = some (.int .i64 A) := c2
              have g3 : (w4.drewN nq).cell? ⟨w.heap.size, 3, none⟩ = some (.int .i64 B) := c3
              have j0 : (w4.drewN nq).cell? ⟨w.heap.size + 1, 0, none⟩ = some (.int .i64 0) := d0
              have j1 : (w4.drewN nq).cell? ⟨w.heap.size + 1, 1, none⟩ = some (.int .u8 (r2 : Int)) := d1
              have j2 : (w4.drewN nq).cell? ⟨w.heap.size + 1, 2, none⟩ = some (.int .i64 A2) := d2
              have j3 : (w4.drewN nq).cell? ⟨w.heap.size + 1, 3, none⟩ = some (.int .i64 B2) := d3
              generalize w4.drewN nq = w5 at EQ5 HB5 g0 g1 g2 g3 j0 j1 j2 j3 ⊢
              clear c0 c1 c2 c3 d0 d1 d2 d3 EQ N1 N2 HA3 HA4 HB4
              go_quiet ((go_at_call 10; with_reducible exact Calls.quiet_of (unhide EQ5 _)))
              go_wp2
              go_ret
              refine ⟨ret_bool ?_, belowD (unhide HB5) _⟩
              rw [unhide AP]
              rw [unhide HRR]
              rw [decide_eq_false (unhide HA), decide_eq_false (unhide HBb)]
              simp
        · have b1 : (((r1 : Nat) : Int) != ((r2 : Nat) : Int)) = true := bne_t (by omega)
          have b2 : (((r1 : Nat) : Int) == ((r2 : Nat) : Int)) = false := beq_f (by omega)
          have hz : (z1.toList == z2.toList) = false := by rw [unhide HWA]; exact decide_eq_false hrr
          have HRR := hide hrr
          clear hrr
          go_quiet (first | (go_at_call 20; with_reducible exact Calls.quiet_of_same (unhide N1 _)) | (go_at_call 20; with_reducible exact Calls.quiet_of_same (unhide N2 _)))
          go_wp2_with fail
          have EQ5 := hide (fun k => unhide EQ nq k)
          have HB5 : Hid (Below w.heap.size w (w4.drewN nq)) := hide (belowD (unhide HB4) _)
          have g0 : (w4.drewN nq).cell? ⟨w.heap.size, 0, none⟩ = some (.int .i64 0) := c0
          have g1 : (w4.drewN nq).cell? ⟨w.heap.size, 1, none⟩ = some (.int .u8 (r1 : Int)) := c1
          have g2 : (w4.drewN nq).cell? ⟨w.heap.size, 2, none⟩ = some (.int .i64 A) := c2
          have g3 : (w4.drewN nq).cell? ⟨w.heap.size, 3, none⟩ = some (.int .i64 B) := c3
          have j0 : (w4.drewN nq).cell? ⟨w.heap.size + 1, 0, none⟩ = some (.int .i64 0) := d0
          have j1 : (w4.drewN nq).cell? ⟨w.heap.size + 1, 1, none⟩ = some (.int .u8 (r2 : Int)) := d1
          have j2 : (w4.drewN nq).cell? ⟨w.heap.size + 1, 2, none⟩ = some (.int .i64 A2) := d2
          have j3 : (w4.drewN nq).cell? ⟨w.heap.size + 1, 3, none⟩ = some (.int .i64 B2) := d3
          generalize w4.drewN nq = w5 at EQ5 HB5 g0 g1 g2 g3 j0 j1 j2 j3 ⊢
          clear c0 c1 c2 c3 d0 d1 d2 d3 EQ N1 N2 HA3 HA4 HB4
          go_quiet ((go_at_call 10; with_reducible exact Calls.quiet_of (unhide EQ5 _)))
          go_wp2
          go_ret
          refine ⟨ret_bool ?_, belowD (unhide HB5) _⟩
          rw [unhide AP]
          rw [decide_eq_false (unhide HRR)]
          simp
      · have t1 : (x.take x.length).length = x.length := by rw [List.length_take]; omega
        have t2 : (y.take x.length).length = x.length := by rw [List.length_take]; omega
        have EQ := hide (fun j k => Equal_any a3 a4 p3 p4 (x.take x.length) (y.take x.length) ((w4.drewN j).drewN k) (by have h := unhide HA3; rw [← List.take_append_drop x.length x] at h; exact h.take) (by have h := unhide HA4; rw [← List.take_append_drop x.length y] at h; exact h.take) (by unfold maxLen; omega) (by unfold maxLen; omega))
        rw [t1, t2] at EQ
        have AP : Hid ((x.take x.length == y.take x.length) = (decide (r1 = r2) && decide (A = A2) && decide (B = B2))) := hide (by have h := unhide HAP; rwa [show min x.length y.length = x.length from Nat.min_eq_left (by omega)] at h)
        generalize (x.take x.length == y.take x.length) = eqv at EQ AP
        have i3 : (x.length : Int) ≤ (p3 : Int) := by omega
        have i4 : (x.length : Int) ≤ (p4 : Int) := by omega
        have HYX := hide hyx
        clear t1 t2
        by_cases hrr : r1 = r2
        · have b1 : (((r1 : Nat) : Int) != ((r2 : Nat) : Int)) = false := bne_f (by omega)
          have b2 : (((r1 : Nat) : Int) == ((r2 : Nat) : Int)) = true := beq_t (by omega)
          have HRR := hide hrr
          clear hrr
          by_cases hA : A = A2
          · by_cases hB : B = B2
            · have bA : (A == A2) = true := beq_t hA
              have bB : (B == B2) = true := beq_t hB
              have HA := hide hA
              have HBb := hide hB
              clear hA hB
              go_quiet (fail)
              go_wp2_with fail
              have EQ5 := hide (fun k => unhide EQ nq k)
              have HB5 : Hid (Below w.heap.size w (w4.drewN nq)) := hide (belowD (unhide HB4) _)
              have g0 : (w4.drewN nq).cell? ⟨w.heap.size, 0, none⟩ = some (.int .i64 0) := c0
              have g1 : (w4.drewN nq).cell? ⟨w.heap.size, 1, none⟩ = some (.int .u8 (r1 : Int)) := c1
              have g2 : (w4.drewN nq).cell? ⟨w.heap.size, 2, none⟩ = some (.int .i64 A) := c2
              have g3 : (w4.drewN nq).cell? ⟨w.heap.size, 3, none⟩ = some (.int .i64 B) := c3
              have j0 : (w4.drewN nq).cell? ⟨w.heap.size + 1, 0, none⟩ = some (.int .i64 0) := d0
              have j1 : (w4.drewN nq).cell? ⟨w.heap.size + 1, 1, none⟩ = some (.int .u8 (r2 : Int)) := d1
              have j2 : (w4.drewN nq).cell? ⟨w.heap.size + 1, 2, none⟩ = some (.int .i64 A2) := d2
              have j3 : (w4.drewN nq).cell? ⟨w.heap.size + 1, 3, none⟩ = some (.int .i64 B2) := d3
              generalize w4.drewN nq = w5 at EQ5 HB5 g0 g1 g2 g3 j0 j1 j2 j3 ⊢
              clear c0 c1 c2 c3 d0 d1 d2 d3 EQ N1 N2 HA3 HA4 HB4
              go_quiet ((go_at_call 10; with_reducible exact Calls.quiet_of (unhide EQ5 _)))
              go_wp2
              go_ret
              refine ⟨ret_bool ?_, belowD (unhide HB5) _⟩
              rw [unhide AP]
              rw [unhide HRR]
              rw [decide_eq_true (unhide HA), decide_eq_true (unhide HBb)]
              simp
            · have bA : (A == A2) = true := beq_t hA
              have bB : (B == B2) = false := beq_f hB
              have HA := hide hA
              have HBb := hide hB
              clear hA hB
              go_quiet (fail)
              go_wp2_with fail
              have EQ5 := hide (fun k => unhide EQ nq k)
              have HB5 : Hid (Below w.heap.size w (w4.drewN nq)) := hide (belowD (unhide HB4) _)
              have g0 : (w4.drewN nq).cell? ⟨w.heap.size, 0, none⟩ = some (.int .i64 0) := c0
              have g1 : (w4.drewN nq).cell? ⟨w.heap.size, 1, none⟩ = some (.int .u8 (r1 : Int)) := c1
              have g2 : (w4.drewN nq).cell? ⟨w.heap.size, 2, none⟩ = some (.int .i64 A) := c2
              have g3 : (w4.drewN nq).cell? ⟨w.heap.size, 3, none⟩ = some (.int .i64 B) := c3
              have j0 : (w4.drewN nq).cell? ⟨w.heap.size + 1, 0, none⟩ = some (.int .i64 0) := d0
              have j1 : (w4.drewN nq).cell? ⟨w.heap.size + 1, 1, none⟩ = some (.int .u8 (r2 : Int)) := d1
              have j2 : (w4.drewN nq).cell? ⟨w.heap.size + 1, 2, none⟩ = some (.int .i64 A2) := d2
              have j3 : (w4.drewN nq).cell? ⟨w.heap.size + 1, 3, none⟩ = some (.int .i64 B2) := d3
              generalize w4.drewN nq = w5 at EQ5 HB5 g0 g1 g2 g3 j0 j1 j2 j3 ⊢
              clear c0 c1 c2 c3 d0 d1 d2 d3 EQ N1 N2 HA3 HA4 HB4
              go_quiet ((go_at_call 10; with_reducible exact Calls.quiet_of (unhide EQ5 _)))
              go_wp2
              go_ret
              refine ⟨ret_bool ?_, belowD (unhide HB5) _⟩
              rw [unhide AP]
              rw [unhide HRR]
              rw [decide_eq_true (unhide HA), decide_eq_false (unhide HBb)]
              simp
          · by_cases hB : B = B2
            · have bA : (A == A2) = false := beq_f hA
              have bB : (B == B2) = true := beq_t hB
              have HA := hide hA
              have HBb := hide hB
              clear hA hB
              go_quiet (fail)
              go_wp2_with fail
              have EQ5 := hide (fun k => unhide EQ nq k)
              have HB5 : Hid (Below w.heap.size w (w4.drewN nq)) := hide (belowD (unhide HB4) _)
              have g0 : (w4.drewN nq).cell? ⟨w.heap.size, 0, none⟩ = some (.int .i64 0) := c0
              have g1 : (w4.drewN nq).cell? ⟨w.heap.size, 1, none⟩ = some (.int .u8 (r1 : Int)) := c1
              have g2 : (w4.drewN nq).cell? ⟨w.heap.size, 2, none⟩ = some (.int .i64 A) := c2
              have g3 : (w4.drewN nq).cell? ⟨w.heap.size, 3, none⟩ = some (.int .i64 B) := c3
              have j0 : (w4.drewN nq).cell? ⟨w.heap.size + 1, 0, none⟩ = some (.int .i64 0) := d0
              have j1 : (w4.drewN nq).cell? ⟨w.heap.size + 1, 1, none⟩ = some (.int .u8 (r2 : Int)) := d1
              have j2 : (w4.drewN nq).cell? ⟨w.heap.size + 1, 2, none⟩ = some (.int .i64 A2) := d2
              have j3 : (w4.drewN nq).cell? ⟨w.heap.size + 1, 3, none⟩ = some (.int .i64 B2) := d3
              generalize w4.drewN nq = w5 at EQ5 HB5 g0 g1 g2 g3 j0 j1 j2 j3 ⊢
              clear c0 c1 c2 c3 d0 d1 d2 d3 EQ N1 N2 HA3 HA4 HB4
              go_quiet ((go_at_call 10; with_reducible exact Calls.quiet_of (unhide EQ5 _)))
              go_wp2
              go_ret
              refine ⟨ret_bool ?_, belowD (unhide HB5) _⟩
              rw [unhide AP]
              rw [unhide HRR]
              rw [decide_eq_false (unhide HA), decide_eq_true (unhide HBb)]
              simp
            · have bA : (A == A2) = false := beq_f hA
              have bB : (B == B2) = false := beq_f hB
              have HA := hide hA
              have HBb := hide hB
              clear hA hB
              go_quiet (fail)
              go_wp2_with fail
              have EQ5 := hide (fun k => unhide EQ nq k)
              have HB5 : Hid (Below w.heap.size w (w4.drewN nq)) := hide (belowD (unhide HB4) _)
              have g0 : (w4.drewN nq).cell? ⟨w.heap.size, 0, none⟩ = some (.int .i64 0) := c0
              have g1 : (w4.drewN nq).cell? ⟨w.heap.size, 1, none⟩ = some (.int .u8 (r1 : Int)) := c1
              have g2 : (w4.drewN nq).cell? ⟨w.heap.size, 2, none⟩ = some (.int .i64 A) := c2
              have g3 : (w4.drewN nq).cell? ⟨w.heap.size, 3, none⟩ = some (.int .i64 B) := c3
              have j0 : (w4.drewN nq).cell? ⟨w.heap.size + 1, 0, none⟩ = some (.int .i64 0) := d0
              have j1 : (w4.drewN nq).cell? ⟨w.heap.size + 1, 1, none⟩ = some (.int .u8 (r2 : Int)) := d1
              have j2 : (w4.drewN nq).cell? ⟨w.heap.size + 1, 2, none⟩ = some (.int .i64 A2) := d2
              have j3 : (w4.drewN nq).cell? ⟨w.heap.size + 1, 3, none⟩ = some (.int .i64 B2) := d3
              generalize w4.drewN nq = w5 at EQ5 HB5 g0 g1 g2 g3 j0 j1 j2 j3 ⊢
              clear c0 c1 c2 c3 d0 d1 d2 d3 EQ N1 N2 HA3 HA4 HB4
              go_quiet ((go_at_call 10; with_reducible exact Calls.quiet_of (unhide EQ5 _)))
              go_wp2
              go_ret
              refine ⟨ret_bool ?_, belowD (unhide HB5) _⟩
              rw [unhide AP]
              rw [unhide HRR]
              rw [decide_eq_false (unhide HA), decide_eq_false (unhide HBb)]
              simp
        · have b1 : (((r1 : Nat) : Int) != ((r2 : Nat) : Int)) = true := bne_t (by omega)
          have b2 : (((r1 : Nat) : Int) == ((r2 : Nat) : Int)) = false := beq_f (by omega)
          have hz : (z1.toList == z2.toList) = false := by rw [unhide HWA]; exact decide_eq_false hrr
          have HRR := hide hrr
          clear hrr
          go_quiet (first | (go_at_call 20; with_reducible exact Calls.quiet_of_same (unhide N1 _)) | (go_at_call 20; with_reducible exact Calls.quiet_of_same (unhide N2 _)))
          go_wp2_with fail
          have EQ5 := hide (fun k => unhide EQ nq k)
          have HB5 : Hid (Below w.heap.size w (w4.drewN nq)) := hide (belowD (unhide HB4) _)
          have g0 : (w4.drewN nq).cell? ⟨w.heap.size, 0, none⟩ = some (.int .i64 0) := c0
          have g1 : (w4.drewN nq).cell? ⟨w.heap.size, 1, none⟩ = some (.int .u8 (r1 : Int)) := c1
          have g2 : (w4.drewN nq).cell? ⟨w.heap.size, 2, none⟩ = some (.int .i64 A) := c2
          have g3 : (w4.drewN nq).cell? ⟨w.heap.size, 3, none⟩ = some (.int .i64 B) := c3
          have j0 : (w4.drewN nq).cell? ⟨w.heap.size + 1, 0, none⟩ = some (.int .i64 0) := d0
          have j1 : (w4.drewN nq).cell? ⟨w.heap.size + 1, 1, none⟩ = some (.int .u8 (r2 : Int)) := d1
          have j2 : (w4.drewN nq).cell? ⟨w.heap.size + 1, 2, none⟩ = some (.int .i64 A2) := d2
          have j3 : (w4.drewN nq).cell? ⟨w.heap.size + 1, 3, none⟩ = some (.int .i64 B2) := d3
          generalize w4.drewN nq = w5 at EQ5 HB5 g0 g1 g2 g3 j0 j1 j2 j3 ⊢
          clear c0 c1 c2 c3 d0 d1 d2 d3 EQ N1 N2 HA3 HA4 HB4
          go_quiet ((go_at_call 10; with_reducible exact Calls.quiet_of (unhide EQ5 _)))
          go_wp2
          go_ret
          refine ⟨ret_bool ?_, belowD (unhide HB5) _⟩
          rw [unhide AP]
          rw [decide_eq_false (unhide HRR)]
          simp
  · have c0 := (unhide HY1).c0
    obtain ⟨c1, c2, c3⟩ := (unhide HY1).c
    go_simp
    refine hK.out _ _ trivial (fun hS => ?_)
    clear hK K hS c0 c1 c2 c3
    refine wpAnyH_ready (rs := [0]) (by kernel_rfl) (by simp) ?_
    refine (AllReadyH.cons rfl (fun K hK => ?_) AllReadyH.nil)
    have c0 := (unhide HX1).c0
    obtain ⟨c1, c2, c3⟩ := (unhide HX1).c
    go_simp
    refine hK.out _ _ trivial (fun hS => ?_)
    clear hK K hS c0 c1 c2 c3
    refine wpAnyH_ready (rs := [1]) (by kernel_rfl) (by simp) ?_
    refine (AllReadyH.cons rfl (fun K hK => ?_) AllReadyH.nil)
    go_simp
    go_wp2_with (go_at_call 14; refine (fit_any p op a b _ ho).mono ?_; rintro e V47 ⟨⟨A, B, rfl, hin⟩, hB⟩)
    have HI48 := hide hin
    have HX49 := hide ((unhide HX1).below hB)
    have HY50 := hide ((unhide HY1).below hB)
    have HB51 := hide ((unhide HB1).trans (hB.mono (unhide HB1).size))
    refine hK.out _ _ trivial (fun hS => ?_)
    clear hK K hS hin hB HX1 HY1 HB1
    refine wpAnyH_ready (rs := [3]) (by kernel_rfl) (by simp) ?_
    refine (AllReadyH.cons rfl (fun K hK => ?_) AllReadyH.nil)
    go_simp
    go_wp2_with (go_at_call 14; refine (fit_any p2 op2 a2 b2 _ ho2).mono ?_; rintro e V52 ⟨⟨A2, B2, rfl, hin⟩, hB⟩)
    have HI53 := hide hin
    have HX54 := hide ((unhide HX49).below hB)
    have HY55 := hide ((unhide HY50).below hB)
    have HB56 := hide ((unhide HB51).trans (hB.mono (unhide HB51).size))
    refine hK.out _ _ trivial (fun hS => ?_)
    clear hK K hS hin hB HX49 HY50 HB51
    refine wpAnyH_ready (rs := [4]) (by kernel_rfl) (by simp) ?_
    refine (AllReadyH.cons rfl (fun K hK => ?_) AllReadyH.nil)
    rw [if_pos (by rfl)]
    refine wp_store_row 37 _ _ rfl w.heap.size #[.int .i64 0, .int .u8 ((op % 34 : Nat) : Int), .int .i64 A, .int .i64 B] rfl rfl 37 _ (unhide HX54) sizeIn rfl (by simp; exact ⟨rfl, rfl, rfl, rfl⟩) ?_
    refine hK.out _ _ trivial (fun hS => ?_)
    clear hK K hS
    have HX57 := hide ((unhide HX54).row 0 (op % 34) A B)
    have HY58 := hide ((unhide HY55).rowOther (g := w.heap.size) #[.int .i64 0, .int .u8 ((op % 34 : Nat) : Int), .int .i64 A, .int .i64 B] (by simp))
    have HB59 := hide (below_setRowI (unhide HB56) (g := w.heap.size) (by simp) #[.int .i64 0, .int .u8 ((op % 34 : Nat) : Int), .int .i64 A, .int .i64 B])
    generalize (V52.setRow w.heap.size #[.int .i64 0, .int .u8 ((op % 34 : Nat) : Int), .int .i64 A, .int .i64 B]) = V60 at HX57 HY58 HB59 ⊢
    clear HX54 HY55 HB56 V52
    refine wpAnyH_ready (rs := [5]) (by kernel_rfl) (by simp) ?_
    refine (AllReadyH.cons rfl (fun K hK => ?_) AllReadyH.nil)
    rw [if_pos (by rfl)]
    refine wp_store_row 37 _ _ rfl (w.heap.size + 1) #[.int .i64 0, .int .u8 ((op2 % 34 : Nat) : Int), .int .i64 A2, .int .i64 B2] rfl rfl 37 _ (unhide HY58) sizeIn rfl (by simp; exact ⟨rfl, rfl, rfl, rfl⟩) ?_
    refine hK.out _ _ trivial (fun hS => ?_)
    clear hK K hS
    have HX61 := hide ((unhide HY58).row 0 (op2 % 34) A2 B2)
    have HY62 := hide ((unhide HX57).rowOther (g := (w.heap.size + 1)) #[.int .i64 0, .int .u8 ((op2 % 34 : Nat) : Int), .int .i64 A2, .int .i64 B2] (by simp))
    have HB63 := hide (below_setRowI (unhide HB59) (g := (w.heap.size + 1)) (by simp) #[.int .i64 0, .int .u8 ((op2 % 34 : Nat) : Int), .int .i64 A2, .int .i64 B2])
    generalize (V60.setRow (w.heap.size + 1) #[.int .i64 0, .int .u8 ((op2 % 34 : Nat) : Int), .int .i64 A2, .int .i64 B2]) = V64 at HX61 HY62 HB63 ⊢
    clear HY58 HX57 HB59 V60
    refine wpAnyH_done (by kernel_rfl) ?_ _
    have hr1 : op % 34 < 34 := Nat.mod_lt _ (by omega)
    have hr2 : op2 % 34 < 34 := Nat.mod_lt _ (by omega)
    obtain ⟨r1, HR1⟩ : ∃ r1, Hid (op % 34 = r1) := ⟨_, hide rfl⟩
    obtain ⟨r2, HR2⟩ : ∃ r2, Hid (op2 % 34 = r2) := ⟨_, hide rfl⟩
    rw [unhide HR1] at hr1 HI48 HY62
    rw [unhide HR2] at hr2 HI53 HX61
    clear HR1 HR2
    have hE1 : eE r1 A B = 0 := by unfold eE; rw [if_pos hr1, if_pos (unhide HI48)]
    have hE2 : eE r2 A2 B2 = 0 := by unfold eE; rw [if_pos hr2, if_pos (unhide HI53)]
    have hL1 : eL r1 A B = encL r1 A B := by unfold eL; rw [if_pos hE1]
    have hL2 : eL r2 A2 B2 = encL r2 A2 B2 := by unfold eL; rw [if_pos hE2]
    have E1 := hide (fun W h => Encode_any 0 r1 A B W h (by omega))
    have E2 := hide (fun W h => Encode_any 0 r2 A2 B2 W h (by omega))
    rw [hE1, hL1] at E1
    rw [hE2, hL2] at E2
    have n1 := encL_length r1 A B
    have n2 := encL_length r2 A2 B2
    have la1 := wA_le r1 hr1
    have lb1 := wB_le r1 hr1
    have la2 := wA_le r2 hr2
    have lb2 := wB_le r2 hr2
    have HAP := hide (enc_apart r1 r2 A B A2 B2 hr1 hr2 (unhide HI48) (unhide HI53) _ rfl)
    have hOW := op_word r1 hr1
    have hWA := words_apart r1 r2 hr1 hr2
    have HN1 : Hid (nmD r1 = wC r1) := hide (by unfold nmD; rw [if_pos hr1])
    have HN2 : Hid (nmD r2 = wC r2) := hide (by unfold nmD; rw [if_pos hr2])
    have m1 : 0 < (encL r1 A B).length ∧ (encL r1 A B).length ≤ 6 := by omega
    have m2 : 0 < (encL r2 A2 B2).length ∧ (encL r2 A2 B2).length ≤ 6 := by omega
    clear hE1 hE2 hL1 hL2 n1 n2 la1 lb1 la2 lb2 HI48 HI53
    generalize encL r1 A B = x at E1 HAP m1
    generalize encL r2 A2 B2 = y at E2 HAP m2
    obtain ⟨c1, c2, c3⟩ := (unhide HY62).c
    have c0 := (unhide HY62).c0
    go_wp2_with fail
    clear c0 c1 c2 c3
    with_reducible refine (unhide E1 _ ((unhide HW).below (unhide HB63))).mono ?_
    rintro e w3 ⟨v3, rfl, hO3, hB3⟩
    have HB3 := hide ((unhide HB63).trans (hB3.mono (unhide HB63).size))
    have HX3 := hide ((unhide HY62).below hB3)
    have HY3 := hide ((unhide HX61).below hB3)
    have HO3 := hide hO3
    obtain ⟨a3, p3, rfl, _⟩ := hO3.at
    clear hO3 hB3 HB63 HY62 HX61
    obtain ⟨d1, d2, d3⟩ := (unhide HY3).c
    have d0 := (unhide HY3).c0
    go_wp2_with fail
    with_reducible refine (unhide E2 _ ((unhide HW).below (unhide HB3))).mono ?_
    clear d0 d1 d2 d3
    rintro e w4 ⟨v4, rfl, hO4, hB4⟩
    have HB4 := hide ((unhide HB3).trans (hB4.mono (unhide HB3).size))
    have HX4 := hide ((unhide HX3).below hB4)
    have HY4 := hide ((unhide HY3).below hB4)
    obtain ⟨_, _, e3, hb3⟩ := ((unhide HO3).below hB4).at
    simp only [Value.slice.injEq] at e3
    obtain ⟨rfl, _, rfl⟩ := e3
    obtain ⟨a4, p4, rfl, hb4⟩ := hO4.at
    have hc3 : x.length ≤ p3 := by
      rcases (unhide HO3).shape with ⟨h1, _⟩ | ⟨g', cap', h1, _, _, h4, _, _⟩
      · injection h1 with _ h1; omega
      · injection h1 with _ _ h1; omega
    have hc4 : y.length ≤ p4 := by
      rcases hO4.shape with ⟨h1, _⟩ | ⟨g', cap', h1, _, _, h4, _, _⟩
      · injection h1 with _ h1; omega
      · injection h1 with _ _ h1; omega
    have HA3 := hide hb3
    have HA4 := hide hb4
    clear hO4 hB4 HB3 HX3 HY3 HO3 hb3 hb4 E1 E2
    obtain ⟨c1, c2, c3⟩ := (unhide HX4).c
    have c0 := (unhide HX4).c0
    obtain ⟨d1, d2, d3⟩ := (unhide HY4).c
    have d0 := (unhide HY4).c0
    have N1 := hide (fun k => Name_any r1 (w4.drewN k) (((unhide HC).below (unhide HB4)).below (belowD (Below.refl _ _) k)) (by omega))
    have N2 := hide (fun k => Name_any r2 (w4.drewN k) (((unhide HC).below (unhide HB4)).below (belowD (Below.refl _ _) k)) (by omega))
    have N0 := hide (Name_any r1 w4 ((unhide HC).below (unhide HB4)) (by omega))
    have O0 := hide (Op_any (wC r1) w4 ((unhide HC).below (unhide HB4)))
    rw [hOW] at O0
    rw [unhide HN1] at N1 N0
    rw [unhide HN2] at N2
    clear hOW HN1 HN2 HX4 HY4
    generalize wC r1 = z1 at N0 N1 O0 hWA
    generalize wC r2 = z2 at N2 hWA
    have q1 : ((x.length : Int) == 0) = false := beq_f (by omega)
    have q2 : ((y.length : Int) == 0) = false := beq_f (by omega)
    go_wp2_with (first | (go_at_call 20; with_reducible refine (unhide N0).mono ?_; rintro e w5 ⟨rfl, hw5⟩; rw [hw5]; clear hw5) | (go_at_call 19; with_reducible refine (unhide O0).mono ?_; rintro e w5 ⟨rfl, hw5⟩; rw [hw5]; clear hw5))
    have HWA := hide hWA
    clear hWA N0 O0 q1 q2
    have hp3 : ¬ p3 = 0 := by omega
    have hp4 : ¬ p4 = 0 := by omega
    by_cases hyx : y.length < x.length
    · have t1 : (x.take y.length).length = y.length := by rw [List.length_take]; omega
      have t2 : (y.take y.length).length = y.length := by rw [List.length_take]; omega
      have EQ := hide (fun j k => Equal_any a3 a4 p3 p4 (x.take y.length) (y.take y.length) ((w4.drewN j).drewN k) (by have h := unhide HA3; rw [← List.take_append_drop y.length x] at h; exact h.take) (by have h := unhide HA4; rw [← List.take_append_drop y.length y] at h; exact h.take) (by unfold maxLen; omega) (by unfold maxLen; omega))
      rw [t1, t2] at EQ
      have AP : Hid ((x.take y.length == y.take y.length) = (decide (r1 = r2) && decide (A = A2) && decide (B = B2))) := hide (by have h := unhide HAP; rwa [show min x.length y.length = y.length from Nat.min_eq_right (by omega)] at h)
      generalize (x.take y.length == y.take y.length) = eqv at EQ AP
      have i3 : (y.length : Int) ≤ (p3 : Int) := by omega
      have i4 : (y.length : Int) ≤ (p4 : Int) := by omega
      have HYX := hide hyx
      clear t1 t2
      by_cases hrr : r1 = r2
      · have b1 : (((r1 : Nat) : Int) != ((r2 : Nat) : Int)) = false := bne_f (by omega)
        have b2 : (((r1 : Nat) : Int) == ((r2 : Nat) : Int)) = true := beq_t (by omega)
        have HRR := hide hrr
        clear hrr
        by_cases hA : A = A2
        · by_cases hB : B = B2
          · have bA : (A == A2) = true := beq_t hA
            have bB : (B == B2) = true := beq_t hB
            have HA := hide hA
            have HBb := hide hB
            clear hA hB
            go_quiet (fail)
            go_wp2_with fail
            have EQ5 := hide (fun k => unhide EQ nq k)
            have HB5 : Hid (Below w.heap.size w (w4.drewN nq)) := hide (belowD (unhide HB4) _)
            have g0 : (w4.drewN nq).cell? ⟨w.heap.size, 0, none⟩ = some (.int .i64 0) := c0
            have g1 : (w4.drewN nq).cell? ⟨w.heap.size, 1, none⟩ = some (.int .u8 (r1 : Int)) := c1
            have g2 : (w4.drewN nq).cell? ⟨w.heap.size, 2, none⟩ = some (.int .i64 A) := c2
            have g3 : (w4.drewN nq).cell? ⟨w.heap.size, 3, none⟩ = some (.int .i64 B) := c3
            have j0 : (w4.drewN nq).cell? ⟨w.heap.size + 1, 0, none⟩ = some (.int .i64 0) := d0
            have j1 : (w4.drewN nq).cell? ⟨w.heap.size + 1, 1, none⟩ = some (.int .u8 (r2 : Int)) := d1
            have j2 : (w4.drewN nq).cell? ⟨w.heap.size + 1, 2, none⟩ = some (.int .i64 A2) := d2
            have j3 : (w4.drewN nq).cell? ⟨w.heap.size + 1, 3, none⟩ = some (.int .i64 B2) := d3
            generalize w4.drewN nq = w5 at EQ5 HB5 g0 g1 g2 g3 j0 j1 j2 j3 ⊢
            clear c0 c1 c2 c3 d0 d1 d2 d3 EQ N1 N2 HA3 HA4 HB4
            go_quiet ((go_at_call 10; with_reducible exact Calls.quiet_of (unhide EQ5 _)))
            go_wp2
            go_ret
            refine ⟨ret_bool ?_, belowD (unhide HB5) _⟩
            rw [unhide AP]
            rw [unhide HRR]
            rw [decide_eq_true (unhide HA), decide_eq_true (unhide HBb)]
            simp
          · have bA : (A == A2) = true := beq_t hA
            have bB : (B == B2) = false := beq_f hB
            have HA := hide hA
            have HBb := hide hB
            clear hA hB
            go_quiet (fail)
            go_wp2_with fail
            have EQ5 := hide (fun k => unhide EQ nq k)
            have HB5 : Hid (Below w.heap.size w (w4.drewN nq)) := hide (belowD (unhide HB4) _)
            have g0 : (w4.drewN nq).cell? ⟨w.heap.size, 0, none⟩ = some (.int .i64 0) := c0
            have g1 : (w4.drewN nq).cell? ⟨w.heap.size, 1, none⟩ = some (.int .u8 (r1 : Int)) := c1
            have g2 : (w4.drewN nq).cell? ⟨w.heap.size, 2, none⟩ = some (.int .i64 A) := c2
            have g3 : (w4.drewN nq).cell? ⟨w.heap.size, 3, none⟩ = some (.int .i64 B) := c3
            have j0 : (w4.drewN nq).cell? ⟨w.heap.size + 1, 0, none⟩ = some (.int .i64 0) := d0
            have j1 : (w4.drewN nq).cell? ⟨w.heap.size + 1, 1, none⟩ = some (.int .u8 (r2 : Int)) := d1
            have j2 : (w4.drewN nq).cell? ⟨w.heap.size + 1, 2, none⟩ = some (.int .i64 A2) := d2
            have j3 : (w4.drewN nq).cell? ⟨w.heap.size + 1, 3, none⟩ = some (.int .i64 B2) := d3
            generalize w4.drewN nq = w5 at EQ5 HB5 g0 g1 g2 g3 j0 j1 j2 j3 ⊢
            clear c0 c1 c2 c3 d0 d1 d2 d3 EQ N1 N2 HA3 HA4 HB4
            go_quiet ((go_at_call 10; with_reducible exact Calls.quiet_of (unhide EQ5 _)))
            go_wp2
            go_ret
            refine ⟨ret_bool ?_, belowD (unhide HB5) _⟩
            rw [unhide AP]
            rw [unhide HRR]
            rw [decide_eq_true (unhide HA), decide_eq_false (unhide HBb)]
            simp
        · by_cases hB : B = B2
          · have bA : (A == A2) = false := beq_f hA
            have bB : (B == B2) = true := beq_t hB
            have HA := hide hA
            have HBb := hide hB
            clear hA hB
            go_quiet (fail)
            go_wp2_with fail
            have EQ5 := hide (fun k => unhide EQ nq k)
            have HB5 : Hid (Below w.heap.size w (w4.drewN nq)) := hide (belowD (unhide HB4) _)
            have g0 : (w4.drewN nq).cell? ⟨w.heap.size, 0, none⟩ = some (.int .i64 0) := c0
            have g1 : (w4.drewN nq).cell? ⟨w.heap.size, 1, none⟩ = some (.int .u8 (r1 : Int)) := c1
            have g2 : (w4.drewN nq).cell? ⟨w.heap.size, 2, none⟩ = some (.int .i64 A) := c2
            have g3 : (w4.drewN nq).cell? ⟨w.heap.size, 3, none⟩ = some (.int .i64 B) := c3
            have j0 : (w4.drewN nq).cell? ⟨w.heap.size + 1, 0, none⟩ = some (.int .i64 0) := d0
            have j1 : (w4.drewN nq).cell? ⟨w.heap.size + 1, 1, none⟩ = some (.int .u8 (r2 : Int)) := d1
            have j2 : (w4.drewN nq).cell? ⟨w.heap.size + 1, 2, none⟩ = some (.int .i64 A2) := d2
            have j3 : (w4.drewN nq).cell? ⟨w.heap.size + 1, 3, none⟩ = some (.int .i64 B2) := d3
            generalize w4.drewN nq = w5 at EQ5 HB5 g0 g1 g2 g3 j0 j1 j2 j3 ⊢
            clear c0 c1 c2 c3 d0 d1 d2 d3 EQ N1 N2 HA3 HA4 HB4
            go_quiet ((go_at_call 10; with_reducible exact Calls.quiet_of (unhide EQ5 _)))
            go_wp2
            go_ret
            refine ⟨ret_bool ?_, belowD (unhide HB5) _⟩
            rw [unhide AP]
            rw [unhide HRR]
            rw [decide_eq_false (unhide HA), decide_eq_true (unhide HBb)]
            simp
          · have bA : (A == A2) = false := beq_f hA
            have bB : (B == B2) = false := beq_f hB
            have HA := hide hA
            have HBb := hide hB
            clear hA hB
            go_quiet (fail)
            go_wp2_with fail
            have EQ5 := hide (fun k => unhide EQ nq k)
            have HB5 : Hid (Below w.heap.size w (w4.drewN nq)) := hide (belowD (unhide HB4) _)
            have g0 : (w4.drewN nq).cell? ⟨w.heap.size, 0, none⟩ = some (.int .i64 0) := c0
            have g1 : (w4.drewN nq).cell? ⟨w.heap.size, 1, none⟩ = some (.int .u8 (r1 : Int)) := c1
            have g2 : (w4.drewN nq).cell? ⟨w.heap.size, 2, none⟩ = some (.int .i64 A) := c2
            have g3 : (w4.drewN nq).cell? ⟨w.heap.size, 3, none⟩ = some (.int .i64 B) := c3
            have j0 : (w4.drewN nq).cell? ⟨w.heap.size + 1, 0, none⟩ = some (.int .i64 0) := d0
            have j1 : (w4.drewN nq).cell? ⟨w.heap.size + 1, 1, none⟩ = some (.int .u8 (r2 : Int)) := d1
            have j2 : (w4.drewN nq).cell? ⟨w.heap.size + 1, 2, none⟩ = some (.int .i64 A2) := d2
            have j3 : (w4.drewN nq).cell? ⟨w.heap.size + 1, 3, none⟩ = some (.int .i64 B2) := d3
            generalize w4.drewN nq = w5 at EQ5 HB5 g0 g1 g2 g3 j0 j1 j2 j3 ⊢
            clear c0 c1 c2 c3 d0 d1 d2 d3 EQ N1 N2 HA3 HA4 HB4
            go_quiet ((go_at_call 10; with_reducible exact Calls.quiet_of (unhide EQ5 _)))
            go_wp2
            go_ret
            refine ⟨ret_bool ?_, belowD (unhide HB5) _⟩
            rw [unhide AP]
            rw [unhide HRR]
            rw [decide_eq_false (unhide HA), decide_eq_false (unhide HBb)]
            simp
      · have b1 : (((r1 : Nat) : Int) != ((r2 : Nat) : Int)) = true := bne_t (by omega)
        have b2 : (((r1 : Nat) : Int) == ((r2 : Nat) : Int)) = false := beq_f (by omega)
        have hz : (z1.toList == z2.toList) = false := by rw [unhide HWA]; exact decide_eq_false hrr
        have HRR := hide hrr
        clear hrr
        go_quiet (first | (go_at_call 20; with_reducible exact Calls.quiet_of_same (unhide N1 _)) | (go_at_call 20; with_reducible exact Calls.quiet_of_same (unhide N2 _)))
        go_wp2_with fail
        have EQ5 := hide (fun k => unhide EQ nq k)
        have HB5 : Hid (Below w.heap.size w (w4.drewN nq)) := hide (belowD (unhide HB4) _)
        have g0 : (w4.drewN nq).cell? ⟨w.heap.size, 0, none⟩ = some (.int .i64 0) := c0
        have g1 : (w4.drewN nq).cell? ⟨w.heap.size, 1, none⟩ = some (.int .u8 (r1 : Int)) := c1
        have g2 : (w4.drewN nq).cell? ⟨w.heap.size, 2, none⟩ = some (.int .i64 A) := c2
        have g3 : (w4.drewN nq).cell? ⟨w.heap.size, 3, none⟩ = some (.int .i64 B) := c3
        have j0 : (w4.drewN nq).cell? ⟨w.heap.size + 1, 0, none⟩ = some (.int .i64 0) := d0
        have j1 : (w4.drewN nq).cell? ⟨w.heap.size + 1, 1, none⟩ = some (.int .u8 (r2 : Int)) := d1
        have j2 : (w4.drewN nq).cell? ⟨w.heap.size + 1, 2, none⟩ = some (.int .i64 A2) := d2
        have j3 : (w4.drewN nq).cell? ⟨w.heap.size + 1, 3, none⟩ = some (.int .i64 B2) := d3
        generalize w4.drewN nq = w5 at EQ5 HB5 g0 g1 g2 g3 j0 j1 j2 j3 ⊢
        clear c0 c1 c2 c3 d0 d1 d2 d3 EQ N1 N2 HA3 HA4 HB4
        go_quiet ((go_at_call 10; with_reducible exact Calls.quiet_of (unhide EQ5 _)))
        go_wp2
        go_ret
        refine ⟨ret_bool ?_, belowD (unhide HB5) _⟩
        rw [unhide AP]
        rw [decide_eq_false (unhide HRR)]
        simp
    · have t1 : (x.take x.length).length = x.length := by rw [List.length_take]; omega
      have t2 : (y.take x.length).length = x.length := by rw [List.length_take]; omega
      have EQ := hide (fun j k => Equal_any a3 a4 p3 p4 (x.take x.length) (y.take x.length) ((w4.drewN j).drewN k) (by have h := unhide HA3; rw [← List.take_append_drop x.length x] at h; exact h.take) (by have h := unhide HA4; rw [← List.take_append_drop x.length y] at h; exact h.take) (by unfold maxLen; omega) (by unfold maxLen; omega))
      rw [t1, t2] at EQ
      have AP : Hid ((x.take x.length == y.take x.length) = (decide (r1 = r2) && decide (A = A2) && decide (B = B2))) := hide (by have h := unhide HAP; rwa [show min x.length y.length = x.length from Nat.min_eq_left (by omega)] at h)
      generalize (x.take x.length == y.take x.length) = eqv at EQ AP
      have i3 : (x.length : Int) ≤ (p3 : Int) := by omega
      have i4 : (x.length : Int) ≤ (p4 : Int) := by omega
      have HYX := hide hyx
      clear t1 t2
      by_cases hrr : r1 = r2
      · have b1 : (((r1 : Nat) : Int) != ((r2 : Nat) : Int)) = false := bne_f (by omega)
        have b2 : (((r1 : Nat) : Int) == ((r2 : Nat) : Int)) = true := beq_t (by omega)
        have HRR := hide hrr
        clear hrr
        by_cases hA : A = A2
        · by_cases hB : B = B2
          · have bA : (A == A2) = true := beq_t hA
            have bB : (B == B2) = true := beq_t hB
            have HA := hide hA
            have HBb := hide hB
            clear hA hB
            go_quiet (fail)
            go_wp2_with fail
            have EQ5 := hide (fun k => unhide EQ nq k)
            have HB5 : Hid (Below w.heap.size w (w4.drewN nq)) := hide (belowD (unhide HB4) _)
            have g0 : (w4.drewN nq).cell? ⟨w.heap.size, 0, none⟩ = some (.int .i64 0) := c0
            have g1 : (w4.drewN nq).cell? ⟨w.heap.size, 1, none⟩ = some (.int .u8 (r1 : Int)) := c1
            have g2 : (w4.drewN nq).cell? ⟨w.heap.size, 2, none⟩ = some (.int .i64 A) := c2
            have g3 : (w4.drewN nq).cell? ⟨w.heap.size, 3, none⟩ = some (.int .i64 B) := c3
            have j0 : (w4.drewN nq).cell? ⟨w.heap.size + 1, 0, none⟩ = some (.int .i64 0) := d0
            have j1 : (w4.drewN nq).cell? ⟨w.heap.size + 1, 1, none⟩ = some (.int .u8 (r2 : Int)) := d1
            have j2 : (w4.drewN nq).cell? ⟨w.heap.size + 1, 2, none⟩ = some (.int .i64 A2) := d2
            have j3 : (w4.drewN nq).cell? ⟨w.heap.size + 1, 3, none⟩ = some (.int .i64 B2) := d3
            generalize w4.drewN nq = w5 at EQ5 HB5 g0 g1 g2 g3 j0 j1 j2 j3 ⊢
            clear c0 c1 c2 c3 d0 d1 d2 d3 EQ N1 N2 HA3 HA4 HB4
            go_quiet ((go_at_call 10; with_reducible exact Calls.quiet_of (unhide EQ5 _)))
            go_wp2
            go_ret
            refine ⟨ret_bool ?_, belowD (unhide HB5) _⟩
            rw [unhide AP]
            rw [unhide HRR]
            rw [decide_eq_true (unhide HA), decide_eq_true (unhide HBb)]
            simp
          · have bA : (A == A2) = true := beq_t hA
            have bB : (B == B2) = false := beq_f hB
            have HA := hide hA
            have HBb := hide hB
            clear hA hB
            go_quiet (fail)
            go_wp2_with fail
            have EQ5 := hide (fun k => unhide EQ nq k)
            have HB5 : Hid (Below w.heap.size w (w4.drewN nq)) := hide (belowD (unhide HB4) _)
            have g0 : (w4.drewN nq).cell? ⟨w.heap.size, 0, none⟩ = some (.int .i64 0) := c0
            have g1 : (w4.drewN nq).cell? ⟨w.heap.size, 1, none⟩ = some (.int .u8 (r1 : Int)) := c1
            have g2 : (w4.drewN nq).cell? ⟨w.heap.size, 2, none⟩ = some (.int .i64 A) := c2
            have g3 : (w4.drewN nq).cell? ⟨w.heap.size, 3, none⟩ = some (.int .i64 B) := c3
            have j0 : (w4.drewN nq).cell? ⟨w.heap.size + 1, 0, none⟩ = some (.int .i64 0) := d0
            have j1 : (w4.drewN nq).cell? ⟨w.heap.size + 1, 1, none⟩ = some (.int .u8 (r2 : Int)) := d1
            have j2 : (w4.drewN nq).cell? ⟨w.heap.size + 1, 2, none⟩ = some (.int .i64 A2) := d2
            have j3 : (w4.drewN nq).cell? ⟨w.heap.size + 1, 3, none⟩ = some (.int .i64 B2) := d3
            generalize w4.drewN nq = w5 at EQ5 HB5 g0 g1 g2 g3 j0 j1 j2 j3 ⊢
            clear c0 c1 c2 c3 d0 d1 d2 d3 EQ N1 N2 HA3 HA4 HB4
            go_quiet ((go_at_call 10; with_reducible exact Calls.quiet_of (unhide EQ5 _)))
            go_wp2
            go_ret
            refine ⟨ret_bool ?_, belowD (unhide HB5) _⟩
            rw [unhide AP]
            rw [unhide HRR]
            rw [decide_eq_true (unhide HA), decide_eq_false (unhide HBb)]
            simp
        · by_cases hB : B = B2
          · have bA : (A == A2) = false := beq_f hA
            have bB : (B == B2) = true := beq_t hB
            have HA := hide hA
            have HBb := hide hB
            clear hA hB
            go_quiet (fail)
            go_wp2_with fail
            have EQ5 := hide (fun k => unhide EQ nq k)
            have HB5 : Hid (Below w.heap.size w (w4.drewN nq)) := hide (belowD (unhide HB4) _)
            have g0 : (w4.drewN nq).cell? ⟨w.heap.size, 0, none⟩ = some (.int .i64 0) := c0
            have g1 : (w4.drewN nq).cell? ⟨w.heap.size, 1, none⟩ = some (.int .u8 (r1 : Int)) := c1
            have g2 : (w4.drewN nq).cell? ⟨w.heap.size, 2, none⟩ = some (.int .i64 A) := c2
            have g3 : (w4.drewN nq).cell? ⟨w.heap.size, 3, none⟩ = some (.int .i64 B) := c3
            have j0 : (w4.drewN nq).cell? ⟨w.heap.size + 1, 0, none⟩ = some (.int .i64 0) := d0
            have j1 : (w4.drewN nq).cell? ⟨w.heap.size + 1, 1, none⟩ = some (.int .u8 (r2 : Int)) := d1
            have j2 : (w4.drewN nq).cell? ⟨w.heap.size + 1, 2, none⟩ = some (.int .i64 A2) := d2
            have j3 : (w4.drewN nq).cell? ⟨w.heap.size + 1, 3, none⟩ = some (.int .i64 B2) := d3
            generalize w4.drewN nq = w5 at EQ5 HB5 g0 g1 g2 g3 j0 j1 j2 j3 ⊢
            clear c0 c1 c2 c3 d0 d1 d2 d3 EQ N1 N2 HA3 HA4 HB4
            go_quiet ((go_at_call 10; with_reducible exact Calls.quiet_of (unhide EQ5 _)))
            go_wp2
            go_ret
            refine ⟨ret_bool ?_, belowD (unhide HB5) _⟩
            rw [unhide AP]
            rw [unhide HRR]
            rw [decide_eq_false (unhide HA), decide_eq_true (unhide HBb)]
            simp
          · have bA : (A == A2) = false := beq_f hA
            have bB : (B == B2) = false := beq_f hB
            have HA := hide hA
            have HBb := hide hB
            clear hA hB
            go_quiet (fail)
            go_wp2_with fail
            have EQ5 := hide (fun k => unhide EQ nq k)
            have HB5 : Hid (Below w.heap.size w (w4.drewN nq)) := hide (belowD (unhide HB4) _)
            have g0 : (w4.drewN nq).cell? ⟨w.heap.size, 0, none⟩ = some (.int .i64 0) := c0
            have g1 : (w4.drewN nq).cell? ⟨w.heap.size, 1, none⟩ = some (.int .u8 (r1 : Int)) := c1
            have g2 : (w4.drewN nq).cell? ⟨w.heap.size, 2, none⟩ = some (.int .i64 A) := c2
            have g3 : (w4.drewN nq).cell? ⟨w.heap.size, 3, none⟩ = some (.int .i64 B) := c3
            have j0 : (w4.drewN nq).cell? ⟨w.heap.size + 1, 0, none⟩ = some (.int .i64 0) := d0
            have j1 : (w4.drewN nq).cell? ⟨w.heap.size + 1, 1, none⟩ = some (.int .u8 (r2 : Int)) := d1
            have j2 : (w4.drewN nq).cell? ⟨w.heap.size + 1, 2, none⟩ = some (.int .i64 A2) := d2
            have j3 : (w4.drewN nq).cell? ⟨w.heap.size + 1, 3, none⟩ = some (.int .i64 B2) := d3
            generalize w4.drewN nq = w5 at EQ5 HB5 g0 g1 g2 g3 j0 j1 j2 j3 ⊢
            clear c0 c1 c2 c3 d0 d1 d2 d3 EQ N1 N2 HA3 HA4 HB4
            go_quiet ((go_at_call 10; with_reducible exact Calls.quiet_of (unhide EQ5 _)))
            go_wp2
            go_ret
            refine ⟨ret_bool ?_, belowD (unhide HB5) _⟩
            rw [unhide AP]
            rw [unhide HRR]
            rw [decide_eq_false (unhide HA), decide_eq_false (unhide HBb)]
            simp
      · have b1 : (((r1 : Nat) : Int) != ((r2 : Nat) : Int)) = true := bne_t (by omega)
        have b2 : (((r1 : Nat) : Int) == ((r2 : Nat) : Int)) = false := beq_f (by omega)
        have hz : (z1.toList == z2.toList) = false := by rw [unhide HWA]; exact decide_eq_false hrr
        have HRR := hide hrr
        clear hrr
        go_quiet (first | (go_at_call 20; with_reducible exact Calls.quiet_of_same (unhide N1 _)) | (go_at_call 20; with_reducible exact Calls.quiet_of_same (unhide N2 _)))
        go_wp2_with fail
        have EQ5 := hide (fun k => unhide EQ nq k)
        have HB5 : Hid (Below w.heap.size w (w4.drewN nq)) := hide (belowD (unhide HB4) _)
        have g0 : (w4.drewN nq).cell? ⟨w.heap.size, 0, none⟩ = some (.int .i64 0) := c0
        have g1 : (w4.drewN nq).cell? ⟨w.heap.size, 1, none⟩ = some (.int .u8 (r1 : Int)) := c1
        have g2 : (w4.drewN nq).cell? ⟨w.heap.size, 2, none⟩ = some (.int .i64 A) := c2
        have g3 : (w4.drewN nq).cell? ⟨w.heap.size, 3, none⟩ = some (.int .i64 B) := c3
        have j0 : (w4.drewN nq).cell? ⟨w.heap.size + 1, 0, none⟩ = some (.int .i64 0) := d0
        have j1 : (w4.drewN nq).cell? ⟨w.heap.size + 1, 1, none⟩ = some (.int .u8 (r2 : Int)) := d1
        have j2 : (w4.drewN nq).cell? ⟨w.heap.size + 1, 2, none⟩ = some (.int .i64 A2) := d2
        have j3 : (w4.drewN nq).cell? ⟨w.heap.size + 1, 3, none⟩ = some (.int .i64 B2) := d3
        generalize w4.drewN nq = w5 at EQ5 HB5 g0 g1 g2 g3 j0 j1 j2 j3 ⊢
        clear c0 c1 c2 c3 d0 d1 d2 d3 EQ N1 N2 HA3 HA4 HB4
        go_quiet ((go_at_call 10; with_reducible exact Calls.quiet_of (unhide EQ5 _)))
        go_wp2
        go_ret
        refine ⟨ret_bool ?_, belowD (unhide HB5) _⟩
        rw [unhide AP]
        rw [decide_eq_false (unhide HRR)]
        simp
end Go.Proofs.YtihkodfcgfnjoacDoor
