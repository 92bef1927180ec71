/-
  code's spans and provisoref04's fits say the same; the contract of provisoref04.Encode.
-/
import Derived.Test.YtihkodfcgfnjoabDoorIn5
namespace Go.Proofs.YtihkodfcgfnjoabDoor
open Go.RowKit

theorem inD_fits : ∀ op : Nat, op < 34 → ∀ a b : Int, inD op a b = (fitD a (wA op) && fitD b (wB op) && !(decide (op = 2) && decide (1 < a))) := by
  refine cases34 ?_ ?_ ?_ ?_ ?_ ?_ ?_ ?_ ?_ ?_ ?_ ?_ ?_ ?_ ?_ ?_ ?_ ?_ ?_ ?_ ?_ ?_ ?_ ?_ ?_ ?_ ?_ ?_ ?_ ?_ ?_ ?_ ?_ ?_
  all_goals
    intro a b
    rw [Bool.eq_iff_iff]
    simp [inD, fitD, loA, hiA, hiB, wA, wB]
    try omega
theorem fitD_le (n : Int) (k : Nat) (h : fitD n k = true) : -2147483648 ≤ n ∧ n ≤ 2147483647 := by
  unfold fitD at h
  split at h
  · simp at h; omega
  · split at h
    · simp at h; omega
    · split at h
      · simp at h; omega
      · simp at h; omega

theorem own_one (w : World) (x : UInt8) (z : Int) (hz : z = (x.toNat : Int)) (base : Nat) (hb : base ≤ w.heap.size) : OwnB (w.alloc (.cells #[.int .u8 z] 5)) base (.slice (some ⟨w.heap.size, 0, none⟩) 1 1) [x] := by
  subst hz
  exact ⟨by simp [bvals], .inr ⟨w.heap.size, 1, #[.int .u8 (x.toNat : Int)], rfl, hb, heap_alloc_new w _, Nat.le_refl _, by decide, rfl, by simp [bvals]⟩⟩

set_option maxHeartbeats 2000000 in
theorem refEncode_any (p : Int) (op : Nat) (a b : Int) (w : World) (ho : op < 256) :
    Calls Tryd.prog 18 #[.agg #[.int .i64 p, .int .u8 (op : Int), .int .i64 a, .int .i64 b]] w fun e w' => ∃ v, e = .returned (.tuple #[v, .int .i64 (eE op a b)]) ∧ OwnB w' w.heap.size v (eL op a b) ∧ Below w.heap.size w w' := by
  by_cases h34 : op < 34
  rotate_left
  · have HE : Hid (eE op a b = 40) := hide (by unfold eE; rw [if_neg h34])
    have HL : Hid (eL op a b = []) := hide (by unfold eL; rw [unhide HE]; rfl)
    have HS : Hid (sizeD op = 0) := hide (by unfold sizeD; rw [if_neg h34])
    clear h34
    go_enter Tryd.func18, Tryd.ntmps18
    go_wp2_with fail
    with_reducible refine (refSize_any op _).mono ?_
    rintro e w1 ⟨rfl, rfl⟩
    rw [unhide HS]
    go_wp2
    go_ret2
    rw [unhide HE, unhide HL]
    exact ⟨_, rfl, World.ownsRow_nil _ _ _ _, by go_grown⟩
  have HS : Hid ((((sizeD op : Nat) : Int) == 0) = false) := hide (by unfold sizeD; rw [if_pos h34]; exact beq_f (by omega))
  have HF := hide (inD_fits op h34 a b)
  have la := wA_le op h34
  have lb := wB_le op h34
  go_enter Tryd.func18, Tryd.ntmps18
  go_wp2_with fail
  with_reducible refine (refSize_any op _).mono ?_
  rintro e w1 ⟨rfl, rfl⟩
  have hS := unhide HS
  clear HS
  go_wp2_with fail
  with_reducible refine (refWide_any op _ h34).mono ?_
  rintro e w1 ⟨rfl, rfl⟩
  clear hS
  have HW0 : Hid (IAt (w.alloc (.cells #[.int .i64 p, .int .u8 (op : Int), .int .i64 a, .int .i64 b] 29)) w.heap.size p op a b) := hide (heap_alloc_new w _)
  have HB0 : Hid (Below w.heap.size w (w.alloc (.cells #[.int .i64 p, .int .u8 (op : Int), .int .i64 a, .int .i64 b] 29))) := hide ((Below.refl _ _).alloc (Nat.le_refl _) _)
  go_wp2_with fail
  generalize w.alloc (.cells #[.int .i64 p, .int .u8 (op : Int), .int .i64 a, .int .i64 b] 29) = w0 at HW0 HB0 ⊢
  obtain ⟨c1, c2, c3⟩ := (unhide HW0).c
  with_reducible refine (fits_any a (wA op) _).mono ?_
  rintro e w1 ⟨rfl, k1, rfl⟩
  cases f1 : fitD a (wA op)
  · have HE : Hid (eE op a b = 5) := hide (by unfold eE; rw [if_pos h34, unhide HF, f1]; simp)
    have HL : Hid (eL op a b = []) := hide (by unfold eL; rw [unhide HE]; rfl)
    clear f1
    go_wp2
    go_ret2
    rw [unhide HE, unhide HL]
    exact ⟨_, rfl, World.ownsRow_nil _ _ _ _, belowD (unhide HB0) _⟩
  have F1 := hide f1
  clear f1
  go_wp2_with fail
  with_reducible refine (fits_any b (wB op) _).mono ?_
  rintro e w1 ⟨rfl, k2, rfl⟩
  cases f2 : fitD b (wB op)
  · have HE : Hid (eE op a b = 5) := hide (by unfold eE; rw [if_pos h34, unhide HF, f2]; simp)
    have HL : Hid (eL op a b = []) := hide (by unfold eL; rw [unhide HE]; rfl)
    clear f2
    go_wp2
    go_ret2
    rw [unhide HE, unhide HL]
    exact ⟨_, rfl, World.ownsRow_nil _ _ _ _, belowD (unhide HB0) _⟩
  have F2 := hide f2
  clear f2
  have HW1 : Hid (IAt ((w0.drewN k1).drewN k2) w.heap.size p op a b) := hide (unhide HW0)
  have HB1 : Hid (Below w.heap.size w ((w0.drewN k1).drewN k2)) := hide (belowD (belowD (unhide HB0) _) _)
  generalize (w0.drewN k1).drewN k2 = w1 at HW1 HB1 ⊢
  clear HW0 HB0 c1 c2 c3 w0 k1 k2
  obtain ⟨c1, c2, c3⟩ := (unhide HW1).c
  by_cases hbad : op = 2 ∧ 1 < a
  · have HE : Hid (eE op a b = 5) := hide (by unfold eE; rw [if_pos h34, unhide HF, decide_eq_true hbad.1, decide_eq_true hbad.2]; simp)
    have HL : Hid (eL op a b = []) := hide (by unfold eL; rw [unhide HE]; rfl)
    have d2 : (((op : Nat) : Int) == 2) = true := beq_t (by omega)
    have d3 : decide (1 < a) = true := decide_eq_true hbad.2
    clear hbad
    go_wp2
    go_ret2
    rw [unhide HE, unhide HL]
    exact ⟨_, rfl, World.ownsRow_nil _ _ _ _, unhide HB1⟩
  have hok : (decide (op = 2) && decide (1 < a)) = false := by
    rw [Bool.and_eq_false_iff]
    by_cases h : op = 2
    · right; exact decide_eq_false (fun h' => hbad ⟨h, h'⟩)
    · left; exact decide_eq_false h
  have HE : Hid (eE op a b = 0) := hide (by unfold eE; rw [if_pos h34, unhide HF, hok, unhide F1, unhide F2]; simp)
  have HL : Hid (eL op a b = encL op a b) := hide (by unfold eL; rw [unhide HE]; rfl)
  have ra := hide (fitD_le _ _ (unhide F1))
  have rb := hide (fitD_le _ _ (unhide F2))
  have hd : (((op : Nat) : Int) == 2) = false ∨ ((((op : Nat) : Int) == 2) = true ∧ decide (1 < a) = false) := by
    by_cases h : op = 2
    · right; exact ⟨beq_t (by omega), decide_eq_false (fun h' => hbad ⟨h, h'⟩)⟩
    · left; exact beq_f (by omega)
  clear hbad hok
  have HX8 : Hid (((op : Nat) : Int) = ((UInt8.ofNat op).toNat : Int)) := hide (by rw [UInt8.toNat_ofNat_of_lt' (by show _ < 256; omega)])
  have main : ∀ w2 : World, Below w1.heap.size w1 w2 → w2.heap.size = w1.heap.size → True := fun _ _ _ => trivial
  clear main
  rcases hd with d2 | ⟨d2, d3⟩
  · have HA1 : Hid (Below w1.heap.size w1 (w1.alloc (.cells #[.int .u8 (op : Int)] 5))) := hide ((Below.refl _ _).alloc (Nat.le_refl _) _)
    have HO1 : Hid (OwnB (w1.alloc (.cells #[.int .u8 (op : Int)] 5)) w1.heap.size (.slice (some ⟨w1.heap.size, 0, none⟩) 1 1) [UInt8.ofNat op]) := hide (own_one w1 _ _ (unhide HX8) _ (Nat.le_refl _))
    have hlt := (unhide HW1).lt
    have hsz := (unhide HB1).size
    have HW2 := hide ((unhide HW1).below (unhide HA1))
    have HB2 : Hid (Below w.heap.size w (w1.alloc (.cells #[.int .u8 (op : Int)] 5))) := hide ((unhide HB1).trans ((unhide HA1).mono (unhide HB1).size))
    obtain ⟨x1, x2, x3⟩ := (unhide HW2).c
    have PC : Hid _ := hide (refPut_any (unhide HO1) (by simp) a (wA op) la (unhide ra).1 (unhide ra).2 (by simp))
    go_wp2_with fail
    with_reducible refine (unhide PC).mono ?_
    rintro e w3 ⟨v, rfl, hO3, hB3⟩
    have H3 : Hid (IAt w3 w.heap.size p op a b) := hide ((hB3.block _ hlt).trans (unhide HW2))
    have HB3 : Hid (Below w.heap.size w w3) := hide ((unhide HB2).trans (hB3.mono hsz))
    have hs3 : w1.heap.size ≤ w3.heap.size := by have := hB3.size; simp at this; omega
    clear PC hB3 HB2 HW2 x1 x2 x3
    obtain ⟨x1, x2, x3⟩ := (unhide H3).c
    have PC : Hid _ := hide (refPut_any hO3 hs3 b (wB op) (by omega) (unhide rb).1 (unhide rb).2 (by simp [beI_length]; omega))
    clear hO3
    go_wp2_with fail
    with_reducible refine (unhide PC).mono ?_
    rintro e w4 ⟨v', rfl, hO4, hB4⟩
    have HO4 : Hid (OwnB w4 w.heap.size v' (encL op a b)) := hide (by
      have := hO4.mono hsz
      rw [List.append_assoc] at this
      exact this)
    have HB4 : Hid (Below w.heap.size w w4) := hide ((unhide HB3).trans (hB4.mono hsz))
    clear PC hO4 hB4
    go_wp2
    go_ret2
    rw [unhide HE, unhide HL]
    exact ⟨_, rfl, unhide HO4, unhide HB4⟩
  · have HA1 : Hid (Below w1.heap.size w1 (w1.alloc (.cells #[.int .u8 (op : Int)] 5))) := hide ((Below.refl _ _).alloc (Nat.le_refl _) _)
    have HO1 : Hid (OwnB (w1.alloc (.cells #[.int .u8 (op : Int)] 5)) w1.heap.size (.slice (some ⟨w1.heap.size, 0, none⟩) 1 1) [UInt8.ofNat op]) := hide (own_one w1 _ _ (unhide HX8) _ (Nat.le_refl _))
    have hlt := (unhide HW1).lt
    have hsz := (unhide HB1).size
    have HW2 := hide ((unhide HW1).below (unhide HA1))
    have HB2 : Hid (Below w.heap.size w (w1.alloc (.cells #[.int .u8 (op : Int)] 5))) := hide ((unhide HB1).trans ((unhide HA1).mono (unhide HB1).size))
    obtain ⟨x1, x2, x3⟩ := (unhide HW2).c
    have PC : Hid _ := hide (refPut_any (unhide HO1) (by simp) a (wA op) la (unhide ra).1 (unhide ra).2 (by simp))
    go_wp2_with fail
    with_reducible refine (unhide PC).mono ?_
    rintro e w3 ⟨v, rfl, hO3, hB3⟩
    have H3 : Hid (IAt w3 w.heap.size p op a b) := hide ((hB3.block _ hlt).trans (unhide HW2))
    have HB3 : Hid (Below w.heap.size w w3) := hide ((unhide HB2).trans (hB3.mono hsz))
    have hs3 : w1.heap.size ≤ w3.heap.size := by have := hB3.size; simp at this; omega
    clear PC hB3 HB2 HW2 x1 x2 x3
    obtain ⟨x1, x2, x3⟩ := (unhide H3).c
    have PC : Hid _ := hide (refPut_any hO3 hs3 b (wB op) (by omega) (unhide rb).1 (unhide rb).2 (by simp [beI_length]; omega))
    clear hO3
    go_wp2_with fail
    with_reducible refine (unhide PC).mono ?_
    rintro e w4 ⟨v', rfl, hO4, hB4⟩
    have HO4 : Hid (OwnB w4 w.heap.size v' (encL op a b)) := hide (by
      have := hO4.mono hsz
      rw [List.append_assoc] at this
      exact this)
    have HB4 : Hid (Below w.heap.size w w4) := hide ((unhide HB3).trans (hB4.mono hsz))
    clear PC hO4 hB4
    go_wp2
    go_ret2
    rw [unhide HE, unhide HL]
    exact ⟨_, rfl, unhide HO4, unhide HB4⟩
end Go.Proofs.YtihkodfcgfnjoabDoor
