/-
  What provisoref04's take makes of an instruction's bytes is what Decode makes of them; they are in their spans but for a bool above 1. No Go in it.
  The contract of provisoref04.Decode: out of the bytes, and at their end. Conditions: lengths fit.
  The contract of provisoref04.Decode within the bytes: the same plain functions as of code.Decode. Conditions: lengths fit.
  The contracts of code.Decode and provisoref04.Decode at any place: the same plain answer. Conditions: the widths lie there, lengths fit.
-/
import Derived.Test.YthdgbdjagjagpaaGreatDoorIn3
import Derived.Test.YthdgbdjagjagpaaGreatDoorIn7
import Derived.Deep.RegionHeld
namespace Go.Proofs.YthdgbdjagjagpaaGreatDoor
open Go.RowKit
set_option maxRecDepth 20000

theorem tk_dA (op : Nat) (t : List UInt8) (h34 : op < 34) : tkI (wA op) (t.take (wA op)) = dA op t := by
  unfold dA
  by_cases h : op = 1
  · rw [if_pos h, (wA_which op h34).2.2 h]
    rfl
  · rw [if_neg h, tk_plain _ _ (fun e => h ((wA_which op h34).2.1 e))]
theorem tk_dB (op : Nat) (t : List UInt8) (h34 : op < 34) : tkI (wB op) ((t.drop (wA op)).take (wB op)) = dB op t := by
  unfold dB
  rw [tk_plain _ _ (by rcases wB_which op h34 with h | h <;> omega)]
theorem dec_in (op : Nat) (t : List UInt8) (h34 : op < 34) (hl : wA op + wB op ≤ t.length) : inD op (dA op t) (dB op t) = !(decide (op = 2) && decide (1 < dA op t)) := by
  rw [inD_fits op h34]
  have l1 : (t.take (wA op)).length = wA op := by rw [List.length_take]; omega
  have l2 : ((t.drop (wA op)).take (wB op)).length = wB op := by rw [List.length_take, List.length_drop]; omega
  have f1 : fitD (dA op t) (wA op) = true := by
    rw [← tk_dA op t h34]
    rcases (wA_which op h34).1 with h | h | h | h
    · rw [tk_plain _ _ (by omega)]; exact fit_be _ _ (by omega) l1
    · rw [tk_plain _ _ (by omega)]; exact fit_be _ _ (by omega) l1
    · rw [tk_plain _ _ (by omega)]; exact fit_be _ _ (by omega) l1
    · rw [h] at l1 ⊢
      exact fit_four _ l1
  have f2 : fitD (dB op t) (wB op) = true := by
    unfold dB
    exact fit_be _ _ (by rcases wB_which op h34 with h | h <;> omega) l2
  rw [f1, f2]
  rfl
set_option maxHeartbeats 1000000 in
theorem refDecode_out (ao : Option Addr) (c : Nat) (L : List UInt8) (at_ : Int) (w : World) (h : at_ < 0 ∨ (L.length : Int) < at_) :
    Calls Tryz.prog 70 #[.slice ao L.length c, .int .i64 at_] w fun e w' => e = .returned (.tuple #[.agg #[.int .i64 0, .int .u8 0, .int .i64 0, .int .i64 0], .int .i64 1]) ∧ Below w.heap.size w w' := by
  by_cases h0 : at_ < 0
  · have d0 : decide (at_ < 0) = true := decide_eq_true h0
    go_enter Tryz.func70, Tryz.ntmps70
    go_wp2
    go_returns
    exact ⟨rfl, by go_grown⟩
  · have d0 : decide (at_ < 0) = false := decide_eq_false h0
    have d1 : decide ((L.length : Int) < at_) = true := decide_eq_true (by omega)
    clear h h0
    go_enter Tryz.func70, Tryz.ntmps70
    go_wp2
    go_returns
    exact ⟨rfl, by go_grown⟩

theorem refDecode_end (ao : Option Addr) (c : Nat) (L : List UInt8) (w : World) :
    Calls Tryz.prog 70 #[.slice ao L.length c, .int .i64 (L.length : Int)] w fun e w' => e = .returned (.tuple #[.agg #[.int .i64 0, .int .u8 0, .int .i64 0, .int .i64 0], .int .i64 2]) ∧ Below w.heap.size w w' := by
  generalize L.length = k
  have d0 : decide ((k : Int) < 0) = false := decide_eq_false (by omega)
  have d1 : decide ((k : Int) < (k : Int)) = false := decide_eq_false (by omega)
  go_enter Tryz.func70, Tryz.ntmps70
  go_wp2
  go_returns
  exact ⟨rfl, by go_grown⟩
set_option maxHeartbeats 4000000 in
theorem refDecode_in (b off : Nat) (c : Nat) (L : List UInt8) (k : Nat) (w : World) (x : UInt8) (t : List UInt8) (hx : L.drop k = x :: t) (hb : BAt w (some ⟨b, off + k, none⟩) (x :: t)) (hl : L.length ≤ 140737488355328) (hc : L.length ≤ c) :
    Calls Tryz.prog 70 #[.slice (some ⟨b, off, none⟩) L.length c, .int .i64 (k : Int)] w fun e w' => e = .returned (.tuple #[.agg (dV k (x :: t)), .int .i64 (dE (x :: t))]) ∧ Below w.heap.size w w' := by
  have hlen : L.length - k = t.length + 1 := by have := congrArg List.length hx; simpa using this
  have HLn := hide hlen
  have d0 : decide ((k : Int) < 0) = false := decide_eq_false (by omega)
  have d1 : decide ((L.length : Int) < (k : Int)) = false := decide_eq_false (by omega)
  have d2 : ((k : Int) == (L.length : Int)) = false := beq_f (by omega)
  have i1 : (k : Int) < (L.length : Int) := by omega
  obtain ⟨b', off', e', hcell⟩ := hb.head (by simp)
  injection e' with e'
  injection e' with e1 e2
  subst e1 e2
  have c0 := hcell 0 (by simp)
  have hx0 : at8 (x :: t) 0 = (x.toNat : Int) := rfl
  rw [hx0] at c0
  have hop := x.toNat_lt
  generalize hopx : x.toNat = op at c0 hop
  have HOP := hide hopx
  have HBA0 := hide hb
  clear hx hlen hx0 hopx hcell hb
  have HB0 : Hid (Below w.heap.size w (w.alloc (.cells #[.int .i64 0, .int .u8 0, .int .i64 0, .int .i64 0] 72))) := hide ((Below.refl _ _).alloc (Nat.le_refl _) _)
  have hblt : b < w.heap.size := World.block_lt_of_cell? w _ c0
  have c0' : (w.alloc (.cells #[.int .i64 0, .int .u8 0, .int .i64 0, .int .i64 0] 72)).cell? ⟨b, off + k, none⟩ = some (.int .u8 (op : Int)) := ((unhide HB0).cell (p := ⟨b, off + k, none⟩) hblt).trans c0
  go_enter Tryz.func70, Tryz.ntmps70
  go_wp2_with fail
  with_reducible refine (refSize_any op _).mono ?_
  rintro e w1 ⟨rfl, rfl⟩
  by_cases h34 : op < 34
  rotate_left
  · have HE : Hid (dE (x :: t) = 40) := hide (by unfold dE; simp only [unhide HOP]; rw [if_neg h34])
    have HV : Hid (dV k (x :: t) = #[.int .i64 0, .int .u8 0, .int .i64 0, .int .i64 0]) := hide (by unfold dV; rw [unhide HE]; rfl)
    have hs : ((sizeD op : Int) == 0) = true := beq_t (by unfold sizeD; rw [if_neg h34]; rfl)
    clear h34
    go_wp2
    go_returns
    rw [unhide HE, unhide HV]
    exact ⟨rfl, by go_grown⟩
  have hs : ((sizeD op : Int) == 0) = false := beq_f (by unfold sizeD; rw [if_pos h34]; omega)
  have HSZ : Hid (sizeD op = 1 + wA op + wB op) := hide (by unfold sizeD; rw [if_pos h34])
  obtain ⟨N, HN⟩ : ∃ N, Hid (sizeD op = N) := ⟨_, hide rfl⟩
  rw [unhide HN] at hs ⊢
  by_cases hsh : L.length - k < N
  · have HE : Hid (dE (x :: t) = 2) := hide (by
      unfold dE; simp only [unhide HOP]; rw [if_pos h34, unhide HN, if_pos (by have := unhide HLn; simp; omega)])
    have HV : Hid (dV k (x :: t) = #[.int .i64 0, .int .u8 0, .int .i64 0, .int .i64 0]) := hide (by unfold dV; rw [unhide HE]; rfl)
    have hd : decide ((L.length : Int) - (k : Int) < (N : Int)) = true := decide_eq_true (by omega)
    clear hsh
    go_wp2
    go_returns
    rw [unhide HE, unhide HV]
    exact ⟨rfl, by go_grown⟩
  have hd : decide ((L.length : Int) - (k : Int) < (N : Int)) = false := decide_eq_false (by omega)
  go_wp2_with fail
  with_reducible refine (refWide_any op _ h34).mono ?_
  rintro e w1 ⟨rfl, rfl⟩
  have la := wA_le op h34
  have lb := wB_le op h34
  obtain ⟨A, HA⟩ : ∃ A, Hid (wA op = A) := ⟨_, hide rfl⟩
  obtain ⟨B, HBB⟩ : ∃ B, Hid (wB op = B) := ⟨_, hide rfl⟩
  rw [unhide HA] at la HSZ ⊢
  rw [unhide HBB] at lb HSZ ⊢
  have hNL : 1 + A + B ≤ L.length - k := by have := unhide HSZ; have := unhide HN; omega
  have j1 : (k : Int) + 1 ≤ (L.length : Int) := by omega
  have j2 : (k : Int) + 1 + (A : Int) ≤ (L.length : Int) := by omega
  go_wp2_with fail
  have HW0 : Hid (Below w.heap.size w ((w.alloc (.cells #[.int .i64 0, .int .u8 0, .int .i64 0, .int .i64 0] 72)).alloc (.cells #[.int .i64 0, .int .u8 0, .int .i64 0, .int .i64 0] 72))) := hide ((unhide HB0).trans (((Below.refl _ _).alloc (Nat.le_refl _) _).mono (by simp)))
  have HR0 : Hid (IAt ((w.alloc (.cells #[.int .i64 0, .int .u8 0, .int .i64 0, .int .i64 0] 72)).alloc (.cells #[.int .i64 0, .int .u8 0, .int .i64 0, .int .i64 0] 72)) w.heap.size 0 0 0 0) := hide (IAt.below (heap_alloc_new w _) ((Below.refl _ _).alloc (Nat.le_refl _) _))
  have HN0 : Hid (IAt ((w.alloc (.cells #[.int .i64 0, .int .u8 0, .int .i64 0, .int .i64 0] 72)).alloc (.cells #[.int .i64 0, .int .u8 0, .int .i64 0, .int .i64 0] 72)) (w.heap.size + 1) 0 0 0 0) := hide (by
    have h := heap_alloc_new (w.alloc (.cells #[.int .i64 0, .int .u8 0, .int .i64 0, .int .i64 0] 72)) (.cells #[.int .i64 0, .int .u8 0, .int .i64 0, .int .i64 0] 72)
    rw [World.size_alloc] at h
    exact h)
  have HBW : Hid (BAt ((w.alloc (.cells #[.int .i64 0, .int .u8 0, .int .i64 0, .int .i64 0] 72)).alloc (.cells #[.int .i64 0, .int .u8 0, .int .i64 0, .int .i64 0] 72)) (some ⟨b, off + k, none⟩) (x :: t)) := hide ((unhide HBA0).below' (unhide HW0))
  have hsz0 : w.heap.size + 2 = ((w.alloc (.cells #[.int .i64 0, .int .u8 0, .int .i64 0, .int .i64 0] 72)).alloc (.cells #[.int .i64 0, .int .u8 0, .int .i64 0, .int .i64 0] 72)).heap.size := by simp
  have HS0 := hide hsz0
  generalize ((w.alloc (.cells #[.int .i64 0, .int .u8 0, .int .i64 0, .int .i64 0] 72)).alloc (.cells #[.int .i64 0, .int .u8 0, .int .i64 0, .int .i64 0] 72)) = W0 at HW0 HR0 HN0 HBW HS0 ⊢
  clear hsz0
  have l1 : (t.take A).length = A := by have := unhide HLn; simp; omega
  have l2 : ((t.drop A).take B).length = B := by have := unhide HLn; simp; omega
  have BA1 : Hid (BAt W0 (some ⟨b, off + k + 1, none⟩) (t.take A)) := hide (BAt.part (unhide HBW) 1 A rfl)
  have BA2 : Hid (BAt W0 (some ⟨b, off + k + (1 + A), none⟩) ((t.drop A).take B)) := hide (BAt.part (unhide HBW) (1 + A) B (by rw [Nat.add_comm 1 A]; rfl))
  obtain ⟨P1, HP1⟩ : ∃ P1, Hid (P1 = if c = k + 1 then some ⟨b, off, none⟩ else some (⟨b, off + (k + 1), none⟩ : Addr)) := ⟨_, hide rfl⟩
  obtain ⟨P2, HP2⟩ : ∃ P2, Hid (P2 = if c = k + 1 + A then some ⟨b, off, none⟩ else some (⟨b, off + (k + 1 + A), none⟩ : Addr)) := ⟨_, hide rfl⟩
  have BP1 : Hid (BAt W0.drew P1 (t.take A)) := hide (by
    rw [unhide HP1]
    by_cases h : c = k + 1
    · have h0 : A = 0 := by omega
      rw [h0, List.take_zero]; exact BAt.nil _ _
    · rw [if_neg h]; exact unhide BA1)
  have BP2 : Hid (BAt W0.drew P2 ((t.drop A).take B)) := hide (by
    rw [unhide HP2]
    by_cases h : c = k + 1 + A
    · have h0 : B = 0 := by omega
      rw [h0, List.take_zero]; exact BAt.nil _ _
    · rw [if_neg h, show off + (k + 1 + A) = off + k + (1 + A) by omega]; exact unhide BA2)
  have HW1 : Hid (Below w.heap.size w W0.drew) := hide ((unhide HW0).trans ⟨rfl, rfl, rfl, Nat.le_refl _, fun _ _ => rfl⟩)
  have HR1 : Hid (IAt W0.drew w.heap.size 0 0 0 0) := hide (unhide HR0)
  have HN1 : Hid (IAt W0.drew (w.heap.size + 1) 0 0 0 0) := hide (unhide HN0)
  have hm1 : A ≤ L.length - (k + 1) := by omega
  have hm2 : B ≤ L.length - (k + 1 + A) := by omega
  clear HW0 HR0 HN0 HBW BA1 BA2 HB0 HBA0 HS0 c0' c0
  refine wp_region_held_drew (S := fun _ => True) (by kernel_rfl) trivial (fun hS => ?_)
  generalize W0.drew = W1 at HW1 HR1 HN1 BP1 BP2 ⊢
  clear W0
  have wr1 : IntKind.i64.wrap ((k : Int) + 1) = (k : Int) + 1 := by simp [IntKind.wrap, IntKind.bits, IntKind.signed]; omega
  have wr2 : IntKind.i64.wrap ((k : Int) + 1 + (A : Int)) = (k : Int) + 1 + (A : Int) := by simp [IntKind.wrap, IntKind.bits, IntKind.signed]; omega
  have j3 : ¬ (k : Int) + 1 < 0 := by omega
  have j4 : (0 : Int) ≤ (k : Int) + 1 + (A : Int) := by omega
  have j5 : ((k : Int) + 1 + (A : Int)).toNat = k + 1 + A := by omega
  refine wpAnyH_take (i := 0) (v := .int .i64 (k : Int)) rfl (by kernel_rfl) (by kernel_rfl) (by kernel_rfl) (fun _ _ _ h => h) (Or.inl ⟨by rfl, fun w _ => by go_simp⟩) hS ?_
  refine wpAnyH_take (i := 1) (v := .int .u8 (op : Int)) rfl (by kernel_rfl) (by kernel_rfl) (by kernel_rfl) (fun _ _ _ h => h) (Or.inl ⟨by rfl, fun w _ => by go_simp⟩) hS ?_
  refine wpAnyH_take (i := 2) (v := .slice (some ⟨b, off, none⟩) L.length c) rfl (by kernel_rfl) (by kernel_rfl) (by kernel_rfl) (fun _ _ _ h => h) (Or.inl ⟨by rfl, fun w _ => by go_simp⟩) hS ?_
  go_simp
  refine wpAnyH_take (i := 3) (v := .int .i64 (k : Int)) rfl (by kernel_rfl) (by kernel_rfl) (by kernel_rfl) (fun _ _ _ h => h) (Or.inl ⟨by rfl, fun w _ => by go_simp⟩) hS ?_
  refine wpAnyH_take (i := 4) (v := .int .i64 ((k : Int) + 1)) rfl (by kernel_rfl) (by kernel_rfl) (by kernel_rfl) (fun _ _ _ h => h) (Or.inl ⟨by rfl, fun w _ => by go_simp⟩) hS ?_
  refine wpAnyH_take (i := 5) (v := .slice P1 (L.length - (k + 1)) (c - (k + 1))) rfl (by kernel_rfl) (by kernel_rfl) (by kernel_rfl) (fun _ _ _ h => h) (Or.inl ⟨by rfl, fun w _ => by rw [unhide HP1]; go_simp⟩) hS ?_
  go_simp
  refine wpAnyH_take (i := 6) (v := .int .i64 (A : Int)) rfl (by kernel_rfl) (by kernel_rfl) (by kernel_rfl) (fun _ _ _ h => h) (Or.inl ⟨by rfl, fun w _ => by go_simp⟩) hS ?_
  refine wpAnyH_take (i := 8) (v := .slice (some ⟨b, off, none⟩) L.length c) rfl (by kernel_rfl) (by kernel_rfl) (by kernel_rfl) (fun _ _ _ h => h) (Or.inl ⟨by rfl, fun w _ => by go_simp⟩) hS ?_
  refine wpAnyH_take (i := 9) (v := .int .i64 (k : Int)) rfl (by kernel_rfl) (by kernel_rfl) (by kernel_rfl) (fun _ _ _ h => h) (Or.inl ⟨by rfl, fun w _ => by go_simp⟩) hS ?_
  go_simp
  refine wpAnyH_take (i := 10) (v := .int .i64 ((k : Int) + 1)) rfl (by kernel_rfl) (by kernel_rfl) (by kernel_rfl) (fun _ _ _ h => h) (Or.inl ⟨by rfl, fun w _ => by go_simp⟩) hS ?_
  refine wpAnyH_take (i := 11) (v := .int .i64 (A : Int)) rfl (by kernel_rfl) (by kernel_rfl) (by kernel_rfl) (fun _ _ _ h => h) (Or.inl ⟨by rfl, fun w _ => by go_simp⟩) hS ?_
  refine wpAnyH_take (i := 12) (v := .int .i64 ((k : Int) + 1 + (A : Int))) rfl (by kernel_rfl) (by kernel_rfl) (by kernel_rfl) (fun _ _ _ h => h) (Or.inl ⟨by rfl, fun w _ => by go_simp⟩) hS ?_
  go_simp
  refine wpAnyH_take (i := 13) (v := .slice P2 (L.length - (k + 1 + A)) (c - (k + 1 + A))) rfl (by kernel_rfl) (by kernel_rfl) (by kernel_rfl) (fun _ _ _ h => h) (Or.inl ⟨by rfl, fun w _ => by rw [unhide HP2]; go_simp⟩) hS ?_
  refine wpAnyH_take (i := 14) (v := .int .i64 (B : Int)) rfl (by kernel_rfl) (by kernel_rfl) (by kernel_rfl) (fun _ _ _ h => h) (Or.inl ⟨by rfl, fun w _ => by go_simp⟩) hS ?_
  go_simp
  have TA : Hid (tkI A (t.take A) = dA x.toNat t) := hide (by rw [← tk_dA x.toNat t (by rw [unhide HOP]; exact h34), unhide HOP, unhide HA])
  have TB : Hid (tkI B ((t.drop A).take B) = dB x.toNat t) := hide (by rw [← tk_dB x.toNat t (by rw [unhide HOP]; exact h34), unhide HOP, unhide HA, unhide HBB])
  have HIN : Hid (inD x.toNat (dA x.toNat t) (dB x.toNat t) = !(decide (op = 2) && decide (1 < dA x.toNat t))) := hide (by
    have h := dec_in x.toNat t (by rw [unhide HOP]; exact h34) (by rw [unhide HOP, unhide HA, unhide HBB]; have := unhide HLn; omega)
    rw [h, unhide HOP])
  have HDE : Hid (dE (x :: t) = if inD x.toNat (dA x.toNat t) (dB x.toNat t) then 0 else 5) := hide (by
    unfold dE; simp only []; rw [unhide HOP, if_pos h34, unhide HN, if_neg (by have := unhide HLn; simp; omega)])
  have HDV : Hid (dV k (x :: t) = if dE (x :: t) = 0 then #[.int .i64 (k : Int), .int .u8 (op : Int), .int .i64 (dA x.toNat t), .int .i64 (dB x.toNat t)] else #[.int .i64 0, .int .u8 0, .int .i64 0, .int .i64 0]) := hide (by
    unfold dV; simp only []; rw [unhide HOP])
  have T1 := hide (fun W h => refTake_any P1 (L.length - (k + 1)) (c - (k + 1)) A (t.take A) W h l1.symm hm1 (by omega))
  have T2 := hide (fun W h => refTake_any P2 (L.length - (k + 1 + A)) (c - (k + 1 + A)) B ((t.drop A).take B) W h l2.symm hm2 (by omega))
  rw [unhide TA] at T1
  rw [unhide TB] at T2
  generalize dA x.toNat t = va at HIN HDV HDE T1
  generalize dB x.toNat t = vb at HIN HDV HDE T2
  rw [unhide HIN] at HDE
  clear TA TB HIN
  refine wpAnyH_ready (rs := [7, 17]) (by kernel_rfl) (by simp) ?_
  refine (AllReadyH.cons rfl (fun K hK => ?_) (AllReadyH.cons rfl (fun K hK => ?_) AllReadyH.nil))
  · go_simp
    go_wp2_with (go_at_call 96; refine (unhide T1 _ (unhide BP1)).mono ?_; rintro e V1 ⟨rfl, q, rfl⟩)
    have HW2 : Hid (Below w.heap.size w (W1.drewN q)) := hide (belowD (unhide HW1) _)
    have HR3 : Hid (IAt (W1.drewN q) w.heap.size 0 0 0 0) := hide (unhide HR1)
    have HN4 : Hid (IAt (W1.drewN q) (w.heap.size + 1) 0 0 0 0) := hide (unhide HN1)
    have BP5 : Hid (BAt (W1.drewN q) P2 ((t.drop A).take B)) := hide (unhide BP2)
    refine hK.out _ _ trivial (fun hS => ?_)
    clear hK K
    generalize (W1.drewN q) = V1 at HW2 HR3 HN4 BP5 ⊢
    clear HW1 HR1 HN1 BP2 BP1 q
    refine wpAnyH_ready (rs := [15, 17]) (by kernel_rfl) (by simp) ?_
    refine (AllReadyH.cons rfl (fun K hK => ?_) (AllReadyH.cons rfl (fun K hK => ?_) AllReadyH.nil))
    · go_simp
      go_wp2_with (go_at_call 96; refine (unhide T2 _ (unhide BP5)).mono ?_; rintro e V6 ⟨rfl, q, rfl⟩)
      have HW7 : Hid (Below w.heap.size w (V1.drewN q)) := hide (belowD (unhide HW2) _)
      have HR8 : Hid (IAt (V1.drewN q) w.heap.size 0 0 0 0) := hide (unhide HR3)
      have HN9 : Hid (IAt (V1.drewN q) (w.heap.size + 1) 0 0 0 0) := hide (unhide HN4)
      refine hK.out _ _ trivial (fun hS => ?_)
      clear hK K
      generalize (V1.drewN q) = V6 at HW7 HR8 HN9 ⊢
      clear HW2 HR3 HN4 BP5 q
      refine wpAnyH_take (i := 16) (v := .agg #[.int .i64 (k : Int), .int .u8 (op : Int), .int .i64 va, .int .i64 vb]) rfl (by kernel_rfl) (by kernel_rfl) (by kernel_rfl) (fun _ _ _ h => h) (Or.inl ⟨by rfl, fun w _ => by go_simp⟩) hS ?_
      refine wpAnyH_ready (rs := [17]) (by kernel_rfl) (by simp) ?_
      refine (AllReadyH.cons rfl (fun K hK => ?_) AllReadyH.nil)
      go_simp
      have hal : Below V6.heap.size V6 (V6.alloc (.cells #[.int .i64 0, .int .u8 0, .int .i64 0, .int .i64 0] 72)) := (Below.refl _ _).alloc (Nat.le_refl _) _
      have HW10 : Hid (Below w.heap.size w (V6.alloc (.cells #[.int .i64 0, .int .u8 0, .int .i64 0, .int .i64 0] 72))) := hide ((unhide HW7).trans (hal.mono (unhide HW7).size))
      have HR11 : Hid (IAt (V6.alloc (.cells #[.int .i64 0, .int .u8 0, .int .i64 0, .int .i64 0] 72)) w.heap.size 0 0 0 0) := hide ((unhide HR8).below hal)
      have HN12 : Hid (IAt (V6.alloc (.cells #[.int .i64 0, .int .u8 0, .int .i64 0, .int .i64 0] 72)) (w.heap.size + 1) 0 0 0 0) := hide ((unhide HN9).below hal)
      have HX13 : Hid (IAt (V6.alloc (.cells #[.int .i64 0, .int .u8 0, .int .i64 0, .int .i64 0] 72)) V6.heap.size 0 0 0 0) := hide (heap_alloc_new V6 _)
      have hGn : w.heap.size + 2 ≤ V6.heap.size := (unhide HN9).lt
      refine hK.out _ _ trivial (fun hS => ?_)
      clear hK K hal HW7 HR8 HN9
      generalize (V6.alloc (.cells #[.int .i64 0, .int .u8 0, .int .i64 0, .int .i64 0] 72)) = V14 at HW10 HR11 HN12 HX13 ⊢
      generalize V6.heap.size = G at HX13 hGn ⊢
      clear V6
      refine wpAnyH_ready (rs := [18]) (by kernel_rfl) (by simp) ?_
      refine (AllReadyH.cons rfl (fun K hK => ?_) AllReadyH.nil)
      rw [if_pos (by rfl)]
      refine wp_store_row 72 _ _ rfl G #[.int .i64 (k : Int), .int .u8 (op : Int), .int .i64 va, .int .i64 vb] rfl rfl 72 #[.int .i64 0, .int .u8 0, .int .i64 0, .int .i64 0] (unhide HX13) sizeIn rfl (by simp; exact ⟨rfl, rfl, rfl, rfl⟩) ?_
      refine hK.out _ _ trivial (fun hS => ?_)
      clear hK K
      have HF1 : Hid (Below w.heap.size w (V14.setRow G #[.int .i64 (k : Int), .int .u8 (op : Int), .int .i64 va, .int .i64 vb])) := hide (below_setRowI (unhide HW10) (by omega) _)
      have HF2 : Hid (IAt (V14.setRow G #[.int .i64 (k : Int), .int .u8 (op : Int), .int .i64 va, .int .i64 vb]) w.heap.size 0 0 0 0) := hide ((unhide HR11).rowOther _ (by omega))
      have HF3 : Hid (IAt (V14.setRow G #[.int .i64 (k : Int), .int .u8 (op : Int), .int .i64 va, .int .i64 vb]) (w.heap.size + 1) 0 0 0 0) := hide ((unhide HN12).rowOther _ (by omega))
      have HF4 : Hid (IAt (V14.setRow G #[.int .i64 (k : Int), .int .u8 (op : Int), .int .i64 va, .int .i64 vb]) G (k : Int) op va vb) := hide ((unhide HX13).row _ _ _ _)
      generalize (V14.setRow G #[.int .i64 (k : Int), .int .u8 (op : Int), .int .i64 va, .int .i64 vb]) = U at HF1 HF2 HF3 HF4 ⊢
      clear HW10 HR11 HN12 HX13 V14
      refine wpAnyH_done (by kernel_rfl) ?_ _
      clear hS hGn
      obtain ⟨r1, r2, r3⟩ := (unhide HF2).c
      have r0 := (unhide HF2).c0
      have f0 := (unhide HF2).f 0
      have f1 := (unhide HF2).f 1
      have f2 := (unhide HF2).f 2
      have f3 := (unhide HF2).f 3
      obtain ⟨n1, n2, n3⟩ := (unhide HF3).c
      have n0 := (unhide HF3).c0
      obtain ⟨s1, s2, s3⟩ := (unhide HF4).c
      have s0 := (unhide HF4).c0
      by_cases hbad : op = 2 ∧ 1 < va
      · have HE : Hid (dE (x :: t) = 5) := hide (by rw [unhide HDE]; simp [hbad.1, hbad.2])
        have HV : Hid (dV k (x :: t) = #[.int .i64 0, .int .u8 0, .int .i64 0, .int .i64 0]) := hide (by rw [unhide HDV, unhide HE]; rfl)
        have b1 : (((op : Nat) : Int) == 2) = true := beq_t (by omega)
        have b2 : decide ((1 : Int) < va) = true := decide_eq_true hbad.2
        clear hbad
        go_wp2
        refine bodyPost_ret (v := .tuple #[.agg #[.int .i64 0, .int .u8 ((0 : Nat) : Int), .int .i64 0, .int .i64 0], .int .i64 5]) (results_in2 rfl _ _ w.heap.size 0 0 0 0 5 rfl rfl (unhide HF2).zero) rfl ?_
        exact ⟨by rw [unhide HE, unhide HV]; rfl, below_chain (unhide HF1) (Nat.le_refl _) _ _ _ _⟩
      · have HE : Hid (dE (x :: t) = 0) := hide (by
          rw [unhide HDE]
          by_cases h2 : op = 2
          · have h3 : ¬ 1 < va := fun h => hbad ⟨h2, h⟩
            simp [h3]
          · simp [h2])
        have HV : Hid (dV k (x :: t) = #[.int .i64 (k : Int), .int .u8 (op : Int), .int .i64 va, .int .i64 vb]) := hide (by rw [unhide HDV, unhide HE]; rfl)
        by_cases h2 : op = 2
        · have b1 : (((op : Nat) : Int) == 2) = true := beq_t (by omega)
          have b2 : decide ((1 : Int) < va) = false := decide_eq_false (fun h => hbad ⟨h2, h⟩)
          clear hbad h2
          go_wp2
          refine bodyPost_ret (v := .tuple #[.agg #[.int .i64 (k : Int), .int .u8 (op : Int), .int .i64 va, .int .i64 vb], .int .i64 0]) (results_in2 rfl _ _ w.heap.size (k : Int) op va vb 0 rfl rfl ((unhide HF2).chain _ _ _ _)) rfl ?_
          exact ⟨by rw [unhide HE, unhide HV], below_chain (unhide HF1) (Nat.le_refl _) _ _ _ _⟩
        · have b1 : (((op : Nat) : Int) == 2) = false := beq_f (by omega)
          clear hbad h2
          go_wp2
          refine bodyPost_ret (v := .tuple #[.agg #[.int .i64 (k : Int), .int .u8 (op : Int), .int .i64 va, .int .i64 vb], .int .i64 0]) (results_in2 rfl _ _ w.heap.size (k : Int) op va vb 0 rfl rfl ((unhide HF2).chain _ _ _ _)) rfl ?_
          exact ⟨by rw [unhide HE, unhide HV], below_chain (unhide HF1) (Nat.le_refl _) _ _ _ _⟩
    · go_simp
      have hal : Below V1.heap.size V1 (V1.alloc (.cells #[.int .i64 0, .int .u8 0, .int .i64 0, .int .i64 0] 72)) := (Below.refl _ _).alloc (Nat.le_refl _) _
      have HW15 : Hid (Below w.heap.size w (V1.alloc (.cells #[.int .i64 0, .int .u8 0, .int .i64 0, .int .i64 0] 72))) := hide ((unhide HW2).trans (hal.mono (unhide HW2).size))
      have HR16 : Hid (IAt (V1.alloc (.cells #[.int .i64 0, .int .u8 0, .int .i64 0, .int .i64 0] 72)) w.heap.size 0 0 0 0) := hide ((unhide HR3).below hal)
      have HN17 : Hid (IAt (V1.alloc (.cells #[.int .i64 0, .int .u8 0, .int .i64 0, .int .i64 0] 72)) (w.heap.size + 1) 0 0 0 0) := hide ((unhide HN4).below hal)
      have BP18 : Hid (BAt (V1.alloc (.cells #[.int .i64 0, .int .u8 0, .int .i64 0, .int .i64 0] 72)) P2 ((t.drop A).take B)) := hide ((unhide BP5).below' hal)
      have HX19 : Hid (IAt (V1.alloc (.cells #[.int .i64 0, .int .u8 0, .int .i64 0, .int .i64 0] 72)) V1.heap.size 0 0 0 0) := hide (heap_alloc_new V1 _)
      have hGn : w.heap.size + 2 ≤ V1.heap.size := (unhide HN4).lt
      refine hK.out _ _ trivial (fun hS => ?_)
      clear hK K hal HW2 HR3 HN4 BP5
      generalize (V1.alloc (.cells #[.int .i64 0, .int .u8 0, .int .i64 0, .int .i64 0] 72)) = V20 at HW15 HR16 HN17 BP18 HX19 ⊢
      generalize V1.heap.size = G at HX19 hGn ⊢
      clear V1
      refine wpAnyH_ready (rs := [15]) (by kernel_rfl) (by simp) ?_
      refine (AllReadyH.cons rfl (fun K hK => ?_) AllReadyH.nil)
      go_simp
      go_wp2_with (go_at_call 96; refine (unhide T2 _ (unhide BP18)).mono ?_; rintro e V21 ⟨rfl, q, rfl⟩)
      have HW22 : Hid (Below w.heap.size w (V20.drewN q)) := hide (belowD (unhide HW15) _)
      have HR23 : Hid (IAt (V20.drewN q) w.heap.size 0 0 0 0) := hide (unhide HR16)
      have HN24 : Hid (IAt (V20.drewN q) (w.heap.size + 1) 0 0 0 0) := hide (unhide HN17)
      have HX25 : Hid (IAt (V20.drewN q) G 0 0 0 0) := hide (unhide HX19)
      refine hK.out _ _ trivial (fun hS => ?_)
      clear hK K
      generalize (V20.drewN q) = V21 at HW22 HR23 HN24 HX25 ⊢
      clear HW15 HR16 HN17 BP18 HX19 q
      refine wpAnyH_take (i := 16) (v := .agg #[.int .i64 (k : Int), .int .u8 (op : Int), .int .i64 va, .int .i64 vb]) rfl (by kernel_rfl) (by kernel_rfl) (by kernel_rfl) (fun _ _ _ h => h) (Or.inl ⟨by rfl, fun w _ => by go_simp⟩) hS ?_
      refine wpAnyH_ready (rs := [18]) (by kernel_rfl) (by simp) ?_
      refine (AllReadyH.cons rfl (fun K hK => ?_) AllReadyH.nil)
      rw [if_pos (by rfl)]
      refine wp_store_row 72 _ _ rfl G #[.int .i64 (k : Int), .int .u8 (op : Int), .int .i64 va, .int .i64 vb] rfl rfl 72 #[.int .i64 0, .int .u8 0, .int .i64 0, .int .i64 0] (unhide HX25) sizeIn rfl (by simp; exact ⟨rfl, rfl, rfl, rfl⟩) ?_
      refine hK.out _ _ trivial (fun hS => ?_)
      clear hK K
      have HF1 : Hid (Below w.heap.size w (V21.setRow G #[.int .i64 (k : Int), .int .u8 (op : Int), .int .i64 va, .int .i64 vb])) := hide (below_setRowI (unhide HW22) (by omega) _)
      have HF2 : Hid (IAt (V21.setRow G #[.int .i64 (k : Int), .int .u8 (op : Int), .int .i64 va, .int .i64 vb]) w.heap.size 0 0 0 0) := hide ((unhide HR23).rowOther _ (by omega))
      have HF3 : Hid (IAt (V21.setRow G #[.int .i64 (k : Int), .int .u8 (op : Int), .int .i64 va, .int .i64 vb]) (w.heap.size + 1) 0 0 0 0) := hide ((unhide HN24).rowOther _ (by omega))
      have HF4 : Hid (IAt (V21.setRow G #[.int .i64 (k : Int), .int .u8 (op : Int), .int .i64 va, .int .i64 vb]) G (k : Int) op va vb) := hide ((unhide HX25).row _ _ _ _)
      generalize (V21.setRow G #[.int .i64 (k : Int), .int .u8 (op : Int), .int .i64 va, .int .i64 vb]) = U at HF1 HF2 HF3 HF4 ⊢
      clear HW22 HR23 HN24 HX25 V21
      refine wpAnyH_done (by kernel_rfl) ?_ _
      clear hS hGn
      obtain ⟨r1, r2, r3⟩ := (unhide HF2).c
      have r0 := (unhide HF2).c0
      have f0 := (unhide HF2).f 0
      have f1 := (unhide HF2).f 1
      have f2 := (unhide HF2).f 2
      have f3 := (unhide HF2).f 3
      obtain ⟨n1, n2, n3⟩ := (unhide HF3).c
      have n0 := (unhide HF3).c0
      obtain ⟨s1, s2, s3⟩ := (unhide HF4).c
      have s0 := (unhide HF4).c0
      by_cases hbad : op = 2 ∧ 1 < va
      · have HE : Hid (dE (x :: t) = 5) := hide (by rw [unhide HDE]; simp [hbad.1, hbad.2])
        have HV : Hid (dV k (x :: t) = #[.int .i64 0, .int .u8 0, .int .i64 0, .int .i64 0]) := hide (by rw [unhide HDV, unhide HE]; rfl)
        have b1 : (((op : Nat) : Int) == 2) = true := beq_t (by omega)
        have b2 : decide ((1 : Int) < va) = true := decide_eq_true hbad.2
        clear hbad
        go_wp2
        refine bodyPost_ret (v := .tuple #[.agg #[.int .i64 0, .int .u8 ((0 : Nat) : Int), .int .i64 0, .int .i64 0], .int .i64 5]) (results_in2 rfl _ _ w.heap.size 0 0 0 0 5 rfl rfl (unhide HF2).zero) rfl ?_
        exact ⟨by rw [unhide HE, unhide HV]; rfl, below_chain (unhide HF1) (Nat.le_refl _) _ _ _ _⟩
      · have HE : Hid (dE (x :: t) = 0) := hide (by
          rw [unhide HDE]
          by_cases h2 : op = 2
          · have h3 : ¬ 1 < va := fun h => hbad ⟨h2, h⟩
            simp [h3]
          · simp [h2])
        have HV : Hid (dV k (x :: t) = #[.int .i64 (k : Int), .int .u8 (op : Int), .int .i64 va, .int .i64 vb]) := hide (by rw [unhide HDV, unhide HE]; rfl)
        by_cases h2 : op = 2
        · have b1 : (((op : Nat) : Int) == 2) = true := beq_t (by omega)
          have b2 : decide ((1 : Int) < va) = false := decide_eq_false (fun h => hbad ⟨h2, h⟩)
          clear hbad h2
          go_wp2
          refine bodyPost_ret (v := .tuple #[.agg #[.int .i64 (k : Int), .int .u8 (op : Int), .int .i64 va, .int .i64 vb], .int .i64 0]) (results_in2 rfl _ _ w.heap.size (k : Int) op va vb 0 rfl rfl ((unhide HF2).chain _ _ _ _)) rfl ?_
          exact ⟨by rw [unhide HE, unhide HV], below_chain (unhide HF1) (Nat.le_refl _) _ _ _ _⟩
        · have b1 : (((op : Nat) : Int) == 2) = false := beq_f (by omega)
          clear hbad h2
          go_wp2
          refine bodyPost_ret (v := .tuple #[.agg #[.int .i64 (k : Int), .int .u8 (op : Int), .int .i64 va, .int .i64 vb], .int .i64 0]) (results_in2 rfl _ _ w.heap.size (k : Int) op va vb 0 rfl rfl ((unhide HF2).chain _ _ _ _)) rfl ?_
          exact ⟨by rw [unhide HE, unhide HV], below_chain (unhide HF1) (Nat.le_refl _) _ _ _ _⟩
  · go_simp
    have hal : Below W1.heap.size W1 (W1.alloc (.cells #[.int .i64 0, .int .u8 0, .int .i64 0, .int .i64 0] 72)) := (Below.refl _ _).alloc (Nat.le_refl _) _
    have HW26 : Hid (Below w.heap.size w (W1.alloc (.cells #[.int .i64 0, .int .u8 0, .int .i64 0, .int .i64 0] 72))) := hide ((unhide HW1).trans (hal.mono (unhide HW1).size))
    have HR27 : Hid (IAt (W1.alloc (.cells #[.int .i64 0, .int .u8 0, .int .i64 0, .int .i64 0] 72)) w.heap.size 0 0 0 0) := hide ((unhide HR1).below hal)
    have HN28 : Hid (IAt (W1.alloc (.cells #[.int .i64 0, .int .u8 0, .int .i64 0, .int .i64 0] 72)) (w.heap.size + 1) 0 0 0 0) := hide ((unhide HN1).below hal)
    have BP29 : Hid (BAt (W1.alloc (.cells #[.int .i64 0, .int .u8 0, .int .i64 0, .int .i64 0] 72)) P1 (t.take A)) := hide ((unhide BP1).below' hal)
    have BP30 : Hid (BAt (W1.alloc (.cells #[.int .i64 0, .int .u8 0, .int .i64 0, .int .i64 0] 72)) P2 ((t.drop A).take B)) := hide ((unhide BP2).below' hal)
    have HX31 : Hid (IAt (W1.alloc (.cells #[.int .i64 0, .int .u8 0, .int .i64 0, .int .i64 0] 72)) W1.heap.size 0 0 0 0) := hide (heap_alloc_new W1 _)
    have hGn : w.heap.size + 2 ≤ W1.heap.size := (unhide HN1).lt
    refine hK.out _ _ trivial (fun hS => ?_)
    clear hK K hal HW1 HR1 HN1 BP1 BP2
    generalize (W1.alloc (.cells #[.int .i64 0, .int .u8 0, .int .i64 0, .int .i64 0] 72)) = V32 at HW26 HR27 HN28 BP29 BP30 HX31 ⊢
    generalize W1.heap.size = G at HX31 hGn ⊢
    clear W1
    refine wpAnyH_ready (rs := [7]) (by kernel_rfl) (by simp) ?_
    refine (AllReadyH.cons rfl (fun K hK => ?_) AllReadyH.nil)
    go_simp
    go_wp2_with (go_at_call 96; refine (unhide T1 _ (unhide BP29)).mono ?_; rintro e V33 ⟨rfl, q, rfl⟩)
    have HW34 : Hid (Below w.heap.size w (V32.drewN q)) := hide (belowD (unhide HW26) _)
    have HR35 : Hid (IAt (V32.drewN q) w.heap.size 0 0 0 0) := hide (unhide HR27)
    have HN36 : Hid (IAt (V32.drewN q) (w.heap.size + 1) 0 0 0 0) := hide (unhide HN28)
    have BP37 : Hid (BAt (V32.drewN q) P2 ((t.drop A).take B)) := hide (unhide BP30)
    have HX38 : Hid (IAt (V32.drewN q) G 0 0 0 0) := hide (unhide HX31)
    refine hK.out _ _ trivial (fun hS => ?_)
    clear hK K
    generalize (V32.drewN q) = V33 at HW34 HR35 HN36 BP37 HX38 ⊢
    clear HW26 HR27 HN28 BP30 HX31 BP29 q
    refine wpAnyH_ready (rs := [15]) (by kernel_rfl) (by simp) ?_
    refine (AllReadyH.cons rfl (fun K hK => ?_) AllReadyH.nil)
    go_simp
    go_wp2_with (go_at_call 96; refine (unhide T2 _ (unhide BP37)).mono ?_; rintro e V39 ⟨rfl, q, rfl⟩)
    have HW40 : Hid (Below w.heap.size w (V33.drewN q)) := hide (belowD (unhide HW34) _)
    have HR41 : Hid (IAt (V33.drewN q) w.heap.size 0 0 0 0) := hide (unhide HR35)
    have HN42 : Hid (IAt (V33.drewN q) (w.heap.size + 1) 0 0 0 0) := hide (unhide HN36)
    have HX43 : Hid (IAt (V33.drewN q) G 0 0 0 0) := hide (unhide HX38)
    refine hK.out _ _ trivial (fun hS => ?_)
    clear hK K
    generalize (V33.drewN q) = V39 at HW40 HR41 HN42 HX43 ⊢
    clear HW34 HR35 HN36 BP37 HX38 q
    refine wpAnyH_take (i := 16) (v := .agg #[.int .i64 (k : Int), .int .u8 (op : Int), .int .i64 va, .int .i64 vb]) rfl (by kernel_rfl) (by kernel_rfl) (by kernel_rfl) (fun _ _ _ h => h) (Or.inl ⟨by rfl, fun w _ => by go_simp⟩) hS ?_
    refine wpAnyH_ready (rs := [18]) (by kernel_rfl) (by simp) ?_
    refine (AllReadyH.cons rfl (fun K hK => ?_) AllReadyH.nil)
    rw [if_pos (by rfl)]
    refine wp_store_row 72 _ _ rfl G #[.int .i64 (k : Int), .int .u8 (op : Int), .int .i64 va, .int .i64 vb] rfl rfl 72 #[.int .i64 0, .int .u8 0, .int .i64 0, .int .i64 0] (unhide HX43) sizeIn rfl (by simp; exact ⟨rfl, rfl, rfl, rfl⟩) ?_
    refine hK.out _ _ trivial (fun hS => ?_)
    clear hK K
    have HF1 : Hid (Below w.heap.size w (V39.setRow G #[.int .i64 (k : Int), .int .u8 (op : Int), .int .i64 va, .int .i64 vb])) := hide (below_setRowI (unhide HW40) (by omega) _)
    have HF2 : Hid (IAt (V39.setRow G #[.int .i64 (k : Int), .int .u8 (op : Int), .int .i64 va, .int .i64 vb]) w.heap.size 0 0 0 0) := hide ((unhide HR41).rowOther _ (by omega))
    have HF3 : Hid (IAt (V39.setRow G #[.int .i64 (k : Int), .int .u8 (op : Int), .int .i64 va, .int .i64 vb]) (w.heap.size + 1) 0 0 0 0) := hide ((unhide HN42).rowOther _ (by omega))
    have HF4 : Hid (IAt (V39.setRow G #[.int .i64 (k : Int), .int .u8 (op : Int), .int .i64 va, .int .i64 vb]) G (k : Int) op va vb) := hide ((unhide HX43).row _ _ _ _)
    generalize (V39.setRow G #[.int .i64 (k : Int), .int .u8 (op : Int), .int .i64 va, .int .i64 vb]) = U at HF1 HF2 HF3 HF4 ⊢
    clear HW40 HR41 HN42 HX43 V39
    refine wpAnyH_done (by kernel_rfl) ?_ _
    clear hS hGn
    obtain ⟨r1, r2, r3⟩ := (unhide HF2).c
    have r0 := (unhide HF2).c0
    have f0 := (unhide HF2).f 0
    have f1 := (unhide HF2).f 1
    have f2 := (unhide HF2).f 2
    have f3 := (unhide HF2).f 3
    obtain ⟨n1, n2, n3⟩ := (unhide HF3).c
    have n0 := (unhide HF3).c0
    obtain ⟨s1, s2, s3⟩ := (unhide HF4).c
    have s0 := (unhide HF4).c0
    by_cases hbad : op = 2 ∧ 1 < va
    · have HE : Hid (dE (x :: t) = 5) := hide (by rw [unhide HDE]; simp [hbad.1, hbad.2])
      have HV : Hid (dV k (x :: t) = #[.int .i64 0, .int .u8 0, .int .i64 0, .int .i64 0]) := hide (by rw [unhide HDV, unhide HE]; rfl)
      have b1 : (((op : Nat) : Int) == 2) = true := beq_t (by omega)
      have b2 : decide ((1 : Int) < va) = true := decide_eq_true hbad.2
      clear hbad
      go_wp2
      refine bodyPost_ret (v := .tuple #[.agg #[.int .i64 0, .int .u8 ((0 : Nat) : Int), .int .i64 0, .int .i64 0], .int .i64 5]) (results_in2 rfl _ _ w.heap.size 0 0 0 0 5 rfl rfl (unhide HF2).zero) rfl ?_
      exact ⟨by rw [unhide HE, unhide HV]; rfl, below_chain (unhide HF1) (Nat.le_refl _) _ _ _ _⟩
    · have HE : Hid (dE (x :: t) = 0) := hide (by
        rw [unhide HDE]
        by_cases h2 : op = 2
        · have h3 : ¬ 1 < va := fun h => hbad ⟨h2, h⟩
          simp [h3]
        · simp [h2])
      have HV : Hid (dV k (x :: t) = #[.int .i64 (k : Int), .int .u8 (op : Int), .int .i64 va, .int .i64 vb]) := hide (by rw [unhide HDV, unhide HE]; rfl)
      by_cases h2 : op = 2
      · have b1 : (((op : Nat) : Int) == 2) = true := beq_t (by omega)
        have b2 : decide ((1 : Int) < va) = false := decide_eq_false (fun h => hbad ⟨h2, h⟩)
        clear hbad h2
        go_wp2
        refine bodyPost_ret (v := .tuple #[.agg #[.int .i64 (k : Int), .int .u8 (op : Int), .int .i64 va, .int .i64 vb], .int .i64 0]) (results_in2 rfl _ _ w.heap.size (k : Int) op va vb 0 rfl rfl ((unhide HF2).chain _ _ _ _)) rfl ?_
        exact ⟨by rw [unhide HE, unhide HV], below_chain (unhide HF1) (Nat.le_refl _) _ _ _ _⟩
      · have b1 : (((op : Nat) : Int) == 2) = false := beq_f (by omega)
        clear hbad h2
        go_wp2
        refine bodyPost_ret (v := .tuple #[.agg #[.int .i64 (k : Int), .int .u8 (op : Int), .int .i64 va, .int .i64 vb], .int .i64 0]) (results_in2 rfl _ _ w.heap.size (k : Int) op va vb 0 rfl rfl ((unhide HF2).chain _ _ _ _)) rfl ?_
        exact ⟨by rw [unhide HE, unhide HV], below_chain (unhide HF1) (Nat.le_refl _) _ _ _ _⟩
/-- Decode's error and its instruction, at any place. -/
def dcE (L : List UInt8) (p : Int) : Int := if p < 0 ∨ (L.length : Int) < p then 1 else dE (L.drop p.toNat)
def dcV (L : List UInt8) (p : Int) : Array Value := if p < 0 ∨ (L.length : Int) < p then #[.int .i64 0, .int .u8 0, .int .i64 0, .int .i64 0] else dV p (L.drop p.toNat)
theorem dV_shape (p : Int) (l : List UInt8) : ∃ (q : Int) (op : Nat) (a b : Int), op < 256 ∧ dV p l = #[.int .i64 q, .int .u8 (op : Int), .int .i64 a, .int .i64 b] := by
  unfold dV
  cases l with
  | nil => exact ⟨0, 0, 0, 0, by omega, rfl⟩
  | cons x t =>
    simp only []
    split
    · exact ⟨p, x.toNat, _, _, x.toNat_lt, rfl⟩
    · exact ⟨0, 0, 0, 0, by omega, rfl⟩
theorem dcV_shape (L : List UInt8) (p : Int) : ∃ (q : Int) (op : Nat) (a b : Int), op < 256 ∧ dcV L p = #[.int .i64 q, .int .u8 (op : Int), .int .i64 a, .int .i64 b] := by
  unfold dcV
  split
  · exact ⟨0, 0, 0, 0, by omega, rfl⟩
  · exact dV_shape _ _
theorem BAt.dropAt {w : World} {b off : Nat} {L : List UInt8} (h : BAt w (some ⟨b, off, none⟩) L) (k : Nat) : BAt w (some ⟨b, off + k, none⟩) (L.drop k) := by
  intro i hi
  rw [List.length_drop] at hi
  obtain ⟨b', off', e, hc⟩ := h (k + i) (by omega)
  injection e with e
  injection e with e1 e2
  subst e1 e2
  refine ⟨b, off + k, rfl, ?_⟩
  rw [show off + k + i = off + (k + i) by omega, hc]
  unfold at8
  rw [List.getD_eq_getElem?_getD, List.getD_eq_getElem?_getD, List.getElem?_drop]

theorem Decode_any (ao : Option Addr) (c : Nat) (L : List UInt8) (p : Int) (w : World) (hb : BAt w ao L) (hW : WidAt w) (hl : L.length ≤ 140737488355328) (hc : L.length ≤ c) :
    Calls Tryz.prog 62 #[.slice ao L.length c, .int .i64 p] w fun e w' => e = .returned (.tuple #[.agg (dcV L p), .int .i64 (dcE L p)]) ∧ Below w.heap.size w w' := by
  by_cases h : p < 0 ∨ (L.length : Int) < p
  · have e1 : dcE L p = 1 := by unfold dcE; rw [if_pos h]
    have e2 : dcV L p = #[.int .i64 0, .int .u8 0, .int .i64 0, .int .i64 0] := by unfold dcV; rw [if_pos h]
    rw [e1, e2]
    exact Decode_out ao c L p w h
  obtain ⟨k, rfl⟩ : ∃ k : Nat, p = (k : Int) := ⟨p.toNat, by omega⟩
  have e1 : dcE L (k : Int) = dE (L.drop k) := by unfold dcE; rw [if_neg h]; simp
  have e2 : dcV L (k : Int) = dV (k : Int) (L.drop k) := by unfold dcV; rw [if_neg h]; simp
  rw [e1, e2]
  by_cases hk : k = L.length
  · subst hk
    rw [List.drop_length]
    exact Decode_end ao c L w hl
  · obtain ⟨b, off, rfl, _⟩ := hb.head (by omega)
    have hd := hb.dropAt k
    cases hx : L.drop k with
    | nil => exact absurd (List.drop_eq_nil_iff.1 hx) (by omega)
    | cons x t =>
      rw [hx] at hd
      exact Decode_in b off c L k w x t hx hd hW hl hc

theorem refDecode_any (ao : Option Addr) (c : Nat) (L : List UInt8) (p : Int) (w : World) (hb : BAt w ao L) (hl : L.length ≤ 140737488355328) (hc : L.length ≤ c) :
    Calls Tryz.prog 70 #[.slice ao L.length c, .int .i64 p] w fun e w' => e = .returned (.tuple #[.agg (dcV L p), .int .i64 (dcE L p)]) ∧ Below w.heap.size w w' := by
  by_cases h : p < 0 ∨ (L.length : Int) < p
  · have e1 : dcE L p = 1 := by unfold dcE; rw [if_pos h]
    have e2 : dcV L p = #[.int .i64 0, .int .u8 0, .int .i64 0, .int .i64 0] := by unfold dcV; rw [if_pos h]
    rw [e1, e2]
    exact refDecode_out ao c L p w h
  obtain ⟨k, rfl⟩ : ∃ k : Nat, p = (k : Int) := ⟨p.toNat, by omega⟩
  have e1 : dcE L (k : Int) = dE (L.drop k) := by unfold dcE; rw [if_neg h]; simp
  have e2 : dcV L (k : Int) = dV (k : Int) (L.drop k) := by unfold dcV; rw [if_neg h]; simp
  rw [e1, e2]
  by_cases hk : k = L.length
  · subst hk
    rw [List.drop_length]
    exact refDecode_end ao c L w
  · obtain ⟨b, off, rfl, _⟩ := hb.head (by omega)
    have hd := hb.dropAt k
    cases hx : L.drop k with
    | nil => exact absurd (List.drop_eq_nil_iff.1 hx) (by omega)
    | cons x t =>
      rw [hx] at hd
      exact refDecode_in b off c L k w x t hx hd hl hc
end Go.Proofs.YthdgbdjagjagpaaGreatDoor
