/-
  What Decode answers, plainly; the contract of code.Decode. Conditions: the widths lie there, lengths fit.
-/
import Derived.Test.YthdgbdjagjagpaaGreatDoorIn3
namespace Go.Proofs.YthdgbdjagjagpaaGreatDoor
open Go.RowKit
set_option maxRecDepth 20000

/-- The number of so many bytes; of four as two's complement. -/
def s32I (n : Nat) : Int := if n < 2147483648 then (n : Int) else (n : Int) - 4294967296
/-- The operands of what stands there, of whose byte it is. -/
def dA (op : Nat) (t : List UInt8) : Int := if op = 1 then s32I (beNI (t.take (wA op))) else (beNI (t.take (wA op)) : Int)
def dB (op : Nat) (t : List UInt8) : Int := (beNI ((t.drop (wA op)).take (wB op)) : Int)
/-- Decode's error: l the bytes from the address on. -/
def dE (l : List UInt8) : Int := match l with
  | [] => 2
  | x :: t => if x.toNat < 34 then (if l.length < sizeD x.toNat then 2 else if inD x.toNat (dA x.toNat t) (dB x.toNat t) then 0 else 5) else 40
def dV (at_ : Int) (l : List UInt8) : Array Value := match l with
  | [] => #[.int .i64 0, .int .u8 0, .int .i64 0, .int .i64 0]
  | x :: t => if dE l = 0 then #[.int .i64 at_, .int .u8 (x.toNat : Int), .int .i64 (dA x.toNat t), .int .i64 (dB x.toNat t)] else #[.int .i64 0, .int .u8 0, .int .i64 0, .int .i64 0]

set_option maxHeartbeats 1000000 in
theorem Decode_out (ao : Option Addr) (c : Nat) (L : List UInt8) (at_ : Int) (w : World) (h : at_ < 0 ∨ (L.length : Int) < at_) :
    Calls Tryz.prog 62 #[.slice ao L.length c, .int .i64 at_] w fun e w' => e = .returned (.tuple #[.agg #[.int .i64 0, .int .u8 0, .int .i64 0, .int .i64 0], .int .i64 1]) ∧ Below w.heap.size w w' := by
  by_cases h0 : at_ < 0
  · have d0 : decide (at_ < 0) = true := decide_eq_true h0
    go_enter Tryz.func62, Tryz.ntmps62
    go_wp2
    go_returns
    exact ⟨rfl, by go_grown⟩
  · have d0 : decide (at_ < 0) = false := decide_eq_false h0
    have d1 : decide ((L.length : Int) < at_) = true := decide_eq_true (by omega)
    clear h h0
    go_enter Tryz.func62, Tryz.ntmps62
    go_wp2
    go_returns
    exact ⟨rfl, by go_grown⟩

theorem Decode_end (ao : Option Addr) (c : Nat) (L : List UInt8) (w : World) (hl : L.length ≤ 140737488355328) :
    Calls Tryz.prog 62 #[.slice ao L.length c, .int .i64 (L.length : Int)] w fun e w' => e = .returned (.tuple #[.agg #[.int .i64 0, .int .u8 0, .int .i64 0, .int .i64 0], .int .i64 2]) ∧ Below w.heap.size w w' := by
  generalize L.length = k at hl ⊢
  have d0 : decide ((k : Int) < 0) = false := decide_eq_false (by omega)
  have d1 : decide ((k : Int) < (k : Int)) = false := decide_eq_false (by omega)
  have d2 : k - k = 0 := by omega
  by_cases hck : c = k
  all_goals
    go_enter Tryz.func62, Tryz.ntmps62
    go_wp2
    go_returns
    exact ⟨rfl, by go_grown⟩

theorem BAt.part {w : World} {b off : Nat} {x : UInt8} {t : List UInt8} (h : BAt w (some ⟨b, off, none⟩) (x :: t)) (k n : Nat) {l : List UInt8} (hl : (x :: t).drop k = l) : BAt w (some ⟨b, off + k, none⟩) (l.take n) := by
  intro i hi
  have hi' : i < l.length := by simp at hi; omega
  have hk : k + i < (x :: t).length := by rw [← hl, List.length_drop] at hi'; omega
  obtain ⟨b', off', e, hc⟩ := h (k + i) hk
  injection e with e
  injection e with e1 e2
  subst e1 e2
  refine ⟨b, off + k, rfl, ?_⟩
  rw [show off + k + i = off + (k + i) by omega, hc]
  unfold at8
  rw [← hl, List.getD_eq_getElem?_getD, List.getD_eq_getElem?_getD, List.getElem?_take_of_lt (by simp at hi; omega), List.getElem?_drop]

theorem wrap_s32 (va : Nat) (h : va < 4294967296) : wrap64 (wrap32 (va : Int)) = s32I va := by
  unfold s32I
  split
  all_goals
    simp only [wrap64, wrap32]
    omega

set_option maxHeartbeats 8000000 in
theorem Decode_in (b off : Nat) (c : Nat) (L : List UInt8) (k : Nat) (w : World) (x : UInt8) (t : List UInt8) (hx : L.drop k = x :: t) (hb : BAt w (some ⟨b, off + k, none⟩) (x :: t)) (hW : WidAt w) (_ : L.length ≤ 140737488355328) (hc : L.length ≤ c) :
    Calls Tryz.prog 62 #[.slice (some ⟨b, off, none⟩) L.length c, .int .i64 (k : Int)] w fun e w' => e = .returned (.tuple #[.agg (dV k (x :: t)), .int .i64 (dE (x :: t))]) ∧ Below w.heap.size w w' := by
  have hlen : L.length - k = t.length + 1 := by have := congrArg List.length hx; simpa using this
  have HX := hide hx
  have HLn := hide hlen
  have d0 : decide ((k : Int) < 0) = false := decide_eq_false (by omega)
  have d1 : decide ((L.length : Int) < (k : Int)) = false := decide_eq_false (by omega)
  have i1 : (k : Int) ≤ (L.length : Int) := by omega
  have hne : ¬ c = k := by omega
  have d2 : (((L.length - k : Nat) : Int) == 0) = false := beq_f (by omega)
  have i2 : (0 : Int) < ((L.length - k : Nat) : Int) := by omega
  obtain ⟨b', off', e', hcell⟩ := hb.head (by simp)
  injection e' with e'
  injection e' with e1 e2
  subst e1 e2
  have c0 := hcell 0 (by simp)
  have hx0 : at8 (x :: t) 0 = (x.toNat : Int) := rfl
  rw [hx0] at c0
  have hop := x.toNat_lt
  generalize hopx : x.toNat = op at c0 hop
  have HOP := hide hopx
  have HCell := hide hcell
  have HW := hide hW
  have HBA0 := hide hb
  clear hx hlen hx0 hopx hcell hb hW
  have HB0 : Hid (Below w.heap.size w (w.alloc (.cells #[.int .i64 0, .int .u8 0, .int .i64 0, .int .i64 0] 72))) := hide ((Below.refl _ _).alloc (Nat.le_refl _) _)
  have HR0 : Hid (IAt (w.alloc (.cells #[.int .i64 0, .int .u8 0, .int .i64 0, .int .i64 0] 72)) w.heap.size 0 0 0 0) := hide (heap_alloc_new w _)
  have hblt : b < w.heap.size := World.block_lt_of_cell? w _ c0
  have c0' : (w.alloc (.cells #[.int .i64 0, .int .u8 0, .int .i64 0, .int .i64 0] 72)).cell? ⟨b, off + k, none⟩ = some (.int .u8 (op : Int)) := ((unhide HB0).cell (p := ⟨b, off + k, none⟩) hblt).trans c0
  have HW0 := hide ((unhide HW).below (unhide HB0))
  have HBA : Hid (BAt (w.alloc (.cells #[.int .i64 0, .int .u8 0, .int .i64 0, .int .i64 0] 72)) (some ⟨b, off + k, none⟩) (x :: t)) := hide ((unhide HBA0).below' (unhide HB0))
  clear HW HBA0
  go_enter Tryz.func62, Tryz.ntmps62
  go_wp2_with fail
  generalize (w.alloc (.cells #[.int .i64 0, .int .u8 0, .int .i64 0, .int .i64 0] 72)) = w0 at HB0 HR0 c0' HW0 HBA ⊢
  with_reducible refine (isOp_any op _).mono ?_
  rintro e w1 ⟨rfl, rfl⟩
  by_cases h34 : op < 34
  rotate_left
  · have hd : decide (op < 34) = false := decide_eq_false h34
    have HE : Hid (dE (x :: t) = 40) := hide (by unfold dE; simp only [unhide HOP]; rw [if_neg h34])
    have HV : Hid (dV k (x :: t) = #[.int .i64 0, .int .u8 0, .int .i64 0, .int .i64 0]) := hide (by unfold dV; rw [unhide HE]; rfl)
    rw [hd]
    clear hd h34
    obtain ⟨r1, r2, r3⟩ := (unhide HR0).c
    have r0 := (unhide HR0).c0
    have f0 := (unhide HR0).f 0
    have f1 := (unhide HR0).f 1
    have f2 := (unhide HR0).f 2
    have f3 := (unhide HR0).f 3
    go_wp2
    refine bodyPost_ret (v := .tuple #[.agg #[.int .i64 0, .int .u8 ((0 : Nat) : Int), .int .i64 0, .int .i64 0], .int .i64 40]) (results_in2 rfl _ _ w.heap.size 0 0 0 0 40 rfl rfl (unhide HR0).zero) rfl ?_
    exact ⟨by rw [unhide HE, unhide HV]; rfl, below_chain (unhide HB0) (Nat.le_refl _) _ _ _ _⟩
  have hd : decide (op < 34) = true := decide_eq_true h34
  rw [hd]
  clear hd
  go_wp2_with fail
  with_reducible refine (Size_any op _ (unhide HW0) (by omega)).mono ?_
  rintro e w2 ⟨rfl, k2, rfl⟩
  have HB2 : Hid (Below w.heap.size w (w1.drewN k2)) := hide (belowD (unhide HB0) _)
  have HR2 : Hid (IAt (w1.drewN k2) w.heap.size 0 0 0 0) := hide (unhide HR0)
  have HW2 : Hid (WidAt (w1.drewN k2)) := hide (unhide HW0)
  have HBA2 : Hid (BAt (w1.drewN k2) (some ⟨b, off + k, none⟩) (x :: t)) := hide (unhide HBA)
  generalize w1.drewN k2 = w2 at HB2 HR2 HW2 HBA2 ⊢
  clear HB0 HR0 HW0 HBA c0' k2 w1
  have la := wA_le op h34
  have lb := wB_le op h34
  have HSZ : Hid (sizeD op = 1 + wA op + wB op) := hide (by unfold sizeD; rw [if_pos h34])
  obtain ⟨N, HN⟩ : ∃ N, Hid (sizeD op = N) := ⟨_, hide rfl⟩
  rw [unhide HN]
  by_cases hsh : L.length - k < N
  · have HE : Hid (dE (x :: t) = 2) := hide (by
      unfold dE; simp only [unhide HOP]; rw [if_pos h34, unhide HN, if_pos (by have := unhide HLn; simp; omega)])
    have HV : Hid (dV k (x :: t) = #[.int .i64 0, .int .u8 0, .int .i64 0, .int .i64 0]) := hide (by unfold dV; rw [unhide HE]; rfl)
    have hd : decide (L.length - k < N) = true := decide_eq_true hsh
    obtain ⟨r1, r2, r3⟩ := (unhide HR2).c
    have r0 := (unhide HR2).c0
    have f0 := (unhide HR2).f 0
    have f1 := (unhide HR2).f 1
    have f2 := (unhide HR2).f 2
    have f3 := (unhide HR2).f 3
    go_wp2
    refine bodyPost_ret (v := .tuple #[.agg #[.int .i64 0, .int .u8 ((0 : Nat) : Int), .int .i64 0, .int .i64 0], .int .i64 2]) (results_in2 rfl _ _ w.heap.size 0 0 0 0 2 rfl rfl (unhide HR2).zero) rfl ?_
    exact ⟨by rw [unhide HE, unhide HV]; rfl, below_chain (unhide HB2) (Nat.le_refl _) _ _ _ _⟩
  have hd : decide (((L.length - k : Nat) : Int) < (N : Int)) = false := decide_eq_false (by omega)
  obtain ⟨x1, x2⟩ := (unhide HW2) op h34
  have i5 : ((op : Nat) : Int) < 34 := by omega
  have i6 : (0 : Int) ≤ ((op : Nat) : Int) := by omega
  obtain ⟨A, HA⟩ : ∃ A, Hid (wA op = A) := ⟨_, hide rfl⟩
  obtain ⟨B, HBB⟩ : ∃ B, Hid (wB op = B) := ⟨_, hide rfl⟩
  rw [unhide HA] at la HSZ x1
  rw [unhide HBB] at lb HSZ x2
  have hN : N = 1 + A + B := (unhide HN).symm.trans (unhide HSZ)
  have hNc : 1 + A + B ≤ L.length - k := by omega
  have hNc2 : 1 + A + B ≤ c - k := by omega
  have BA1 : Hid (BAt w2 (some ⟨b, off + k + 1, none⟩) (t.take A)) := hide (BAt.part (unhide HBA2) 1 A rfl)
  have BA2 : Hid (BAt w2 (some ⟨b, off + k + (1 + A), none⟩) ((t.drop A).take B)) := hide (BAt.part (unhide HBA2) (1 + A) B (by rw [Nat.add_comm 1 A]; rfl))
  have l1 : (t.take A).length = A := by have := unhide HLn; simp; omega
  have l2 : ((t.drop A).take B).length = B := by have := unhide HLn; simp; omega
  have HNN := hide hN
  have j1 : (0 : Int) ≤ 1 + (A : Int) := by omega
  have j2 : 1 + (A : Int) ≤ ((c - k : Nat) : Int) := by omega
  have j3 : 1 + (A : Int) ≤ (N : Int) := by omega
  have j4 : (N : Int) ≤ ((c - k : Nat) : Int) := by omega
  by_cases hC : c - k = 1 + A
  rotate_left
  · have hC1 : ¬ c - k = 1 := by omega
    have HCC := hide hC
    clear hN
    go_wp2_with fail
    have G1 := hide (fun cap => gather_any (some ⟨b, off + k + 1, none⟩) cap (t.take A) w2 (unhide BA1) (by omega))
    simp only [l1] at G1
    with_reducible refine (unhide G1 _).mono ?_
    rintro e w3 ⟨rfl, q3, rfl⟩
    have HW3 : Hid (WidAt (w2.drewN q3)) := hide (unhide HW2)
    go_wp2_with fail
    with_reducible refine (Size_any op _ (unhide HW3) (by omega)).mono ?_
    rintro e w3 ⟨rfl, q4, rfl⟩
    rw [unhide HN]
    go_wp2_with fail
    have G2 := hide (fun cap => gather_any (some ⟨b, off + k + (1 + A), none⟩) cap ((t.drop A).take B) (w2.drewN (q3 + q4)) (unhide BA2) (by omega))
    simp only [l2] at G2
    simp only [show B = N - (1 + A) by have := unhide HNN; omega] at G2
    with_reducible refine (unhide G2 _).mono ?_
    rintro e w3 ⟨rfl, q5, rfl⟩
    have HB3 : Hid (Below w.heap.size w ((w2.drewN (q3 + q4)).drewN q5)) := hide (belowD (belowD (unhide HB2) _) _)
    have HR3 : Hid (IAt ((w2.drewN (q3 + q4)).drewN q5) w.heap.size 0 0 0 0) := hide (unhide HR2)
    generalize (w2.drewN (q3 + q4)).drewN q5 = w3 at HB3 HR3 ⊢
    clear HB2 HR2 HW2 HBA2 BA1 BA2 G1 G2 HW3 x1 x2 q3 q4 q5 w2
    obtain ⟨va, HVA⟩ : ∃ va, Hid (beNI (t.take A) = va) := ⟨_, hide rfl⟩
    obtain ⟨vb, HVB⟩ : ∃ vb, Hid (beNI ((t.drop A).take (N - (1 + A))) = vb) := ⟨_, hide rfl⟩
    rw [unhide HVA, unhide HVB]
    have HDB : Hid (dB x.toNat t = (vb : Int)) := hide (by
      unfold dB; rw [unhide HOP, unhide HA, unhide HBB, ← unhide HVB, show N - (1 + A) = B by have := unhide HNN; omega])
    have hva : va < 4294967296 := by
      have h1 := beNI_lt (t.take A)
      rw [l1, unhide HVA] at h1
      have h2 : 256 ^ A ≤ 256 ^ 4 := Nat.pow_le_pow_right (by omega) la
      omega
    by_cases hop1 : op = 1
    · have HDA : Hid (dA x.toNat t = s32I va) := hide (by unfold dA; rw [unhide HOP, if_pos hop1, unhide HA, unhide HVA])
      have b1 : (((op : Nat) : Int) == 1) = true := beq_t (by omega)
      clear hop1
      go_wp2_with fail
      rw [wrap_s32 va hva]
      generalize s32I va = a' at HDA ⊢
      with_reducible refine (inSpans_any (k : Int) op a' (vb : Int) _ h34).mono ?_
      rintro e w4 ⟨rfl, hB4⟩
      have HA3 : Below w3.heap.size w3 (w3.alloc (.cells #[.int .i64 (k : Int), .int .u8 (op : Int), .int .i64 a', .int .i64 (vb : Int)] 72)) := (Below.refl _ _).alloc (Nat.le_refl _) _
      have HI4 : Hid (IAt w4 w3.heap.size (k : Int) op a' (vb : Int)) := hide (IAt.below (heap_alloc_new w3 _) hB4)
      have HR4 : Hid (IAt w4 w.heap.size 0 0 0 0) := hide (((unhide HR3).below HA3).below hB4)
      have HB4 : Hid (Below w.heap.size w w4) := hide (((unhide HB3).trans (HA3.mono (unhide HB3).size)).trans (hB4.mono (by have := (unhide HB3).size; simp; omega)))
      clear hB4 HA3 HR3 HB3
      obtain ⟨r1, r2, r3⟩ := (unhide HR4).c
      have r0 := (unhide HR4).c0
      have f0 := (unhide HR4).f 0
      have f1 := (unhide HR4).f 1
      have f2 := (unhide HR4).f 2
      have f3 := (unhide HR4).f 3
      have hDE : ∀ e, (if inD op a' vb then (0 : Int) else 5) = e → dE (x :: t) = e := fun e he => by
        show (if x.toNat < 34 then (if (x :: t).length < sizeD x.toNat then (2 : Int) else if inD x.toNat (dA x.toNat t) (dB x.toNat t) then 0 else 5) else 40) = e
        rw [unhide HDA, unhide HDB, unhide HOP, if_pos h34, unhide HN, if_neg (by have := unhide HLn; simp; omega)]
        exact he
      cases hin : inD op a' vb
      · have HE : Hid (dE (x :: t) = 5) := hide (hDE 5 (by rw [hin]; rfl))
        have HV : Hid (dV k (x :: t) = #[.int .i64 0, .int .u8 0, .int .i64 0, .int .i64 0]) := hide (by unfold dV; rw [unhide HE]; rfl)
        clear hin hDE
        go_wp2
        refine bodyPost_ret (v := .tuple #[.agg #[.int .i64 0, .int .u8 ((0 : Nat) : Int), .int .i64 0, .int .i64 0], .int .i64 5]) (results_in2 rfl _ _ w.heap.size 0 0 0 0 5 rfl rfl (unhide HR4).zero) rfl ?_
        exact ⟨by rw [unhide HE, unhide HV]; rfl, below_chain (unhide HB4) (Nat.le_refl _) _ _ _ _⟩
      · have HE : Hid (dE (x :: t) = 0) := hide (hDE 0 (by rw [hin]; rfl))
        have HV : Hid (dV k (x :: t) = #[.int .i64 (k : Int), .int .u8 (op : Int), .int .i64 a', .int .i64 (vb : Int)]) := hide (by
          unfold dV; simp only []; rw [if_pos (unhide HE), unhide HDA, unhide HDB, unhide HOP])
        clear hin hDE
        obtain ⟨s1, s2, s3⟩ := (unhide HI4).c
        have s0 := (unhide HI4).c0
        go_wp2
        refine bodyPost_ret (v := .tuple #[.agg #[.int .i64 (k : Int), .int .u8 (op : Int), .int .i64 a', .int .i64 (vb : Int)], .int .i64 0]) (results_in2 rfl _ _ w.heap.size (k : Int) op a' (vb : Int) 0 rfl rfl ((unhide HR4).chain _ _ _ _)) rfl ?_
        exact ⟨by rw [unhide HE, unhide HV], below_chain (unhide HB4) (Nat.le_refl _) _ _ _ _⟩
    · have HDA : Hid (dA x.toNat t = (va : Int)) := hide (by unfold dA; rw [unhide HOP, if_neg hop1, unhide HA, unhide HVA])
      have b1 : (((op : Nat) : Int) == 1) = false := beq_f (by omega)
      clear hop1
      go_wp2_with fail
      generalize ((va : Nat) : Int) = a' at HDA ⊢
      with_reducible refine (inSpans_any (k : Int) op a' (vb : Int) _ h34).mono ?_
      rintro e w4 ⟨rfl, hB4⟩
      have HA3 : Below w3.heap.size w3 (w3.alloc (.cells #[.int .i64 (k : Int), .int .u8 (op : Int), .int .i64 a', .int .i64 (vb : Int)] 72)) := (Below.refl _ _).alloc (Nat.le_refl _) _
      have HI4 : Hid (IAt w4 w3.heap.size (k : Int) op a' (vb : Int)) := hide (IAt.below (heap_alloc_new w3 _) hB4)
      have HR4 : Hid (IAt w4 w.heap.size 0 0 0 0) := hide (((unhide HR3).below HA3).below hB4)
      have HB4 : Hid (Below w.heap.size w w4) := hide (((unhide HB3).trans (HA3.mono (unhide HB3).size)).trans (hB4.mono (by have := (unhide HB3).size; simp; omega)))
      clear hB4 HA3 HR3 HB3
      obtain ⟨r1, r2, r3⟩ := (unhide HR4).c
      have r0 := (unhide HR4).c0
      have f0 := (unhide HR4).f 0
      have f1 := (unhide HR4).f 1
      have f2 := (unhide HR4).f 2
      have f3 := (unhide HR4).f 3
      have hDE : ∀ e, (if inD op a' vb then (0 : Int) else 5) = e → dE (x :: t) = e := fun e he => by
        show (if x.toNat < 34 then (if (x :: t).length < sizeD x.toNat then (2 : Int) else if inD x.toNat (dA x.toNat t) (dB x.toNat t) then 0 else 5) else 40) = e
        rw [unhide HDA, unhide HDB, unhide HOP, if_pos h34, unhide HN, if_neg (by have := unhide HLn; simp; omega)]
        exact he
      cases hin : inD op a' vb
      · have HE : Hid (dE (x :: t) = 5) := hide (hDE 5 (by rw [hin]; rfl))
        have HV : Hid (dV k (x :: t) = #[.int .i64 0, .int .u8 0, .int .i64 0, .int .i64 0]) := hide (by unfold dV; rw [unhide HE]; rfl)
        clear hin hDE
        go_wp2
        refine bodyPost_ret (v := .tuple #[.agg #[.int .i64 0, .int .u8 ((0 : Nat) : Int), .int .i64 0, .int .i64 0], .int .i64 5]) (results_in2 rfl _ _ w.heap.size 0 0 0 0 5 rfl rfl (unhide HR4).zero) rfl ?_
        exact ⟨by rw [unhide HE, unhide HV]; rfl, below_chain (unhide HB4) (Nat.le_refl _) _ _ _ _⟩
      · have HE : Hid (dE (x :: t) = 0) := hide (hDE 0 (by rw [hin]; rfl))
        have HV : Hid (dV k (x :: t) = #[.int .i64 (k : Int), .int .u8 (op : Int), .int .i64 a', .int .i64 (vb : Int)]) := hide (by
          unfold dV; simp only []; rw [if_pos (unhide HE), unhide HDA, unhide HDB, unhide HOP])
        clear hin hDE
        obtain ⟨s1, s2, s3⟩ := (unhide HI4).c
        have s0 := (unhide HI4).c0
        go_wp2
        refine bodyPost_ret (v := .tuple #[.agg #[.int .i64 (k : Int), .int .u8 (op : Int), .int .i64 a', .int .i64 (vb : Int)], .int .i64 0]) (results_in2 rfl _ _ w.heap.size (k : Int) op a' (vb : Int) 0 rfl rfl ((unhide HR4).chain _ _ _ _)) rfl ?_
        exact ⟨by rw [unhide HE, unhide HV], below_chain (unhide HB4) (Nat.le_refl _) _ _ _ _⟩
  by_cases hA : A = 0
  rotate_left
  · have hA0 : ¬ A = 0 := hA
    clear hA
    clear hN
    go_wp2_with fail
    have G1 := hide (fun cap => gather_any (some ⟨b, off + k + 1, none⟩) cap (t.take A) w2 (unhide BA1) (by omega))
    simp only [l1] at G1
    with_reducible refine (unhide G1 _).mono ?_
    rintro e w3 ⟨rfl, q3, rfl⟩
    have HW3 : Hid (WidAt (w2.drewN q3)) := hide (unhide HW2)
    go_wp2_with fail
    with_reducible refine (Size_any op _ (unhide HW3) (by omega)).mono ?_
    rintro e w3 ⟨rfl, q4, rfl⟩
    rw [unhide HN]
    go_wp2_with fail
    have G2 := hide (fun cap => gather_any (some ⟨b, off + k, none⟩) cap ((t.drop A).take B) (w2.drewN (q3 + q4)) (by rw [show B = 0 by omega, List.take_zero]; exact BAt.nil _ _) (by omega))
    simp only [l2] at G2
    simp only [show B = N - (1 + A) by have := unhide HNN; omega] at G2
    with_reducible refine (unhide G2 _).mono ?_
    rintro e w3 ⟨rfl, q5, rfl⟩
    have HB3 : Hid (Below w.heap.size w ((w2.drewN (q3 + q4)).drewN q5)) := hide (belowD (belowD (unhide HB2) _) _)
    have HR3 : Hid (IAt ((w2.drewN (q3 + q4)).drewN q5) w.heap.size 0 0 0 0) := hide (unhide HR2)
    generalize (w2.drewN (q3 + q4)).drewN q5 = w3 at HB3 HR3 ⊢
    clear HB2 HR2 HW2 HBA2 BA1 BA2 G1 G2 HW3 x1 x2 q3 q4 q5 w2
    obtain ⟨va, HVA⟩ : ∃ va, Hid (beNI (t.take A) = va) := ⟨_, hide rfl⟩
    obtain ⟨vb, HVB⟩ : ∃ vb, Hid (beNI ((t.drop A).take (N - (1 + A))) = vb) := ⟨_, hide rfl⟩
    rw [unhide HVA, unhide HVB]
    have HDB : Hid (dB x.toNat t = (vb : Int)) := hide (by
      unfold dB; rw [unhide HOP, unhide HA, unhide HBB, ← unhide HVB, show N - (1 + A) = B by have := unhide HNN; omega])
    have hva : va < 4294967296 := by
      have h1 := beNI_lt (t.take A)
      rw [l1, unhide HVA] at h1
      have h2 : 256 ^ A ≤ 256 ^ 4 := Nat.pow_le_pow_right (by omega) la
      omega
    by_cases hop1 : op = 1
    · have HDA : Hid (dA x.toNat t = s32I va) := hide (by unfold dA; rw [unhide HOP, if_pos hop1, unhide HA, unhide HVA])
      have b1 : (((op : Nat) : Int) == 1) = true := beq_t (by omega)
      clear hop1
      go_wp2_with fail
      rw [wrap_s32 va hva]
      generalize s32I va = a' at HDA ⊢
      with_reducible refine (inSpans_any (k : Int) op a' (vb : Int) _ h34).mono ?_
      rintro e w4 ⟨rfl, hB4⟩
      have HA3 : Below w3.heap.size w3 (w3.alloc (.cells #[.int .i64 (k : Int), .int .u8 (op : Int), .int .i64 a', .int .i64 (vb : Int)] 72)) := (Below.refl _ _).alloc (Nat.le_refl _) _
      have HI4 : Hid (IAt w4 w3.heap.size (k : Int) op a' (vb : Int)) := hide (IAt.below (heap_alloc_new w3 _) hB4)
      have HR4 : Hid (IAt w4 w.heap.size 0 0 0 0) := hide (((unhide HR3).below HA3).below hB4)
      have HB4 : Hid (Below w.heap.size w w4) := hide (((unhide HB3).trans (HA3.mono (unhide HB3).size)).trans (hB4.mono (by have := (unhide HB3).size; simp; omega)))
      clear hB4 HA3 HR3 HB3
      obtain ⟨r1, r2, r3⟩ := (unhide HR4).c
      have r0 := (unhide HR4).c0
      have f0 := (unhide HR4).f 0
      have f1 := (unhide HR4).f 1
      have f2 := (unhide HR4).f 2
      have f3 := (unhide HR4).f 3
      have hDE : ∀ e, (if inD op a' vb then (0 : Int) else 5) = e → dE (x :: t) = e := fun e he => by
        show (if x.toNat < 34 then (if (x :: t).length < sizeD x.toNat then (2 : Int) else if inD x.toNat (dA x.toNat t) (dB x.toNat t) then 0 else 5) else 40) = e
        rw [unhide HDA, unhide HDB, unhide HOP, if_pos h34, unhide HN, if_neg (by have := unhide HLn; simp; omega)]
        exact he
      cases hin : inD op a' vb
      · have HE : Hid (dE (x :: t) = 5) := hide (hDE 5 (by rw [hin]; rfl))
        have HV : Hid (dV k (x :: t) = #[.int .i64 0, .int .u8 0, .int .i64 0, .int .i64 0]) := hide (by unfold dV; rw [unhide HE]; rfl)
        clear hin hDE
        go_wp2
        refine bodyPost_ret (v := .tuple #[.agg #[.int .i64 0, .int .u8 ((0 : Nat) : Int), .int .i64 0, .int .i64 0], .int .i64 5]) (results_in2 rfl _ _ w.heap.size 0 0 0 0 5 rfl rfl (unhide HR4).zero) rfl ?_
        exact ⟨by rw [unhide HE, unhide HV]; rfl, below_chain (unhide HB4) (Nat.le_refl _) _ _ _ _⟩
      · have HE : Hid (dE (x :: t) = 0) := hide (hDE 0 (by rw [hin]; rfl))
        have HV : Hid (dV k (x :: t) = #[.int .i64 (k : Int), .int .u8 (op : Int), .int .i64 a', .int .i64 (vb : Int)]) := hide (by
          unfold dV; simp only []; rw [if_pos (unhide HE), unhide HDA, unhide HDB, unhide HOP])
        clear hin hDE
        obtain ⟨s1, s2, s3⟩ := (unhide HI4).c
        have s0 := (unhide HI4).c0
        go_wp2
        refine bodyPost_ret (v := .tuple #[.agg #[.int .i64 (k : Int), .int .u8 (op : Int), .int .i64 a', .int .i64 (vb : Int)], .int .i64 0]) (results_in2 rfl _ _ w.heap.size (k : Int) op a' (vb : Int) 0 rfl rfl ((unhide HR4).chain _ _ _ _)) rfl ?_
        exact ⟨by rw [unhide HE, unhide HV], below_chain (unhide HB4) (Nat.le_refl _) _ _ _ _⟩
    · have HDA : Hid (dA x.toNat t = (va : Int)) := hide (by unfold dA; rw [unhide HOP, if_neg hop1, unhide HA, unhide HVA])
      have b1 : (((op : Nat) : Int) == 1) = false := beq_f (by omega)
      clear hop1
      go_wp2_with fail
      generalize ((va : Nat) : Int) = a' at HDA ⊢
      with_reducible refine (inSpans_any (k : Int) op a' (vb : Int) _ h34).mono ?_
      rintro e w4 ⟨rfl, hB4⟩
      have HA3 : Below w3.heap.size w3 (w3.alloc (.cells #[.int .i64 (k : Int), .int .u8 (op : Int), .int .i64 a', .int .i64 (vb : Int)] 72)) := (Below.refl _ _).alloc (Nat.le_refl _) _
      have HI4 : Hid (IAt w4 w3.heap.size (k : Int) op a' (vb : Int)) := hide (IAt.below (heap_alloc_new w3 _) hB4)
      have HR4 : Hid (IAt w4 w.heap.size 0 0 0 0) := hide (((unhide HR3).below HA3).below hB4)
      have HB4 : Hid (Below w.heap.size w w4) := hide (((unhide HB3).trans (HA3.mono (unhide HB3).size)).trans (hB4.mono (by have := (unhide HB3).size; simp; omega)))
      clear hB4 HA3 HR3 HB3
      obtain ⟨r1, r2, r3⟩ := (unhide HR4).c
      have r0 := (unhide HR4).c0
      have f0 := (unhide HR4).f 0
      have f1 := (unhide HR4).f 1
      have f2 := (unhide HR4).f 2
      have f3 := (unhide HR4).f 3
      have hDE : ∀ e, (if inD op a' vb then (0 : Int) else 5) = e → dE (x :: t) = e := fun e he => by
        show (if x.toNat < 34 then (if (x :: t).length < sizeD x.toNat then (2 : Int) else if inD x.toNat (dA x.toNat t) (dB x.toNat t) then 0 else 5) else 40) = e
        rw [unhide HDA, unhide HDB, unhide HOP, if_pos h34, unhide HN, if_neg (by have := unhide HLn; simp; omega)]
        exact he
      cases hin : inD op a' vb
      · have HE : Hid (dE (x :: t) = 5) := hide (hDE 5 (by rw [hin]; rfl))
        have HV : Hid (dV k (x :: t) = #[.int .i64 0, .int .u8 0, .int .i64 0, .int .i64 0]) := hide (by unfold dV; rw [unhide HE]; rfl)
        clear hin hDE
        go_wp2
        refine bodyPost_ret (v := .tuple #[.agg #[.int .i64 0, .int .u8 ((0 : Nat) : Int), .int .i64 0, .int .i64 0], .int .i64 5]) (results_in2 rfl _ _ w.heap.size 0 0 0 0 5 rfl rfl (unhide HR4).zero) rfl ?_
        exact ⟨by rw [unhide HE, unhide HV]; rfl, below_chain (unhide HB4) (Nat.le_refl _) _ _ _ _⟩
      · have HE : Hid (dE (x :: t) = 0) := hide (hDE 0 (by rw [hin]; rfl))
        have HV : Hid (dV k (x :: t) = #[.int .i64 (k : Int), .int .u8 (op : Int), .int .i64 a', .int .i64 (vb : Int)]) := hide (by
          unfold dV; simp only []; rw [if_pos (unhide HE), unhide HDA, unhide HDB, unhide HOP])
        clear hin hDE
        obtain ⟨s1, s2, s3⟩ := (unhide HI4).c
        have s0 := (unhide HI4).c0
        go_wp2
        refine bodyPost_ret (v := .tuple #[.agg #[.int .i64 (k : Int), .int .u8 (op : Int), .int .i64 a', .int .i64 (vb : Int)], .int .i64 0]) (results_in2 rfl _ _ w.heap.size (k : Int) op a' (vb : Int) 0 rfl rfl ((unhide HR4).chain _ _ _ _)) rfl ?_
        exact ⟨by rw [unhide HE, unhide HV], below_chain (unhide HB4) (Nat.le_refl _) _ _ _ _⟩
  · have hA0 : A = 0 := hA
    have hB0 : B = 0 := by omega
    have hN1 : N = 1 := by omega
    have hck : c - k = 1 := by omega
    have ho1 : ¬ op = 1 := fun h => by
      have e := unhide HA
      rw [h, hA0] at e
      exact absurd e (by decide)
    have b1 : (((op : Nat) : Int) == 1) = false := beq_f (by omega)
    have HDA : Hid (dA x.toNat t = 0) := hide (by unfold dA; rw [unhide HOP, if_neg ho1, unhide HA, hA0]; rfl)
    have HDB : Hid (dB x.toNat t = 0) := hide (by unfold dB; rw [unhide HOP, unhide HBB, hB0]; simp [beNI])
    have G1 := hide (fun cap W => gather_any (some ⟨b, off + k, none⟩) cap [] W (BAt.nil _ _) (by simp))
    simp only [List.length_nil] at G1
    rw [hN1] at HN ⊢
    rw [hA0] at x1
    clear hC hA hN hA0 hB0 ho1 HA HBB HSZ la lb BA1 BA2 l1 l2 HNN j1 j2 j3 j4 hNc hNc2 hN1
    go_wp2_with fail
    with_reducible refine (unhide G1 _ _).mono ?_
    rintro e w3 ⟨rfl, q3, rfl⟩
    have HW3 : Hid (WidAt (w2.drewN q3)) := hide (unhide HW2)
    go_wp2_with fail
    with_reducible refine (Size_any op _ (unhide HW3) (by omega)).mono ?_
    rintro e w3 ⟨rfl, q4, rfl⟩
    rw [unhide HN]
    go_wp2_with fail
    with_reducible refine (unhide G1 _ _).mono ?_
    rintro e w3 ⟨rfl, q5, rfl⟩
    have HB3 : Hid (Below w.heap.size w ((w2.drewN (q3 + q4)).drewN q5)) := hide (belowD (belowD (unhide HB2) _) _)
    have HR3 : Hid (IAt ((w2.drewN (q3 + q4)).drewN q5) w.heap.size 0 0 0 0) := hide (unhide HR2)
    generalize (w2.drewN (q3 + q4)).drewN q5 = w3 at HB3 HR3 ⊢
    rw [show beNI ([] : List UInt8) = 0 from rfl]
    clear HB2 HR2 HW2 HBA2 G1 HW3 x1 x2 q3 q4 q5 w2
    go_wp2_with fail
    with_reducible refine (inSpans_any (k : Int) op (0 : Int) (0 : Int) _ h34).mono ?_
    rintro e w4 ⟨rfl, hB4⟩
    have HA3 : Below w3.heap.size w3 (w3.alloc (.cells #[.int .i64 (k : Int), .int .u8 (op : Int), .int .i64 (0 : Int), .int .i64 (0 : Int)] 72)) := (Below.refl _ _).alloc (Nat.le_refl _) _
    have HI4 : Hid (IAt w4 w3.heap.size (k : Int) op (0 : Int) (0 : Int)) := hide (IAt.below (heap_alloc_new w3 _) hB4)
    have HR4 : Hid (IAt w4 w.heap.size 0 0 0 0) := hide (((unhide HR3).below HA3).below hB4)
    have HB4 : Hid (Below w.heap.size w w4) := hide (((unhide HB3).trans (HA3.mono (unhide HB3).size)).trans (hB4.mono (by have := (unhide HB3).size; simp; omega)))
    clear hB4 HA3 HR3 HB3
    obtain ⟨r1, r2, r3⟩ := (unhide HR4).c
    have r0 := (unhide HR4).c0
    have f0 := (unhide HR4).f 0
    have f1 := (unhide HR4).f 1
    have f2 := (unhide HR4).f 2
    have f3 := (unhide HR4).f 3
    have hDE : ∀ e, (if inD op 0 0 then (0 : Int) else 5) = e → dE (x :: t) = e := fun e he => by
      show (if x.toNat < 34 then (if (x :: t).length < sizeD x.toNat then (2 : Int) else if inD x.toNat (dA x.toNat t) (dB x.toNat t) then 0 else 5) else 40) = e
      rw [unhide HDA, unhide HDB, unhide HOP, if_pos h34, unhide HN, if_neg (by simp)]
      exact he
    cases hin : inD op 0 0
    · have HE : Hid (dE (x :: t) = 5) := hide (hDE 5 (by rw [hin]; rfl))
      have HV : Hid (dV k (x :: t) = #[.int .i64 0, .int .u8 0, .int .i64 0, .int .i64 0]) := hide (by unfold dV; rw [unhide HE]; rfl)
      clear hin hDE
      go_wp2
      refine bodyPost_ret (v := .tuple #[.agg #[.int .i64 0, .int .u8 ((0 : Nat) : Int), .int .i64 0, .int .i64 0], .int .i64 5]) (results_in2 rfl _ _ w.heap.size 0 0 0 0 5 rfl rfl (unhide HR4).zero) rfl ?_
      exact ⟨by rw [unhide HE, unhide HV]; rfl, below_chain (unhide HB4) (Nat.le_refl _) _ _ _ _⟩
    · have HE : Hid (dE (x :: t) = 0) := hide (hDE 0 (by rw [hin]; rfl))
      have HV : Hid (dV k (x :: t) = #[.int .i64 (k : Int), .int .u8 (op : Int), .int .i64 (0 : Int), .int .i64 (0 : Int)]) := hide (by
        unfold dV; simp only []; rw [if_pos (unhide HE), unhide HDA, unhide HDB, unhide HOP])
      clear hin hDE
      obtain ⟨s1, s2, s3⟩ := (unhide HI4).c
      have s0 := (unhide HI4).c0
      go_wp2
      refine bodyPost_ret (v := .tuple #[.agg #[.int .i64 (k : Int), .int .u8 (op : Int), .int .i64 (0 : Int), .int .i64 (0 : Int)], .int .i64 0]) (results_in2 rfl _ _ w.heap.size (k : Int) op (0 : Int) (0 : Int) 0 rfl rfl ((unhide HR4).chain _ _ _ _)) rfl ?_
      exact ⟨by rw [unhide HE, unhide HV], below_chain (unhide HB4) (Nat.le_refl _) _ _ _ _⟩
end Go.Proofs.YthdgbdjagjagpaaGreatDoor
