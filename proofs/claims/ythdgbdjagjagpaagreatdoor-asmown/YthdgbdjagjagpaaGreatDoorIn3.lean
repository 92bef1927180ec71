/-
  A number in so many bytes, plainly; the contracts of code.spread and code.gather, of provisoref04.fits; an instruction in a block of its own; the contract of code.Encode. Conditions: the widths lie there, lengths fit.
  An instruction in a block of its own; the contract of code.Encode. Conditions: the widths lie there, lengths fit.
  Contracts of provisoref04's fits, put and Encode: the same plain functions as of code.Encode. Conditions: lengths fit.
  code's spans and provisoref04's fits say the same; the contract of provisoref04.Encode.
  The contract of provisoref04.take: the number of so many bytes, of four as two's complement. Conditions: the bytes are there.
  What provisoref04's take makes of the bytes of an instruction is what Decode makes of them; they are in their spans but for a bool above 1. No Go in it.
  An instruction's row: stored whole, read back as a result. Conditions: none.
-/
import Derived.Test.YthdgbdjagjagpaaGreatDoorIn2
import Derived.Laws.CopyOwn
import Derived.Test.YthdgbdjagjagpaaGreatDoorApp
import Derived.Laws.Tables
import Derived.Laws.ResultCell
import Derived.Deep.WholeRow
namespace Go.Proofs.YthdgbdjagjagpaaGreatDoor
open Go.RowKit
set_option maxRecDepth 20000

/-- The byte of a number at a place from its end. -/
def byI (n : Int) (j : Nat) : UInt8 := UInt8.ofNat (n / (256 : Int) ^ j % 256).toNat
theorem byI_eq (n : Int) (j : Nat) : ((byI n j).toNat : Int) = n / (256 : Int) ^ j % 256 := by
  unfold byI
  have h0 : 0 ≤ n / (256 : Int) ^ j % 256 := by omega
  have h1 : n / (256 : Int) ^ j % 256 < 256 := by omega
  rw [UInt8.toNat_ofNat_of_lt' (by show _ < 256; omega)]
  omega
/-- A number in so many bytes, the high one first. -/
def beI (n : Int) (s : Nat) : List UInt8 := (List.range s).map fun i => byI n (s - 1 - i)
theorem beI_length (n : Int) (s : Nat) : (beI n s).length = s := by simp [beI]

/-- The bytes from i on are the number's. -/
def laidI (L : List UInt8) (off s : Nat) (n : Int) (i : Nat) : List UInt8 := L.take (off + i) ++ ((beI n s).drop i ++ L.drop (off + s))

theorem beI_get (n : Int) (s m : Nat) (h : m < s) : (beI n s)[m]? = some (byI n (s - 1 - m)) := by
  unfold beI
  rw [List.getElem?_map, List.getElem?_range h]
  rfl
theorem laidI_step (L : List UInt8) (off s : Nat) (n : Int) (m : Nat) (hm : m < s) (hs : off + s ≤ L.length) :
    (laidI L off s n (m + 1)).set (off + m) (byI n (s - 1 - m)) = laidI L off s n m := by
  have h1 : off + m < L.length := by omega
  have h2 : m < (beI n s).length := by rw [beI_length]; exact hm
  have e1 : L.take (off + (m + 1)) = L.take (off + m) ++ [L[off + m]] := List.take_succ_eq_append_getElem h1
  have e2 : (beI n s).drop m = byI n (s - 1 - m) :: (beI n s).drop (m + 1) := by
    have := beI_get n s m hm
    rw [List.getElem?_eq_getElem h2] at this
    injection this with this
    rw [List.drop_eq_getElem_cons h2, this]
  have hl : (L.take (off + m)).length = off + m := by simp; omega
  unfold laidI
  rw [e1, e2, List.append_assoc, List.set_append_right _ _ (by omega), hl, Nat.sub_self]
  simp
theorem laidI_length (L : List UInt8) (off s : Nat) (n : Int) (i : Nat) (hi : i ≤ s) (hs : off + s ≤ L.length) : (laidI L off s n i).length = L.length := by
  unfold laidI
  simp [beI_length]
  omega
theorem bvals_setI (L : List UInt8) (j : Nat) (x : UInt8) : (bvals L).set j (.int .u8 (x.toNat : Int)) = bvals (L.set j x) := by
  unfold bvals
  rw [List.map_set]
theorem div_stepI (n : Int) (s m : Nat) (h : m < s) : n / 256 ^ (s - (m + 1)) / 256 = n / (256 : Int) ^ (s - m) := by
  rw [show s - m = (s - (m + 1)) + 1 from by omega, Int.pow_succ, Int.ediv_ediv_of_nonneg (Int.pow_nonneg (by omega))]

set_option maxHeartbeats 400000 in
theorem cspread_any {w : World} {base g N cap off s c : Nat} {L : List UInt8} (n : Int) (h : OwnB w base (.slice (some ⟨g, 0, none⟩) N cap) L) (hN : N = L.length) (hs : off + s ≤ L.length) (hs8 : s ≤ 8) :
    Calls Tryz.prog 85 #[.slice (some ⟨g, off, none⟩) s c, .int .i64 n] w fun e w' => e = .returned (.tuple #[]) ∧ OwnB w' base (.slice (some ⟨g, 0, none⟩) N cap) (laidI L off s n 0) ∧ w.grownBy w' (some g) := by
  go_enter Tryz.func85, Tryz.ntmps85
  go_wp2
  go_loopw [1, 4] (fun z i wr => ∃ k : Nat, k ≤ s ∧ i = .int .i64 ((k : Int) - 1) ∧ z = .int .i64 (n / 256 ^ (s - k)) ∧ OwnB wr base (.slice (some ⟨g, 0, none⟩) N cap) (laidI L off s n k) ∧ w.grownBy wr (some g)) (fun _ i _ => (intOf i + 1).toNat)
  case atStart =>
    refine ⟨s, Nat.le_refl _, rfl, by simp, ?_, World.grownBy.refl _ _⟩
    have : laidI L off s n s = L := by
      unfold laidI
      rw [List.drop_eq_nil_of_le (by rw [beI_length]; omega), List.nil_append, List.take_append_drop]
    rw [this]; exact h
  case round =>
    obtain ⟨k, hk, rfl, rfl, hO, hG⟩ := hrel
    cases k with
    | zero =>
      go_wp2
      go_end0
      exact ⟨rfl, hO, hG⟩
    | succ m =>
      have hll := laidI_length L off s n (m + 1) hk hs
      have hO' : wr.ownsRow base 5 1 (.slice (some ⟨g, 0, none⟩) N cap) N (bvals (laidI L off s n (m + 1))) := by
        have := hO; unfold OwnB at this; rw [hll, ← hN] at this; exact this
      have c1 : ∃ u, wr.cell? ⟨g, off + m, none⟩ = some u := by
        have := hO'.cellAt (off + m) (by omega)
        rw [this, bvals_get (by omega)]
        exact ⟨_, rfl⟩
      obtain ⟨u, c1⟩ := c1
      have f1 := hO'.frozenAt (off + m)
      have hst := hO'.stored (off + m) (.int .u8 (n / 256 ^ (s - (m + 1)) % 256))
      have hb := byI_eq n (s - (m + 1))
      have HO : Hid (OwnB (wr.setCell ⟨g, off + m, none⟩ (.int .u8 (n / 256 ^ (s - (m + 1)) % 256))) base (.slice (some ⟨g, 0, none⟩) N cap) (laidI L off s n m)) := hide (by
        have h1 := hst.1
        rw [← hb, bvals_setI, show s - (m + 1) = s - 1 - m from by omega, laidI_step L off s n m (by omega) hs] at h1
        unfold OwnB
        rw [laidI_length L off s n m (by omega) hs, ← hN]
        rw [← hb, show s - (m + 1) = s - 1 - m from by omega]
        exact h1)
      have HG : Hid (w.grownBy (wr.setCell ⟨g, off + m, none⟩ (.int .u8 (n / 256 ^ (s - (m + 1)) % 256))) (some g)) := hide ⟨hst.2.os.trans hG.os, hst.2.tape.trans hG.tape, hst.2.output.trans hG.output, Nat.le_trans hG.size hst.2.size, fun k hk hne => (hst.2.block k (Nat.lt_of_lt_of_le hk hG.size) hne).trans (hG.block k hk hne)⟩
      have HD := hide (div_stepI n s m (by omega))
      clear hst hb hO hO' hG
      rw [show (((m + 1 : Nat) : Int) - 1) = (m : Int) from by omega]
      have i1 : (m : Int) < (s : Int) := by omega
      go_wp2
      go_roundw
      case rel => exact ⟨m, by omega, rfl, val_int (unhide HD), unhide HO, unhide HG⟩
      case measure => simp [intOf]

def beNI (l : List UInt8) : Nat := l.foldl (fun a x => a * 256 + x.toNat) 0
theorem beNI_snoc (l : List UInt8) (x : UInt8) : beNI (l ++ [x]) = beNI l * 256 + x.toNat := by simp [beNI]
theorem beNI_take (l : List UInt8) (k : Nat) (h : k < l.length) : beNI (l.take (k + 1)) = beNI (l.take k) * 256 + (l.getD k 0).toNat := by
  rw [List.take_succ_eq_append_getElem h, beNI_snoc, List.getD_eq_getElem?_getD, List.getElem?_eq_getElem h]; rfl
theorem beNI_lt (l : List UInt8) : beNI l < 256 ^ l.length := by
  suffices ∀ n, n ≤ l.length → beNI (l.take n) < 256 ^ n from by simpa using this l.length (Nat.le_refl _)
  intro n
  induction n with
  | zero => intro _; simp [beNI]
  | succ n ih =>
    intro h
    rw [beNI_take l n (by omega)]
    have h1 := ih (by omega)
    have h2 := (l.getD n 0).toNat_lt
    rw [Nat.pow_succ]
    omega

theorem bits_o32I (a b : Nat) (ha : a < 4294967296) (hb : b < 4294967296) : bits .or .u32 (a : Int) (b : Int) = ((a ||| b : Nat) : Int) := by
  have hx : a ||| b < 2 ^ 32 := Nat.or_lt_two_pow (by omega) (by omega)
  have h1 : (BitVec.ofInt 32 (a : Int)).toNat = a := by
    rw [BitVec.ofInt_natCast, BitVec.toNat_ofNat]; exact Nat.mod_eq_of_lt (by omega)
  have h2 : (BitVec.ofInt 32 (b : Int)).toNat = b := by
    rw [BitVec.ofInt_natCast, BitVec.toNat_ofNat]; exact Nat.mod_eq_of_lt (by omega)
  have hw : ∀ n : Int, IntKind.u32.wrap n = n % 4294967296 := fun n => by simp [IntKind.wrap, IntKind.bits, IntKind.signed]
  show IntKind.u32.wrap ((BitVec.ofInt 32 (a : Int) ||| BitVec.ofInt 32 (b : Int)).toNat : Int) = _
  rw [BitVec.toNat_or, h1, h2, hw]
  omega
theorem or_byteI (C m : Nat) (L : List UInt8) (hC : C < 256 ^ m) (hm : m < 4) : bits .or .u32 ((C : Int) * 256 % 4294967296) (at8 L m) = ((C * 256 + (L.getD m 0).toNat : Nat) : Int) := by
  have h1 : 256 ^ m ≤ 256 ^ 3 := Nat.pow_le_pow_right (by omega) (by omega)
  have h2 : C < 16777216 := by omega
  have h3 : (C : Int) * 256 % 4294967296 = ((C * 256 : Nat) : Int) := by omega
  have h4 := (L.getD m 0).toNat_lt
  have h5 := Nat.two_pow_add_eq_or_of_lt (i := 8) (b := (L.getD m 0).toNat) (by omega) C
  rw [h3]
  unfold at8
  rw [bits_o32I _ _ (by omega) (by omega)]
  rw [show C * 256 = 2 ^ 8 * C from by omega, ← h5]


set_option maxHeartbeats 400000 in
theorem gather_any (ao : Option Addr) (c : Nat) (L : List UInt8) (w : World) (hb : BAt w ao L) (h4 : L.length ≤ 4) :
    Calls Tryz.prog 91 #[.slice ao L.length c] w fun e w' => e = .returned (.int .i64 (beNI L : Int)) ∧ ∃ k, w' = w.drewN k := by
  have HL : Hid (beNI L < 4294967296) := hide (by
    have h1 := beNI_lt L
    have h2 : 256 ^ L.length ≤ 256 ^ 4 := Nat.pow_le_pow_right (by omega) h4
    omega)
  go_enter Tryz.func91, Tryz.ntmps91
  go_wp2
  go_loopw [3, 8] (fun v i wr => ∃ m C : Nat, m ≤ L.length ∧ i = .int .i64 m ∧ v = .int .u32 (C : Int) ∧ C < 256 ^ m ∧ Hid (C = beNI (L.take m)) ∧ ∃ q, wr = w.drewN q) (fun _ i _ => L.length - (intOf i).toNat)
  case atStart => exact ⟨0, 0, by omega, rfl, rfl, by decide, hide rfl, 0, rfl⟩
  case round =>
    obtain ⟨m, C, hm, rfl, rfl, hC, HC, q, rfl⟩ := hrel
    by_cases hlt : m < L.length
    · obtain ⟨b, off, rfl, hc⟩ := hb.head (by omega)
      have c1 := hc m hlt
      have lo := at8_lo L m
      have hi := at8_hi L m
      have i1 : ((m : Nat) : Int) < ((L.length : Nat) : Int) := by omega
      clear hc hb
      have HO := hide (or_byteI C m L hC (by omega))
      have HN := hide (beNI_take L m hlt)
      have hC' : C * 256 + (L.getD m 0).toNat < 256 ^ (m + 1) := by
        have h4 := (L.getD m 0).toNat_lt
        rw [Nat.pow_succ]
        omega
      have HC' := hide hC'
      clear hC'
      go_wp2
      go_roundw
      case rel => exact ⟨m + 1, C * 256 + (L.getD m 0).toNat, by omega, by go_num, val_int (unhide HO), unhide HC', hide (by rw [unhide HN, ← unhide HC]), _, rfl⟩
      case measure => simp [intOf]; omega
    · have HE : Hid (C = beNI L) := hide (by rw [unhide HC, List.take_of_length_le (by omega)])
      have hC2 : (C : Int) < 4294967296 := by have h1 := unhide HL; rw [← unhide HE] at h1; omega
      clear hC
      go_wp2
      go_ret
      exact ⟨ret_int (by rw [← unhide HE]), _, rfl⟩
/-- The cells of an instruction. -/
def inA (p : Int) (op : Nat) (a b : Int) : Array Value := #[.int .i64 p, .int .u8 (op : Int), .int .i64 a, .int .i64 b]
/-- It lies in a block. -/
def IAt (W : World) (g : Nat) (p : Int) (op : Nat) (a b : Int) : Prop := W.heap[g]? = some (.cells #[.int .i64 p, .int .u8 (op : Int), .int .i64 a, .int .i64 b] 72 (0, 0))
theorem IAt.lt {W : World} {g : Nat} {p : Int} {op : Nat} {a b : Int} (h : IAt W g p op a b) : g < W.heap.size := (Array.getElem?_eq_some_iff.1 h).1
theorem IAt.below {W W' : World} {g : Nat} {p : Int} {op : Nat} {a b : Int} (h : IAt W g p op a b) (hb : Below W.heap.size W W') : IAt W' g p op a b := (hb.block g h.lt).trans h
theorem IAt.keep {W W' : World} {g k : Nat} {p : Int} {op : Nat} {a b : Int} (h : IAt W g p op a b) (hb : W.grownBy W' (some k)) (hne : g ≠ k) : IAt W' g p op a b := (hb.block g h.lt (by intro e; injection e with e; exact hne e)).trans h
theorem IAt.c {W : World} {g : Nat} {p : Int} {op : Nat} {a b : Int} (h : IAt W g p op a b) : W.cell? ⟨g, 1, none⟩ = some (.int .u8 (op : Int)) ∧ W.cell? ⟨g, 2, none⟩ = some (.int .i64 a) ∧ W.cell? ⟨g, 3, none⟩ = some (.int .i64 b) := by
  refine ⟨?_, ?_, ?_⟩
  · exact cell_of_row _ _ 1 _ _ _ h
  · exact cell_of_row _ _ 2 _ _ _ h
  · exact cell_of_row _ _ 3 _ _ _ h
theorem IAt.c0 {W : World} {g : Nat} {p : Int} {op : Nat} {a b : Int} (h : IAt W g p op a b) : W.cell? ⟨g, 0, none⟩ = some (.int .i64 p) := cell_of_row _ _ 0 _ _ _ h
theorem WidAt.keep {W W' : World} {k : Nat} (h : WidAt W) (hb : W.grownBy W' (some k)) (hne : 1 ≠ k) : WidAt W' := fun op ho => by
  have h1 := h op ho
  have hl := World.block_lt_of_cell? W _ h1.1
  have e := hb.block 1 hl (by intro e; injection e with e; exact hne e)
  exact ⟨by rw [← h1.1]; unfold World.cell?; rw [e], by rw [← h1.2]; unfold World.cell?; rw [e]⟩

/-- Encode's error and its bytes. -/
def eE (op : Nat) (a b : Int) : Int := if op < 34 then (if inD op a b then 0 else 5) else 40
def encL (op : Nat) (a b : Int) : List UInt8 := UInt8.ofNat op :: (beI a (wA op) ++ beI b (wB op))
def eL (op : Nat) (a b : Int) : List UInt8 := if eE op a b = 0 then encL op a b else []
theorem encL_length (op : Nat) (a b : Int) : (encL op a b).length = 1 + wA op + wB op := by simp [encL, beI_length]; omega

theorem laid2 (N A B : Nat) (x : UInt8) (a b : Int) (h : N = 1 + A + B) : laidI (laidI ((List.replicate N 0).set 0 x) 1 A a 0) (1 + A) B b 0 = x :: (beI a A ++ beI b B) := by
  subst h
  have e : (List.replicate (1 + A + B) (0 : UInt8)).set 0 x = x :: List.replicate (A + B) 0 := by
    rw [show 1 + A + B = (A + B) + 1 by omega, List.replicate_succ, List.set_cons_zero]
  unfold laidI
  rw [e]
  simp only [Nat.add_zero, List.drop_zero]
  have e1 : (x :: List.replicate (A + B) (0 : UInt8)).take 1 = [x] := rfl
  have e2 : (x :: List.replicate (A + B) (0 : UInt8)).drop (1 + A) = List.replicate B 0 := by
    rw [show 1 + A = A + 1 by omega, List.drop_succ_cons, List.drop_replicate, show A + B - A = B by omega]
  rw [e1, e2]
  have e3 : ([x] ++ (beI a A ++ List.replicate B 0)) = (x :: beI a A) ++ List.replicate B 0 := by simp
  rw [e3, List.take_append_of_le_length (by simp [beI_length]; omega), List.take_of_length_le (by simp [beI_length]; omega), List.drop_eq_nil_of_le (by simp [beI_length]; omega)]
  simp
theorem laidI_zero (L : List UInt8) (off : Nat) (n : Int) : laidI L off 0 n 0 = L := by
  unfold laidI
  simp [beI]
theorem cspread_at {w : World} {base g N cap : Nat} {L : List UInt8} (n : Int) (h : OwnB w base (.slice (some ⟨g, 0, none⟩) N cap) L) (hN : N = L.length) (x : Option Addr) (s c off : Nat) (hx : x = some ⟨g, 0, none⟩ ∨ x = some ⟨g, off, none⟩) (hx' : 0 < s → x = some ⟨g, off, none⟩) (hs : off + s ≤ L.length) (hs8 : s ≤ 8) :
    Calls Tryz.prog 85 #[.slice x s c, .int .i64 n] w fun e w' => e = .returned (.tuple #[]) ∧ OwnB w' base (.slice (some ⟨g, 0, none⟩) N cap) (laidI L off s n 0) ∧ w.grownBy w' (some g) := by
  cases s with
  | zero =>
    rw [laidI_zero]
    have k : ∀ o, o ≤ L.length → Calls Tryz.prog 85 #[.slice (some ⟨g, o, none⟩) 0 c, .int .i64 n] w fun e w' => e = .returned (.tuple #[]) ∧ OwnB w' base (.slice (some ⟨g, 0, none⟩) N cap) L ∧ w.grownBy w' (some g) := fun o ho => by
      have := cspread_any (off := o) (s := 0) (c := c) n h hN (by omega) (by omega)
      rw [laidI_zero] at this
      exact this
    rcases hx with rfl | rfl
    · exact k 0 (by omega)
    · exact k off (by omega)
  | succ s =>
    obtain rfl := hx' (by omega)
    exact cspread_any n h hN hs hs8

set_option maxHeartbeats 1000000 in
theorem Encode_any (p : Int) (op : Nat) (a b : Int) (w : World) (hW : WidAt w) (ho : op < 256) :
    Calls Tryz.prog 54 #[.agg #[.int .i64 p, .int .u8 (op : Int), .int .i64 a, .int .i64 b]] w fun e w' => ∃ v, e = .returned (.tuple #[v, .int .i64 (eE op a b)]) ∧ OwnB w' w.heap.size v (eL op a b) ∧ Below w.heap.size w w' := by
  obtain ⟨i0, hi, hz0, hz1, hz2⟩ := info_parts info8
  by_cases h34 : op < 34
  rotate_left
  · have HE : Hid (eE op a b = 40) := hide (by unfold eE; rw [if_neg h34])
    have HL : Hid (eL op a b = []) := hide (by unfold eL; rw [unhide HE]; rfl)
    have hd : decide (op < 34) = false := decide_eq_false h34
    clear h34
    go_enter Tryz.func54, Tryz.ntmps54
    go_wp2_with fail
    with_reducible refine (isOp_any op _).mono ?_
    rintro e w1 ⟨rfl, rfl⟩
    rw [hd]
    go_wp2
    go_ret2
    rw [unhide HE, unhide HL]
    exact ⟨_, rfl, World.ownsRow_nil _ _ _ _, by go_grown⟩
  have hd : decide (op < 34) = true := decide_eq_true h34
  cases hin : inD op a b
  · have HE : Hid (eE op a b = 5) := hide (by unfold eE; rw [if_pos h34, hin]; rfl)
    have HL : Hid (eL op a b = []) := hide (by unfold eL; rw [unhide HE]; rfl)
    have HIn := hide hin
    clear hin
    go_enter Tryz.func54, Tryz.ntmps54
    go_wp2_with fail
    with_reducible refine (isOp_any op _).mono ?_
    rintro e w1 ⟨rfl, rfl⟩
    rw [hd]
    clear hd
    go_wp2_with fail
    with_reducible refine (inSpans_any p op a b _ h34).mono ?_
    rintro e w1 ⟨rfl, hB⟩
    rw [unhide HIn]
    have HB := hide hB
    clear hB
    go_wp2
    go_ret2
    rw [unhide HE, unhide HL]
    exact ⟨_, rfl, World.ownsRow_nil _ _ _ _, ((Below.refl _ _).alloc (Nat.le_refl _) _).trans ((unhide HB).mono (by simp))⟩
  · have HE : Hid (eE op a b = 0) := hide (by unfold eE; rw [if_pos h34, hin]; rfl)
    have HL : Hid (eL op a b = encL op a b) := hide (by unfold eL; rw [unhide HE]; rfl)
    have HIn := hide hin
    clear hin
    go_enter Tryz.func54, Tryz.ntmps54
    go_wp2_with fail
    with_reducible refine (isOp_any op _).mono ?_
    rintro e w1 ⟨rfl, rfl⟩
    rw [hd]
    clear hd
    go_wp2_with fail
    with_reducible refine (inSpans_any p op a b _ h34).mono ?_
    rintro e w1 ⟨rfl, hB⟩
    rw [unhide HIn]
    have H0 : Hid (IAt (w.alloc (.cells #[.int .i64 p, .int .u8 (op : Int), .int .i64 a, .int .i64 b] 72)) w.heap.size p op a b) := hide (heap_alloc_new w _)
    have H1 := hide ((unhide H0).below hB)
    have HB1 : Hid (Below w.heap.size w w1) := hide (((Below.refl _ _).alloc (Nat.le_refl _) _).trans (hB.mono (by simp)))
    have HW1 : Hid (WidAt w1) := hide (hW.below (unhide HB1))
    clear hB H0
    obtain ⟨c1, c2, c3⟩ := (unhide H1).c
    have HN : Hid (sizeD op = 1 + wA op + wB op) := hide (by unfold sizeD; rw [if_pos h34])
    have la := wA_le op h34
    have lb := wB_le op h34
    go_wp2_with fail
    with_reducible refine (Size_any op w1 (unhide HW1) ho).mono ?_
    rintro e w2 ⟨rfl, k2, rfl⟩
    have HO8 : Hid ((UInt8.ofNat op).toNat = op) := hide (by rw [UInt8.toNat_ofNat_of_lt' (by show _ < 256; omega)])
    obtain ⟨N, hN⟩ : ∃ N, N = sizeD op := ⟨_, rfl⟩
    rw [← hN] at HN ⊢
    have HW2 : Hid (WidAt (w1.drewN k2)) := hide ((unhide HW1).drewN k2)
    have H2 : Hid (IAt (w1.drewN k2) w.heap.size p op a b) := hide (unhide H1)
    have HB2 : Hid (Below w.heap.size w (w1.drewN k2)) := hide (belowD (unhide HB1) _)
    clear hN H1 HW1 HB1 c1 c2 c3 hW
    generalize w1.drewN k2 = w2 at HW2 H2 HB2 ⊢
    clear w1 k2
    have hN0 : 0 < N := by have := unhide HN; omega
    have hN6 : N ≤ 6 := by have := unhide HN; omega
    have hNA : 1 + wA op ≤ N := by have := unhide HN; omega
    have hgl : w.heap.size < w2.heap.size := (unhide H2).lt
    go_wp2_with (refine wpList_make_full _ rfl _ _ 22 rfl w2.heap.size 5 i0 (.int .u8 0) 1 Tryz.underlying22 hi hz0 hz1 .i64 .i64 _ _ N rfl rfl rfl rfl (by rw [hz2]; omega) (by unfold maxLen; omega) (Nat.le_refl _) ?_)
    intro w3 hown hgr
    have hz : (madeCells #[Value.int .u8 0] N).toList = bvals (List.replicate N 0) := by rw [toList_madeCells_one]; simp [bvals]
    rw [hz] at hown
    have hB3 : Below w2.heap.size w2 w3 := below_grown hgr (Nat.le_refl _) (fun k e => by cases e)
    have H3 := hide ((unhide H2).below hB3)
    have HW3 := hide ((unhide HW2).below hB3)
    have HB3 := hide ((unhide HB2).trans (hB3.mono (by omega)))
    obtain ⟨g, hg⟩ : ∃ g, g = w2.heap.size := ⟨_, rfl⟩
    rw [← hg] at hown hgl ⊢
    have hgw : 1 < g := by rw [hg]; exact World.block_lt_of_cell? w2 _ ((unhide HW2) op h34).1
    clear hz hgr H2 HW2 HB2 hB3 hg w2
    have c0 := hown.cellAt 0 (by omega)
    rw [bvals_get (by rw [List.length_replicate]; omega)] at c0
    have f0 := hown.frozenAt 0
    have hst := hown.stored 0 (.int .u8 (op : Int))
    rw [← unhide HO8, bvals_setI, unhide HO8] at hst
    have HO : Hid (OwnB (w3.setCell ⟨g, 0, none⟩ (.int .u8 (op : Int))) g (.slice (some ⟨g, 0, none⟩) N N) ((List.replicate N 0).set 0 (UInt8.ofNat op))) := hide (by
      unfold OwnB
      rw [List.length_set, List.length_replicate]
      exact hst.1)
    have H4 := hide ((unhide H3).keep hst.2 (by omega))
    have HW4 := hide ((unhide HW3).keep hst.2 (by omega))
    have HB4 : Hid (Below w.heap.size w (w3.setCell ⟨g, 0, none⟩ (.int .u8 (op : Int)))) := hide ((unhide HB3).trans (below_grown hst.2 (unhide HB3).size (fun k e => by injection e with e; omega)))
    obtain ⟨d1, d2, d3⟩ := (unhide H3).c
    obtain ⟨e1, e2, e3⟩ := (unhide H4).c
    obtain ⟨x1, x2⟩ := (unhide HW4) op h34
    clear hst hown H3 HW3 HB3
    have i1 : ((op : Nat) : Int) < 34 := by omega
    have i0 : (0 : Int) ≤ ((op : Nat) : Int) := by omega
    go_wp2_with fail
    clear c0 f0 d1 d2 d3 x1 x2 e1
    generalize w3.setCell ⟨g, 0, none⟩ (.int .u8 (op : Int)) = w4 at HO H4 HW4 HB4 e2 e3 ⊢
    clear w3
    have HNA : Hid (1 + wA op + wB op = N) := hide (unhide HN).symm
    obtain ⟨A, HAA⟩ : ∃ A, Hid (wA op = A) := ⟨_, hide rfl⟩
    rw [unhide HAA] at la hNA HNA ⊢
    have hn1 : (1 + (A : Int)).toNat - 1 = A := by omega
    have hn2 : N - (1 + (A : Int)).toNat = wB op := by have := unhide HNA; omega
    have hif : ∀ q : Nat, (if N = q then some (⟨g, 0, none⟩ : Addr) else some ⟨g, q, none⟩) = some ⟨g, 0, none⟩ ∨ (if N = q then some (⟨g, 0, none⟩ : Addr) else some ⟨g, q, none⟩) = some ⟨g, q, none⟩ := fun q => by split <;> simp
    have SP : Hid _ := hide (cspread_at (w := w4.drew) a (show OwnB w4.drew g (.slice (some ⟨g, 0, none⟩) N N) _ from unhide HO) (by simp) (if N = 1 then some ⟨g, 0, none⟩ else some ⟨g, 1, none⟩) ((1 + (A : Int)).toNat - 1) (N - 1) 1 (hif 1) (fun h => by rw [if_neg (by omega)]) (by rw [hn1]; simp; omega) (by omega))
    have e2' : w4.drew.cell? ⟨w.heap.size, 2, none⟩ = some (.int .i64 a) := e2
    have j1 : (1 : Int) ≤ 1 + (A : Int) := by omega
    have j2 : 1 + (A : Int) ≤ (N : Int) := by omega
    have j3 : (0 : Int) ≤ 1 + (A : Int) := by omega
    have HH := hide hn1
    have HH2 := hide hn2
    have HIF := hide hif
    clear hn1 hn2 hif
    go_region_with (go_at_call 85; with_reducible refine (unhide SP).mono ?_; rintro e w5 ⟨rfl, hO5, hG5⟩; clear SP; generalize (if N = 1 then some (⟨g, 0, none⟩ : Addr) else some ⟨g, 1, none⟩) = X)
    clear e2'
    rw [unhide HH] at hO5
    have H5 := hide ((show IAt w4.drew w.heap.size p op a b from unhide H4).keep hG5 (by omega))
    have HB5 : Hid (Below w.heap.size w w5) := hide ((show Below w.heap.size w w4.drew from belowD (unhide HB4) 1).trans (below_grown hG5 (unhide HB4).size (fun k e => by injection e with e; omega)))
    clear H4 HB4 HO hG5 HW4 e2 e3 w4
    obtain ⟨y1, y2, y3⟩ := (unhide H5).c
    go_wp2_with fail
    obtain ⟨M, hM⟩ : ∃ M : Nat, M = 1 + A := ⟨_, rfl⟩
    rw [show (1 + (A : Int)) = (M : Int) by omega]
    have hll : (laidI ((List.replicate N 0).set 0 (UInt8.ofNat op)) 1 A a 0).length = N := by rw [laidI_length _ _ _ _ _ (by omega) (by simp; omega)]; simp
    have SP : Hid _ := hide (cspread_at (w := w5.drew) b (show OwnB w5.drew g (.slice (some ⟨g, 0, none⟩) N N) _ from hO5) hll.symm (if N = M then some ⟨g, 0, none⟩ else some ⟨g, M, none⟩) (N - M) (N - M) M ((unhide HIF) M) (fun h => by rw [if_neg (by omega)]) (by rw [hll]; omega) (by omega))
    have e2' : w5.drew.cell? ⟨w.heap.size, 3, none⟩ = some (.int .i64 b) := y3
    have k2 : (M : Int) ≤ (N : Int) := by omega
    have HM := hide hM
    clear hM hll hNA j1 j2 j3 hO5
    go_region_with (go_at_call 85; with_reducible refine (unhide SP).mono ?_; rintro e w6 ⟨rfl, hO6, hG6⟩; clear SP; generalize (if N = M then some (⟨g, 0, none⟩ : Addr) else some ⟨g, M, none⟩) = X')
    have HB6 : Hid (Below w.heap.size w w6) := hide ((show Below w.heap.size w w5.drew from belowD (unhide HB5) 1).trans (below_grown hG6 (unhide HB5).size (fun k e => by injection e with e; omega)))
    have HF : Hid (laidI (laidI ((List.replicate N 0).set 0 (UInt8.ofNat op)) 1 A a 0) M (N - M) b 0 = encL op a b) := hide (by
      have hA : wA op = A := unhide HAA
      have hB : N - M = wB op := by have := unhide HM; have := unhide HNA; omega
      rw [hB, unhide HM]
      unfold encL
      rw [hA]
      exact laid2 _ _ _ _ _ _ (by rw [← unhide HNA]))
    rw [unhide HF] at hO6
    have HO6 : Hid (OwnB w6 w.heap.size (.slice (some ⟨g, 0, none⟩) N N) (encL op a b)) := hide (hO6.mono (by omega))
    clear hO6 hG6 HB5 H5 y1 y2 y3 e2' w5
    go_wp2
    go_ret2
    rw [unhide HE, unhide HL]
    exact ⟨_, rfl, unhide HO6, unhide HB6⟩
theorem beI_take (n : Int) (s j : Nat) (h : j < s) : (beI n s).take (j + 1) = (beI n s).take j ++ [byI n (s - 1 - j)] := by
  have h2 : j < (beI n s).length := by rw [beI_length]; exact h
  have := beI_get n s j h
  rw [List.getElem?_eq_getElem h2] at this
  injection this with this
  rw [List.take_succ_eq_append_getElem h2, this]
theorem byM (n : Int) (M q : Nat) (h : (M : Int) = n ∨ (M : Int) = n + 4294967296) (hq : q < 4) : ((M / 256 ^ q % 256 : Nat) : Int) = ((byI n q).toNat : Int) := by
  rw [byI_eq]
  rcases (show q = 0 ∨ q = 1 ∨ q = 2 ∨ q = 3 by omega) with rfl | rfl | rfl | rfl
  all_goals
    simp only [Nat.reducePow, Int.reducePow]
    omega

set_option maxHeartbeats 1000000 in
theorem fits_any (n : Int) (k : Nat) (w : World) : Calls Tryz.prog 88 #[.int .i64 n, .int .i64 (k : Int)] w fun e w' => e = .returned (.bool (fitD n k)) ∧ ∃ q, w' = w.drewN q := by
  by_cases h0 : k = 0
  · subst h0
    go_enter Tryz.func88, Tryz.ntmps88
    go_wp2
    go_ret
    exact ⟨ret_bool (by simp [fitD]; rfl), 0, rfl⟩
  by_cases h1 : k = 1
  · subst h1
    by_cases hlo : (0 : Int) ≤ n
    · have d : decide ((0 : Int) ≤ n) = true := decide_eq_true hlo
      go_enter Tryz.func88, Tryz.ntmps88
      go_wp2
      go_ret
      exact ⟨ret_bool (by simp [fitD, d]), 0, rfl⟩
    · have d : decide ((0 : Int) ≤ n) = false := decide_eq_false hlo
      clear hlo
      go_enter Tryz.func88, Tryz.ntmps88
      go_wp2
      go_ret
      exact ⟨ret_bool (by simp [fitD, d]), 0, rfl⟩
  by_cases h2 : k = 2
  · subst h2
    by_cases hlo : (0 : Int) ≤ n
    · have d : decide ((0 : Int) ≤ n) = true := decide_eq_true hlo
      go_enter Tryz.func88, Tryz.ntmps88
      go_wp2
      go_ret
      exact ⟨ret_bool (by simp [fitD, d]), 0, rfl⟩
    · have d : decide ((0 : Int) ≤ n) = false := decide_eq_false hlo
      clear hlo
      go_enter Tryz.func88, Tryz.ntmps88
      go_wp2
      go_ret
      exact ⟨ret_bool (by simp [fitD, d]), 0, rfl⟩
  have e0 : (((k : Nat) : Int) == 0) = false := beq_f (by omega)
  have e1 : (((k : Nat) : Int) == 1) = false := beq_f (by omega)
  have e2 : (((k : Nat) : Int) == 2) = false := beq_f (by omega)
  by_cases hlo : (-2147483648 : Int) ≤ n
  · have d : decide ((-2147483648 : Int) ≤ n) = true := decide_eq_true hlo
    go_enter Tryz.func88, Tryz.ntmps88
    go_wp2
    go_ret
    exact ⟨ret_bool (by simp [fitD, d, h0, h1, h2]), 0, rfl⟩
  · have d : decide ((-2147483648 : Int) ≤ n) = false := decide_eq_false hlo
    clear hlo
    go_enter Tryz.func88, Tryz.ntmps88
    go_wp2
    go_ret
    exact ⟨ret_bool (by simp [fitD, d, h0, h1, h2]), 0, rfl⟩

set_option maxHeartbeats 2000000 in
theorem refPut_any {w : World} {base : Nat} {v : Value} {l : List UInt8} (hb : OwnB w base v l) (hbase : base ≤ w.heap.size) (n : Int) (s : Nat) (hs : s ≤ 4) (hn1 : -2147483648 ≤ n) (hn2 : n ≤ 2147483647) (hl : l.length ≤ 1000) :
    Calls Tryz.prog 89 #[v, .int .i64 n, .int .i64 (s : Int)] w fun e w' => ∃ v', e = .returned v' ∧ OwnB w' base v' (l ++ beI n s) ∧ Below base w w' := by
  have HB := hide hb
  have HL := hide hl
  have HBS := hide hbase
  clear hb hl hbase
  by_cases hneg : n < 0
  · obtain ⟨M, hM⟩ : ∃ M : Nat, (M : Int) = n + 4294967296 := ⟨(n + 4294967296).toNat, by omega⟩
    have HM : Hid ((M : Int) = n ∨ (M : Int) = n + 4294967296) := hide (by omega)
    have HMM := hide hM
    have hM9 : M < 4294967296 := by omega
    clear hM
    go_enter Tryz.func89, Tryz.ntmps89
    go_wp2
    clear hneg hn1 hn2
    go_loopw [0, 7] (fun v i wr => ∃ k : Nat, k ≤ s ∧ i = .int .i64 ((k : Int) - 1) ∧ Hid (OwnB wr base v (l ++ (beI n s).take (s - k))) ∧ Hid (Below base w wr)) (fun _ i _ => (intOf i + 1).toNat)
    case atStart => exact ⟨s, Nat.le_refl _, rfl, hide (by simpa using unhide HB), hide (Below.refl _ _)⟩
    case round =>
      obtain ⟨k, hk, rfl, HO, HW⟩ := hrel
      cases k with
      | zero =>
        have HO' : Hid (OwnB wr base u0 (l ++ beI n s)) := hide (by
          have := unhide HO
          rw [List.take_of_length_le (by rw [beI_length]; omega)] at this
          exact this)
        clear HO
        go_wp2
        go_ret
        exact ⟨_, rfl, unhide HO', unhide HW⟩
      | succ q =>
        rw [show (((q + 1 : Nat) : Int) - 1) = (q : Int) from by omega]
        have hq4 : q < 4 := by omega
        go_wp2
        go_loop [8, 9] (fun kv j => ∃ jj : Nat, jj ≤ q ∧ j = .int .i64 (jj : Int) ∧ kv = .int .i64 ((M / 256 ^ jj : Nat) : Int)) (fun _ j => q - (intOf j).toNat)
        case atStart => exact ⟨0, by omega, rfl, val_int (by rw [Nat.pow_zero, Nat.div_one]; exact (unhide HMM).symm)⟩
        case round =>
          obtain ⟨jj, hj, rfl, rfl⟩ := hrel
          have HDD : Hid (M / 256 ^ jj / 256 = M / 256 ^ (jj + 1)) := hide (by rw [Nat.div_div_eq_div_mul, Nat.pow_succ])
          have hD : M / 256 ^ jj ≤ M := Nat.div_le_self _ _
          obtain ⟨D, HD⟩ : ∃ D, Hid (M / 256 ^ jj = D) := ⟨_, hide rfl⟩
          rw [unhide HD] at hD ⊢
          by_cases hlt : jj < q
          · have i1 : ((jj : Nat) : Int) < ((q : Nat) : Int) := by omega
            go_wp2
            go_round
            case rel => exact ⟨jj + 1, by omega, by go_num, val_int (by rw [← unhide HDD, unhide HD]; rfl)⟩
            case measure => simp [intOf]; omega
          · obtain rfl : jj = q := by omega
            clear HDD hlt hj
            have HA2 : Hid (l ++ (beI n s).take (s - jj) = l ++ (beI n s).take (s - (jj + 1)) ++ [byI n jj]) := hide (by
              rw [List.append_assoc]
              rw [show s - jj = (s - (jj + 1)) + 1 from by omega, beI_take n s (s - (jj + 1)) (by omega), show s - 1 - (s - (jj + 1)) = jj from by omega])
            obtain ⟨R, x, HR, HX2⟩ : ∃ R x, Hid (l ++ (beI n s).take (s - (jj + 1)) = R) ∧ Hid (byI n jj = x) := ⟨_, _, hide rfl, hide rfl⟩
            rw [unhide HR] at HO
            have HBX : Hid ((D : Int) % 256 = (x.toNat : Int)) := hide (by
              have := byM n M jj (unhide HM) hq4
              rw [unhide HD] at this
              rw [← unhide HX2, ← this]
              omega)
            have hRL : R.length ≤ 1004 := by
              have := unhide HL
              rw [← unhide HR, List.length_append, List.length_take, beI_length]; omega
            have hbw : base ≤ wr.heap.size := Nat.le_trans (unhide HBS) (unhide HW).size
            go_wp2_with (at_builtin; refine wpList_appendB rfl _ _ rfl base _ R rfl ((unhide HO).below ((Below.refl _ wr).alloc (Nat.le_refl _) _)) _ [x] rfl (.inr ⟨_, _, rfl, BAt.one wr x _ (unhide HBX) _⟩) ?a3 ?a4 ?_)
            case a3 => (try simp); omega
            case a4 => (try simp); omega
            · intro v' w2 hO2 hG2 hF2 hN2
              rw [← unhide HR, ← unhide HX2, ← unhide HA2] at hO2
              have HO2 := hide hO2
              have HB2 : Hid (Below base w w2) := hide (((unhide HW).alloc hbw _).grown hG2 (by simp; omega) (fun y e => ((unhide HO).lt y e).1))
              clear hG2 hF2 hN2 hO2 hRL
              go_wp2
              go_roundw
              case rel => exact ⟨jj, by omega, by go_num, HO2, HB2⟩
              case measure => simp [intOf]
  · obtain ⟨M, hM⟩ : ∃ M : Nat, (M : Int) = n := ⟨(n).toNat, by omega⟩
    have HM : Hid ((M : Int) = n ∨ (M : Int) = n + 4294967296) := hide (by omega)
    have HMM := hide hM
    have hM9 : M < 4294967296 := by omega
    clear hM
    go_enter Tryz.func89, Tryz.ntmps89
    go_wp2
    clear hneg hn1 hn2
    go_loopw [0, 7] (fun v i wr => ∃ k : Nat, k ≤ s ∧ i = .int .i64 ((k : Int) - 1) ∧ Hid (OwnB wr base v (l ++ (beI n s).take (s - k))) ∧ Hid (Below base w wr)) (fun _ i _ => (intOf i + 1).toNat)
    case atStart => exact ⟨s, Nat.le_refl _, rfl, hide (by simpa using unhide HB), hide (Below.refl _ _)⟩
    case round =>
      obtain ⟨k, hk, rfl, HO, HW⟩ := hrel
      cases k with
      | zero =>
        have HO' : Hid (OwnB wr base u0 (l ++ beI n s)) := hide (by
          have := unhide HO
          rw [List.take_of_length_le (by rw [beI_length]; omega)] at this
          exact this)
        clear HO
        go_wp2
        go_ret
        exact ⟨_, rfl, unhide HO', unhide HW⟩
      | succ q =>
        rw [show (((q + 1 : Nat) : Int) - 1) = (q : Int) from by omega]
        have hq4 : q < 4 := by omega
        go_wp2
        go_loop [8, 9] (fun kv j => ∃ jj : Nat, jj ≤ q ∧ j = .int .i64 (jj : Int) ∧ kv = .int .i64 ((M / 256 ^ jj : Nat) : Int)) (fun _ j => q - (intOf j).toNat)
        case atStart => exact ⟨0, by omega, rfl, val_int (by rw [Nat.pow_zero, Nat.div_one]; exact (unhide HMM).symm)⟩
        case round =>
          obtain ⟨jj, hj, rfl, rfl⟩ := hrel
          have HDD : Hid (M / 256 ^ jj / 256 = M / 256 ^ (jj + 1)) := hide (by rw [Nat.div_div_eq_div_mul, Nat.pow_succ])
          have hD : M / 256 ^ jj ≤ M := Nat.div_le_self _ _
          obtain ⟨D, HD⟩ : ∃ D, Hid (M / 256 ^ jj = D) := ⟨_, hide rfl⟩
          rw [unhide HD] at hD ⊢
          by_cases hlt : jj < q
          · have i1 : ((jj : Nat) : Int) < ((q : Nat) : Int) := by omega
            go_wp2
            go_round
            case rel => exact ⟨jj + 1, by omega, by go_num, val_int (by rw [← unhide HDD, unhide HD]; rfl)⟩
            case measure => simp [intOf]; omega
          · obtain rfl : jj = q := by omega
            clear HDD hlt hj
            have HA2 : Hid (l ++ (beI n s).take (s - jj) = l ++ (beI n s).take (s - (jj + 1)) ++ [byI n jj]) := hide (by
              rw [List.append_assoc]
              rw [show s - jj = (s - (jj + 1)) + 1 from by omega, beI_take n s (s - (jj + 1)) (by omega), show s - 1 - (s - (jj + 1)) = jj from by omega])
            obtain ⟨R, x, HR, HX2⟩ : ∃ R x, Hid (l ++ (beI n s).take (s - (jj + 1)) = R) ∧ Hid (byI n jj = x) := ⟨_, _, hide rfl, hide rfl⟩
            rw [unhide HR] at HO
            have HBX : Hid ((D : Int) % 256 = (x.toNat : Int)) := hide (by
              have := byM n M jj (unhide HM) hq4
              rw [unhide HD] at this
              rw [← unhide HX2, ← this]
              omega)
            have hRL : R.length ≤ 1004 := by
              have := unhide HL
              rw [← unhide HR, List.length_append, List.length_take, beI_length]; omega
            have hbw : base ≤ wr.heap.size := Nat.le_trans (unhide HBS) (unhide HW).size
            go_wp2_with (at_builtin; refine wpList_appendB rfl _ _ rfl base _ R rfl ((unhide HO).below ((Below.refl _ wr).alloc (Nat.le_refl _) _)) _ [x] rfl (.inr ⟨_, _, rfl, BAt.one wr x _ (unhide HBX) _⟩) ?a3 ?a4 ?_)
            case a3 => (try simp); omega
            case a4 => (try simp); omega
            · intro v' w2 hO2 hG2 hF2 hN2
              rw [← unhide HR, ← unhide HX2, ← unhide HA2] at hO2
              have HO2 := hide hO2
              have HB2 : Hid (Below base w w2) := hide (((unhide HW).alloc hbw _).grown hG2 (by simp; omega) (fun y e => ((unhide HO).lt y e).1))
              clear hG2 hF2 hN2 hO2 hRL
              go_wp2
              go_roundw
              case rel => exact ⟨jj, by omega, by go_num, HO2, HB2⟩
              case measure => simp [intOf]
theorem inD_fits : ∀ op : Nat, op < 34 → ∀ a b : Int, inD op a b = (fitD a (wA op) && fitD b (wB op) && !(decide (op = 2) && decide (1 < a))) := by
  refine cases34 ?_ ?_ ?_ ?_ ?_ ?_ ?_ ?_ ?_ ?_ ?_ ?_ ?_ ?_ ?_ ?_ ?_ ?_ ?_ ?_ ?_ ?_ ?_ ?_ ?_ ?_ ?_ ?_ ?_ ?_ ?_ ?_ ?_ ?_
  all_goals
    intro a b
    rw [Bool.eq_iff_iff]
    simp [inD, fitD, loA, hiA, hiB, wA, wB]
    try omega
theorem fitD_le (n : Int) (k : Nat) (h : fitD n k = true) : -2147483648 ≤ n ∧ n ≤ 2147483647 := by
  unfold fitD at h
  split at h
  · simp at h; omega
  · split at h
    · simp at h; omega
    · split at h
      · simp at h; omega
      · simp at h; omega

theorem own_one (w : World) (x : UInt8) (z : Int) (hz : z = (x.toNat : Int)) (base : Nat) (hb : base ≤ w.heap.size) : OwnB (w.alloc (.cells #[.int .u8 z] 5)) base (.slice (some ⟨w.heap.size, 0, none⟩) 1 1) [x] := by
  subst hz
  exact ⟨by simp [bvals], .inr ⟨w.heap.size, 1, #[.int .u8 (x.toNat : Int)], rfl, hb, heap_alloc_new w _, Nat.le_refl _, by decide, rfl, by simp [bvals]⟩⟩

set_option maxHeartbeats 2000000 in
theorem refEncode_any (p : Int) (op : Nat) (a b : Int) (w : World) (ho : op < 256) :
    Calls Tryz.prog 58 #[.agg #[.int .i64 p, .int .u8 (op : Int), .int .i64 a, .int .i64 b]] w fun e w' => ∃ v, e = .returned (.tuple #[v, .int .i64 (eE op a b)]) ∧ OwnB w' w.heap.size v (eL op a b) ∧ Below w.heap.size w w' := by
  by_cases h34 : op < 34
  rotate_left
  · have HE : Hid (eE op a b = 40) := hide (by unfold eE; rw [if_neg h34])
    have HL : Hid (eL op a b = []) := hide (by unfold eL; rw [unhide HE]; rfl)
    have HS : Hid (sizeD op = 0) := hide (by unfold sizeD; rw [if_neg h34])
    clear h34
    go_enter Tryz.func58, Tryz.ntmps58
    go_wp2_with fail
    with_reducible refine (refSize_any op _).mono ?_
    rintro e w1 ⟨rfl, rfl⟩
    rw [unhide HS]
    go_wp2
    go_ret2
    rw [unhide HE, unhide HL]
    exact ⟨_, rfl, World.ownsRow_nil _ _ _ _, by go_grown⟩
  have HS : Hid ((((sizeD op : Nat) : Int) == 0) = false) := hide (by unfold sizeD; rw [if_pos h34]; exact beq_f (by omega))
  have HF := hide (inD_fits op h34 a b)
  have la := wA_le op h34
  have lb := wB_le op h34
  go_enter Tryz.func58, Tryz.ntmps58
  go_wp2_with fail
  with_reducible refine (refSize_any op _).mono ?_
  rintro e w1 ⟨rfl, rfl⟩
  have hS := unhide HS
  clear HS
  go_wp2_with fail
  with_reducible refine (refWide_any op _ h34).mono ?_
  rintro e w1 ⟨rfl, rfl⟩
  clear hS
  have HW0 : Hid (IAt (w.alloc (.cells #[.int .i64 p, .int .u8 (op : Int), .int .i64 a, .int .i64 b] 72)) w.heap.size p op a b) := hide (heap_alloc_new w _)
  have HB0 : Hid (Below w.heap.size w (w.alloc (.cells #[.int .i64 p, .int .u8 (op : Int), .int .i64 a, .int .i64 b] 72))) := hide ((Below.refl _ _).alloc (Nat.le_refl _) _)
  go_wp2_with fail
  generalize w.alloc (.cells #[.int .i64 p, .int .u8 (op : Int), .int .i64 a, .int .i64 b] 72) = w0 at HW0 HB0 ⊢
  obtain ⟨c1, c2, c3⟩ := (unhide HW0).c
  with_reducible refine (fits_any a (wA op) _).mono ?_
  rintro e w1 ⟨rfl, k1, rfl⟩
  cases f1 : fitD a (wA op)
  · have HE : Hid (eE op a b = 5) := hide (by unfold eE; rw [if_pos h34, unhide HF, f1]; simp)
    have HL : Hid (eL op a b = []) := hide (by unfold eL; rw [unhide HE]; rfl)
    clear f1
    go_wp2
    go_ret2
    rw [unhide HE, unhide HL]
    exact ⟨_, rfl, World.ownsRow_nil _ _ _ _, belowD (unhide HB0) _⟩
  have F1 := hide f1
  clear f1
  go_wp2_with fail
  with_reducible refine (fits_any b (wB op) _).mono ?_
  rintro e w1 ⟨rfl, k2, rfl⟩
  cases f2 : fitD b (wB op)
  · have HE : Hid (eE op a b = 5) := hide (by unfold eE; rw [if_pos h34, unhide HF, f2]; simp)
    have HL : Hid (eL op a b = []) := hide (by unfold eL; rw [unhide HE]; rfl)
    clear f2
    go_wp2
    go_ret2
    rw [unhide HE, unhide HL]
    exact ⟨_, rfl, World.ownsRow_nil _ _ _ _, belowD (unhide HB0) _⟩
  have F2 := hide f2
  clear f2
  have HW1 : Hid (IAt ((w0.drewN k1).drewN k2) w.heap.size p op a b) := hide (unhide HW0)
  have HB1 : Hid (Below w.heap.size w ((w0.drewN k1).drewN k2)) := hide (belowD (belowD (unhide HB0) _) _)
  generalize (w0.drewN k1).drewN k2 = w1 at HW1 HB1 ⊢
  clear HW0 HB0 c1 c2 c3 w0 k1 k2
  obtain ⟨c1, c2, c3⟩ := (unhide HW1).c
  by_cases hbad : op = 2 ∧ 1 < a
  · have HE : Hid (eE op a b = 5) := hide (by unfold eE; rw [if_pos h34, unhide HF, decide_eq_true hbad.1, decide_eq_true hbad.2]; simp)
    have HL : Hid (eL op a b = []) := hide (by unfold eL; rw [unhide HE]; rfl)
    have d2 : (((op : Nat) : Int) == 2) = true := beq_t (by omega)
    have d3 : decide (1 < a) = true := decide_eq_true hbad.2
    clear hbad
    go_wp2
    go_ret2
    rw [unhide HE, unhide HL]
    exact ⟨_, rfl, World.ownsRow_nil _ _ _ _, unhide HB1⟩
  have hok : (decide (op = 2) && decide (1 < a)) = false := by
    rw [Bool.and_eq_false_iff]
    by_cases h : op = 2
    · right; exact decide_eq_false (fun h' => hbad ⟨h, h'⟩)
    · left; exact decide_eq_false h
  have HE : Hid (eE op a b = 0) := hide (by unfold eE; rw [if_pos h34, unhide HF, hok, unhide F1, unhide F2]; simp)
  have HL : Hid (eL op a b = encL op a b) := hide (by unfold eL; rw [unhide HE]; rfl)
  have ra := hide (fitD_le _ _ (unhide F1))
  have rb := hide (fitD_le _ _ (unhide F2))
  have hd : (((op : Nat) : Int) == 2) = false ∨ ((((op : Nat) : Int) == 2) = true ∧ decide (1 < a) = false) := by
    by_cases h : op = 2
    · right; exact ⟨beq_t (by omega), decide_eq_false (fun h' => hbad ⟨h, h'⟩)⟩
    · left; exact beq_f (by omega)
  clear hbad hok
  have HX8 : Hid (((op : Nat) : Int) = ((UInt8.ofNat op).toNat : Int)) := hide (by rw [UInt8.toNat_ofNat_of_lt' (by show _ < 256; omega)])
  have main : ∀ w2 : World, Below w1.heap.size w1 w2 → w2.heap.size = w1.heap.size → True := fun _ _ _ => trivial
  clear main
  rcases hd with d2 | ⟨d2, d3⟩
  · have HA1 : Hid (Below w1.heap.size w1 (w1.alloc (.cells #[.int .u8 (op : Int)] 5))) := hide ((Below.refl _ _).alloc (Nat.le_refl _) _)
    have HO1 : Hid (OwnB (w1.alloc (.cells #[.int .u8 (op : Int)] 5)) w1.heap.size (.slice (some ⟨w1.heap.size, 0, none⟩) 1 1) [UInt8.ofNat op]) := hide (own_one w1 _ _ (unhide HX8) _ (Nat.le_refl _))
    have hlt := (unhide HW1).lt
    have hsz := (unhide HB1).size
    have HW2 := hide ((unhide HW1).below (unhide HA1))
    have HB2 : Hid (Below w.heap.size w (w1.alloc (.cells #[.int .u8 (op : Int)] 5))) := hide ((unhide HB1).trans ((unhide HA1).mono (unhide HB1).size))
    obtain ⟨x1, x2, x3⟩ := (unhide HW2).c
    have PC : Hid _ := hide (refPut_any (unhide HO1) (by simp) a (wA op) la (unhide ra).1 (unhide ra).2 (by simp))
    go_wp2_with fail
    with_reducible refine (unhide PC).mono ?_
    rintro e w3 ⟨v, rfl, hO3, hB3⟩
    have H3 : Hid (IAt w3 w.heap.size p op a b) := hide ((hB3.block _ hlt).trans (unhide HW2))
    have HB3 : Hid (Below w.heap.size w w3) := hide ((unhide HB2).trans (hB3.mono hsz))
    have hs3 : w1.heap.size ≤ w3.heap.size := by have := hB3.size; simp at this; omega
    clear PC hB3 HB2 HW2 x1 x2 x3
    obtain ⟨x1, x2, x3⟩ := (unhide H3).c
    have PC : Hid _ := hide (refPut_any hO3 hs3 b (wB op) (by omega) (unhide rb).1 (unhide rb).2 (by simp [beI_length]; omega))
    clear hO3
    go_wp2_with fail
    with_reducible refine (unhide PC).mono ?_
    rintro e w4 ⟨v', rfl, hO4, hB4⟩
    have HO4 : Hid (OwnB w4 w.heap.size v' (encL op a b)) := hide (by
      have := hO4.mono hsz
      rw [List.append_assoc] at this
      exact this)
    have HB4 : Hid (Below w.heap.size w w4) := hide ((unhide HB3).trans (hB4.mono hsz))
    clear PC hO4 hB4
    go_wp2
    go_ret2
    rw [unhide HE, unhide HL]
    exact ⟨_, rfl, unhide HO4, unhide HB4⟩
  · have HA1 : Hid (Below w1.heap.size w1 (w1.alloc (.cells #[.int .u8 (op : Int)] 5))) := hide ((Below.refl _ _).alloc (Nat.le_refl _) _)
    have HO1 : Hid (OwnB (w1.alloc (.cells #[.int .u8 (op : Int)] 5)) w1.heap.size (.slice (some ⟨w1.heap.size, 0, none⟩) 1 1) [UInt8.ofNat op]) := hide (own_one w1 _ _ (unhide HX8) _ (Nat.le_refl _))
    have hlt := (unhide HW1).lt
    have hsz := (unhide HB1).size
    have HW2 := hide ((unhide HW1).below (unhide HA1))
    have HB2 : Hid (Below w.heap.size w (w1.alloc (.cells #[.int .u8 (op : Int)] 5))) := hide ((unhide HB1).trans ((unhide HA1).mono (unhide HB1).size))
    obtain ⟨x1, x2, x3⟩ := (unhide HW2).c
    have PC : Hid _ := hide (refPut_any (unhide HO1) (by simp) a (wA op) la (unhide ra).1 (unhide ra).2 (by simp))
    go_wp2_with fail
    with_reducible refine (unhide PC).mono ?_
    rintro e w3 ⟨v, rfl, hO3, hB3⟩
    have H3 : Hid (IAt w3 w.heap.size p op a b) := hide ((hB3.block _ hlt).trans (unhide HW2))
    have HB3 : Hid (Below w.heap.size w w3) := hide ((unhide HB2).trans (hB3.mono hsz))
    have hs3 : w1.heap.size ≤ w3.heap.size := by have := hB3.size; simp at this; omega
    clear PC hB3 HB2 HW2 x1 x2 x3
    obtain ⟨x1, x2, x3⟩ := (unhide H3).c
    have PC : Hid _ := hide (refPut_any hO3 hs3 b (wB op) (by omega) (unhide rb).1 (unhide rb).2 (by simp [beI_length]; omega))
    clear hO3
    go_wp2_with fail
    with_reducible refine (unhide PC).mono ?_
    rintro e w4 ⟨v', rfl, hO4, hB4⟩
    have HO4 : Hid (OwnB w4 w.heap.size v' (encL op a b)) := hide (by
      have := hO4.mono hsz
      rw [List.append_assoc] at this
      exact this)
    have HB4 : Hid (Below w.heap.size w w4) := hide ((unhide HB3).trans (hB4.mono hsz))
    clear PC hO4 hB4
    go_wp2
    go_ret2
    rw [unhide HE, unhide HL]
    exact ⟨_, rfl, unhide HO4, unhide HB4⟩
/-- What provisoref04.take makes of so many bytes. -/
def tkI (n : Nat) (l : List UInt8) : Int := if n = 4 then (if beNI l < 2147483648 then (beNI l : Int) else (beNI l : Int) - 4294967296) else (beNI l : Int)

set_option maxHeartbeats 1000000 in
theorem refTake_any (ao : Option Addr) (m c n : Nat) (l : List UInt8) (w : World) (hb : BAt w ao l) (hn : n = l.length) (hm : n ≤ m) (h4 : n ≤ 4) :
    Calls Tryz.prog 96 #[.slice ao m c, .int .i64 (n : Int)] w fun e w' => e = .returned (.int .i64 (tkI n l)) ∧ ∃ q, w' = w.drewN q := by
  go_enter Tryz.func96, Tryz.ntmps96
  have HL : Hid (beNI l < 4294967296) := hide (by
    have h1 := beNI_lt l
    have h2 : 256 ^ l.length ≤ 256 ^ 4 := Nat.pow_le_pow_right (by omega) (by omega)
    omega)
  have HNL := hide hn
  go_wp2
  clear hn
  go_loopw [5, 6] (fun v i wr => ∃ q C : Nat, q ≤ n ∧ i = .int .i64 q ∧ v = .int .i64 (C : Int) ∧ C < 256 ^ q ∧ Hid (C = beNI (l.take q)) ∧ ∃ r, wr = w.drewN r) (fun _ i _ => n - (intOf i).toNat)
  case atStart => exact ⟨0, 0, by omega, rfl, rfl, by decide, hide rfl, 0, rfl⟩
  case round =>
    obtain ⟨q, C, hq, rfl, rfl, hC, HC, r, rfl⟩ := hrel
    by_cases hlt : q < n
    · have hlt' : q < l.length := by have := unhide HNL; omega
      obtain ⟨b, off, rfl, hc⟩ := hb.head (by omega)
      have c1 := hc q hlt'
      have lo := at8_lo l q
      have hi := at8_hi l q
      have i1 : ((q : Nat) : Int) < ((n : Nat) : Int) := by omega
      have i2 : ((q : Nat) : Int) < ((m : Nat) : Int) := by omega
      clear hc hb
      have HN := hide (beNI_take l q hlt')
      have hC' : C * 256 + (l.getD q 0).toNat < 256 ^ (q + 1) := by
        have h4 := (l.getD q 0).toNat_lt
        rw [Nat.pow_succ]
        omega
      have HC' := hide hC'
      have hC3 : C < 16777216 := by
        have h1 : 256 ^ q ≤ 256 ^ 3 := Nat.pow_le_pow_right (by omega) (by omega)
        omega
      clear hC' hC
      go_wp2
      go_roundw
      case rel => exact ⟨q + 1, C * 256 + (l.getD q 0).toNat, by omega, by go_num, val_int (by unfold at8; omega), unhide HC', hide (by rw [unhide HN, ← unhide HC]), _, rfl⟩
      case measure => simp [intOf]; omega
    · have HE : Hid (C = beNI l) := hide (by rw [unhide HC, List.take_of_length_le (by have := unhide HNL; omega)])
      have hC2 : C < 4294967296 := by have h1 := unhide HL; rw [← unhide HE] at h1; exact h1
      clear hC
      have HT : Hid (tkI n l = if n = 4 then (if C < 2147483648 then (C : Int) else (C : Int) - 4294967296) else (C : Int)) := hide (by unfold tkI; rw [← unhide HE])
      by_cases hn4 : n = 4
      · have b4 : (((n : Nat) : Int) == 4) = true := beq_t (by omega)
        by_cases hbig : C < 2147483648
        · have HR : Hid (tkI n l = (C : Int)) := hide (by rw [unhide HT, if_pos hn4, if_pos hbig])
          have d1 : decide ((2147483647 : Int) < (C : Int)) = false := decide_eq_false (by omega)
          have j1 : ¬ ((q : Nat) : Int) < ((n : Nat) : Int) := by omega
          clear hn4 hbig
          go_wp2
          go_ret
          exact ⟨ret_int (unhide HR).symm, _, rfl⟩
        · have HR : Hid (tkI n l = (C : Int) - 4294967296) := hide (by rw [unhide HT, if_pos hn4, if_neg hbig])
          have d1 : decide ((2147483647 : Int) < (C : Int)) = true := decide_eq_true (by omega)
          have j1 : ¬ ((q : Nat) : Int) < ((n : Nat) : Int) := by omega
          clear hn4 hbig
          go_wp2
          go_ret
          exact ⟨ret_int (by rw [unhide HR]), _, rfl⟩
      · have b4 : (((n : Nat) : Int) == 4) = false := beq_f (by omega)
        have HR : Hid (tkI n l = (C : Int)) := hide (by rw [unhide HT, if_neg hn4])
        clear hn4
        go_wp2
        go_ret
        exact ⟨ret_int (unhide HR).symm, _, rfl⟩
theorem wA_which : ∀ op, op < 34 → (wA op = 0 ∨ wA op = 1 ∨ wA op = 2 ∨ wA op = 4) ∧ (wA op = 4 ↔ op = 1) := below34 (by decide)
theorem wB_which : ∀ op, op < 34 → wB op = 0 ∨ wB op = 1 := below34 (by decide)
theorem fit_be (l : List UInt8) (k : Nat) (hk : k = 0 ∨ k = 1 ∨ k = 2) (hl : l.length = k) : fitD (beNI l : Int) k = true := by
  have h := beNI_lt l
  rw [hl] at h
  rcases hk with rfl | rfl | rfl
  · simp [fitD]; omega
  · simp [fitD]; omega
  · simp [fitD]; omega
theorem fit_four (l : List UInt8) (hl : l.length = 4) : fitD (tkI 4 l) 4 = true := by
  have h := beNI_lt l
  rw [hl] at h
  unfold tkI fitD
  simp
  split <;> omega
theorem tk_plain (l : List UInt8) (k : Nat) (hk : k ≠ 4) : tkI k l = (beNI l : Int) := by unfold tkI; rw [if_neg hk]
theorem sizeIn : (Tryz.prog.info? 72).map (·.size) = some 4 := by kernel_rfl
theorem run_addrI (g : Nat) (w : World) : (asAddr (.pointer (some ⟨g, 0, none⟩))).run Tryz.prog w = .ok ⟨g, 0, none⟩ w := by simp [asAddr]
theorem results_in2 {fn : Func} {q u : Tmp} (h : fn.results = #[.cell q 72, .tmp u]) (tmps : Array Value) (W : World) (g : Nat) (p : Int) (op : Nat) (a b : Int) (e : Int)
    (hp : tmps.getD q undef = .pointer (some ⟨g, 0, none⟩)) (hu : tmps.getD u undef = .int .i64 e) (hg : IAt W g p op a b) : (results fn tmps).run Tryz.prog W = .ok (.tuple #[.agg #[.int .i64 p, .int .u8 (op : Int), .int .i64 a, .int .i64 b], .int .i64 e]) W := by
  rw [results_cell_tmp h, hp, hu, run_addrI, Result.andThen_ok, run_loadVar_row W g 72 72 #[.int .i64 p, .int .u8 (op : Int), .int .i64 a, .int .i64 b] (0, 0) _ hg Tryz.underlying72 rfl sizeIn, Result.andThen_ok]
theorem IAt.row {W : World} {g : Nat} {p : Int} {op : Nat} {a b : Int} (h : IAt W g p op a b) (p' : Int) (op' : Nat) (a' b' : Int) : IAt (W.setRow g #[.int .i64 p', .int .u8 (op' : Int), .int .i64 a', .int .i64 b']) g p' op' a' b' := setRow_heap _ _ _ _ _ _ h
theorem IAt.rowOther {W : World} {g k : Nat} {p : Int} {op : Nat} {a b : Int} (h : IAt W k p op a b) (cs : Array Value) (hne : k ≠ g) : IAt (W.setRow g cs) k p op a b := (setRow_other W g k _ hne).trans h
theorem IAt.f {W : World} {g : Nat} {p : Int} {op : Nat} {a b : Int} (h : IAt W g p op a b) (i : Nat) : W.frozen? ⟨g, i, none⟩ = false := frozen_of_row _ _ _ _ _ h
theorem IAt.chain {W : World} {g : Nat} {p : Int} {op : Nat} {a b : Int} (h : IAt W g p op a b) (p' : Int) (op' : Nat) (a' b' : Int) : IAt ((((W.setCell ⟨g, 0, none⟩ (.int .i64 p')).setCell ⟨g, 1, none⟩ (.int .u8 (op' : Int))).setCell ⟨g, 2, none⟩ (.int .i64 a')).setCell ⟨g, 3, none⟩ (.int .i64 b')) g p' op' a' b' :=
  heap_setCell_same _ _ _ _ _ _ (heap_setCell_same _ _ _ _ _ _ (heap_setCell_same _ _ _ _ _ _ (heap_setCell_same _ _ _ _ _ _ h)))
theorem IAt.zero {W : World} {g : Nat} {p : Int} {op : Nat} {a b : Int} (h : IAt W g p op a b) : IAt ((((W.setCell ⟨g, 0, none⟩ (.int .i64 0)).setCell ⟨g, 1, none⟩ (.int .u8 0)).setCell ⟨g, 2, none⟩ (.int .i64 0)).setCell ⟨g, 3, none⟩ (.int .i64 0)) g 0 0 0 0 := h.chain 0 0 0 0
theorem below_chain {B : Nat} {w W : World} (h : Below B w W) {g : Nat} (hg : B ≤ g) (v0 v1 v2 v3 : Value) : Below B w ((((W.setCell ⟨g, 0, none⟩ v0).setCell ⟨g, 1, none⟩ v1).setCell ⟨g, 2, none⟩ v2).setCell ⟨g, 3, none⟩ v3) :=
  (((h.setCell hg _).setCell hg _).setCell hg _).setCell hg _
theorem below_setRowI {B : Nat} {w W : World} (h : Below B w W) {g : Nat} (hg : B ≤ g) (cs : Array Value) : Below B w (W.setRow g cs) := by
  refine h.trans ⟨rfl, rfl, rfl, by simp, fun k hk => setRow_other W g k cs (by omega)⟩
end Go.Proofs.YthdgbdjagjagpaaGreatDoor
