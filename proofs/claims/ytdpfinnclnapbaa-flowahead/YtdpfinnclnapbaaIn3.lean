/-
  A number in so many bytes, plainly; the contracts of code.spread and code.gather, of provisoref04.fits; an instruction in a block of its own; the contract of code.Encode. Conditions: the widths lie there, lengths fit.
  An instruction in a block of its own; the contract of code.Encode. Conditions: the widths lie there, lengths fit.
  Contracts of provisoref04's fits, put and Encode: the same plain functions as of code.Encode. Conditions: lengths fit.
  code's spans and provisoref04's fits say the same; the contract of provisoref04.Encode.
  The contract of provisoref04.take: the number of so many bytes, of four as two's complement. Conditions: the bytes are there.
  What provisoref04's take makes of the bytes of an instruction is what Decode makes of them; they are in their spans but for a bool above 1. No Go in it.
  An instruction's row: stored whole, read back as a result. Conditions: none.
-/
import Derived.Test.YtdpfinnclnapbaaIn2
import Derived.Laws.CopyOwn
import Derived.Test.YtdpfinnclnapbaaApp
import Derived.Laws.Tables
import Derived.Laws.ResultCell
import Derived.Deep.WholeRow
namespace Go.Proofs.Ytdpfinnclnapbaa
open Go.RowKit

/-- The byte of a number at a place from its end. -/
def byI (n : Int) (j : Nat) : UInt8 := UInt8.ofNat (n / (256 : Int) ^ j % 256).toNat
theorem byI_eq (n : Int) (j : Nat) : ((byI n j).toNat : Int) = n / (256 : Int) ^ j % 256 := by
  unfold byI
  have h0 : 0 ≤ n / (256 : Int) ^ j % 256 := by omega
  have h1 : n / (256 : Int) ^ j % 256 < 256 := by omega
  rw [UInt8.toNat_ofNat_of_lt' (by show _ < 256; omega)]
  omega
/-- A number in so many bytes, the high one first. -/
def beI (n : Int) (s : Nat) : List UInt8 := (List.range s).map fun i => byI n (s - 1 - i)
theorem beI_length (n : Int) (s : Nat) : (beI n s).length = s := by simp [beI]

/-- The bytes from i on are the number's. -/
def laidI (L : List UInt8) (off s : Nat) (n : Int) (i : Nat) : List UInt8 := L.take (off + i) ++ ((beI n s).drop i ++ L.drop (off + s))

theorem beI_get (n : Int) (s m : Nat) (h : m < s) : (beI n s)[m]? = some (byI n (s - 1 - m)) := by
  unfold beI
  rw [List.getElem?_map, List.getElem?_range h]
  rfl
theorem laidI_step (L : List UInt8) (off s : Nat) (n : Int) (m : Nat) (hm : m < s) (hs : off + s ≤ L.length) :
    (laidI L off s n (m + 1)).set (off + m) (byI n (s - 1 - m)) = laidI L off s n m := by
  have h1 : off + m < L.length := by omega
  have h2 : m < (beI n s).length := by rw [beI_length]; exact hm
  have e1 : L.take (off + (m + 1)) = L.take (off + m) ++ [L[off + m]] := List.take_succ_eq_append_getElem h1
  have e2 : (beI n s).drop m = byI n (s - 1 - m) :: (beI n s).drop (m + 1) := by
    have := beI_get n s m hm
    rw [List.getElem?_eq_getElem h2] at this
    injection this with this
    rw [List.drop_eq_getElem_cons h2, this]
  have hl : (L.take (off + m)).length = off + m := by simp; omega
  unfold laidI
  rw [e1, e2, List.append_assoc, List.set_append_right _ _ (by omega), hl, Nat.sub_self]
  simp
theorem laidI_length (L : List UInt8) (off s : Nat) (n : Int) (i : Nat) (hi : i ≤ s) (hs : off + s ≤ L.length) : (laidI L off s n i).length = L.length := by
  unfold laidI
  simp [beI_length]
  omega
theorem bvals_setI (L : List UInt8) (j : Nat) (x : UInt8) : (bvals L).set j (.int .u8 (x.toNat : Int)) = bvals (L.set j x) := by
  unfold bvals
  rw [List.map_set]
theorem div_stepI (n : Int) (s m : Nat) (h : m < s) : n / 256 ^ (s - (m + 1)) / 256 = n / (256 : Int) ^ (s - m) := by
  rw [show s - m = (s - (m + 1)) + 1 from by omega, Int.pow_succ, Int.ediv_ediv_of_nonneg (Int.pow_nonneg (by omega))]

def beNI (l : List UInt8) : Nat := l.foldl (fun a x => a * 256 + x.toNat) 0
theorem beNI_snoc (l : List UInt8) (x : UInt8) : beNI (l ++ [x]) = beNI l * 256 + x.toNat := by simp [beNI]
theorem beNI_take (l : List UInt8) (k : Nat) (h : k < l.length) : beNI (l.take (k + 1)) = beNI (l.take k) * 256 + (l.getD k 0).toNat := by
  rw [List.take_succ_eq_append_getElem h, beNI_snoc, List.getD_eq_getElem?_getD, List.getElem?_eq_getElem h]; rfl
theorem beNI_lt (l : List UInt8) : beNI l < 256 ^ l.length := by
  suffices ∀ n, n ≤ l.length → beNI (l.take n) < 256 ^ n from by simpa using this l.length (Nat.le_refl _)
  intro n
  induction n with
  | zero => intro _; simp [beNI]
  | succ n ih =>
    intro h
    rw [beNI_take l n (by omega)]
    have h1 := ih (by omega)
    have h2 := (l.getD n 0).toNat_lt
    rw [Nat.pow_succ]
    omega

theorem bits_o32I (a b : Nat) (ha : a < 4294967296) (hb : b < 4294967296) : bits .or .u32 (a : Int) (b : Int) = ((a ||| b : Nat) : Int) := by
  have hx : a ||| b < 2 ^ 32 := Nat.or_lt_two_pow (by omega) (by omega)
  have h1 : (BitVec.ofInt 32 (a : Int)).toNat = a := by
    rw [BitVec.ofInt_natCast, BitVec.toNat_ofNat]; exact Nat.mod_eq_of_lt (by omega)
  have h2 : (BitVec.ofInt 32 (b : Int)).toNat = b := by
    rw [BitVec.ofInt_natCast, BitVec.toNat_ofNat]; exact Nat.mod_eq_of_lt (by omega)
  have hw : ∀ n : Int, IntKind.u32.wrap n = n % 4294967296 := fun n => by simp [IntKind.wrap, IntKind.bits, IntKind.signed]
  show IntKind.u32.wrap ((BitVec.ofInt 32 (a : Int) ||| BitVec.ofInt 32 (b : Int)).toNat : Int) = _
  rw [BitVec.toNat_or, h1, h2, hw]
  omega
theorem or_byteI (C m : Nat) (L : List UInt8) (hC : C < 256 ^ m) (hm : m < 4) : bits .or .u32 ((C : Int) * 256 % 4294967296) (at8 L m) = ((C * 256 + (L.getD m 0).toNat : Nat) : Int) := by
  have h1 : 256 ^ m ≤ 256 ^ 3 := Nat.pow_le_pow_right (by omega) (by omega)
  have h2 : C < 16777216 := by omega
  have h3 : (C : Int) * 256 % 4294967296 = ((C * 256 : Nat) : Int) := by omega
  have h4 := (L.getD m 0).toNat_lt
  have h5 := Nat.two_pow_add_eq_or_of_lt (i := 8) (b := (L.getD m 0).toNat) (by omega) C
  rw [h3]
  unfold at8
  rw [bits_o32I _ _ (by omega) (by omega)]
  rw [show C * 256 = 2 ^ 8 * C from by omega, ← h5]


/-- The cells of an instruction. -/
def inA (p : Int) (op : Nat) (a b : Int) : Array Value := #[.int .i64 p, .int .u8 (op : Int), .int .i64 a, .int .i64 b]
/-- It lies in a block. -/
def IAt (W : World) (g : Nat) (p : Int) (op : Nat) (a b : Int) : Prop := W.heap[g]? = some (.cells #[.int .i64 p, .int .u8 (op : Int), .int .i64 a, .int .i64 b] 47 (0, 0))
theorem IAt.lt {W : World} {g : Nat} {p : Int} {op : Nat} {a b : Int} (h : IAt W g p op a b) : g < W.heap.size := (Array.getElem?_eq_some_iff.1 h).1
theorem IAt.below {W W' : World} {g : Nat} {p : Int} {op : Nat} {a b : Int} (h : IAt W g p op a b) (hb : Below W.heap.size W W') : IAt W' g p op a b := (hb.block g h.lt).trans h
theorem IAt.keep {W W' : World} {g k : Nat} {p : Int} {op : Nat} {a b : Int} (h : IAt W g p op a b) (hb : W.grownBy W' (some k)) (hne : g ≠ k) : IAt W' g p op a b := (hb.block g h.lt (by intro e; injection e with e; exact hne e)).trans h
theorem IAt.c {W : World} {g : Nat} {p : Int} {op : Nat} {a b : Int} (h : IAt W g p op a b) : W.cell? ⟨g, 1, none⟩ = some (.int .u8 (op : Int)) ∧ W.cell? ⟨g, 2, none⟩ = some (.int .i64 a) ∧ W.cell? ⟨g, 3, none⟩ = some (.int .i64 b) := by
  refine ⟨?_, ?_, ?_⟩
  · exact cell_of_row _ _ 1 _ _ _ h
  · exact cell_of_row _ _ 2 _ _ _ h
  · exact cell_of_row _ _ 3 _ _ _ h
theorem IAt.c0 {W : World} {g : Nat} {p : Int} {op : Nat} {a b : Int} (h : IAt W g p op a b) : W.cell? ⟨g, 0, none⟩ = some (.int .i64 p) := cell_of_row _ _ 0 _ _ _ h
/-- Encode's error and its bytes. -/
def eE (op : Nat) (a b : Int) : Int := if op < 34 then (if inD op a b then 0 else 5) else 40
def encL (op : Nat) (a b : Int) : List UInt8 := UInt8.ofNat op :: (beI a (wA op) ++ beI b (wB op))
def eL (op : Nat) (a b : Int) : List UInt8 := if eE op a b = 0 then encL op a b else []
theorem encL_length (op : Nat) (a b : Int) : (encL op a b).length = 1 + wA op + wB op := by simp [encL, beI_length]; omega

theorem laid2 (N A B : Nat) (x : UInt8) (a b : Int) (h : N = 1 + A + B) : laidI (laidI ((List.replicate N 0).set 0 x) 1 A a 0) (1 + A) B b 0 = x :: (beI a A ++ beI b B) := by
  subst h
  have e : (List.replicate (1 + A + B) (0 : UInt8)).set 0 x = x :: List.replicate (A + B) 0 := by
    rw [show 1 + A + B = (A + B) + 1 by omega, List.replicate_succ, List.set_cons_zero]
  unfold laidI
  rw [e]
  simp only [Nat.add_zero, List.drop_zero]
  have e1 : (x :: List.replicate (A + B) (0 : UInt8)).take 1 = [x] := rfl
  have e2 : (x :: List.replicate (A + B) (0 : UInt8)).drop (1 + A) = List.replicate B 0 := by
    rw [show 1 + A = A + 1 by omega, List.drop_succ_cons, List.drop_replicate, show A + B - A = B by omega]
  rw [e1, e2]
  have e3 : ([x] ++ (beI a A ++ List.replicate B 0)) = (x :: beI a A) ++ List.replicate B 0 := by simp
  rw [e3, List.take_append_of_le_length (by simp [beI_length]; omega), List.take_of_length_le (by simp [beI_length]; omega), List.drop_eq_nil_of_le (by simp [beI_length]; omega)]
  simp
theorem laidI_zero (L : List UInt8) (off : Nat) (n : Int) : laidI L off 0 n 0 = L := by
  unfold laidI
  simp [beI]
theorem beI_take (n : Int) (s j : Nat) (h : j < s) : (beI n s).take (j + 1) = (beI n s).take j ++ [byI n (s - 1 - j)] := by
  have h2 : j < (beI n s).length := by rw [beI_length]; exact h
  have := beI_get n s j h
  rw [List.getElem?_eq_getElem h2] at this
  injection this with this
  rw [List.take_succ_eq_append_getElem h2, this]
theorem byM (n : Int) (M q : Nat) (h : (M : Int) = n ∨ (M : Int) = n + 4294967296) (hq : q < 4) : ((M / 256 ^ q % 256 : Nat) : Int) = ((byI n q).toNat : Int) := by
  rw [byI_eq]
  rcases (show q = 0 ∨ q = 1 ∨ q = 2 ∨ q = 3 by omega) with rfl | rfl | rfl | rfl
  all_goals
    simp only [Nat.reducePow, Int.reducePow]
    omega

theorem inD_fits : ∀ op : Nat, op < 34 → ∀ a b : Int, inD op a b = (fitD a (wA op) && fitD b (wB op) && !(decide (op = 2) && decide (1 < a))) := by
  refine cases34 ?_ ?_ ?_ ?_ ?_ ?_ ?_ ?_ ?_ ?_ ?_ ?_ ?_ ?_ ?_ ?_ ?_ ?_ ?_ ?_ ?_ ?_ ?_ ?_ ?_ ?_ ?_ ?_ ?_ ?_ ?_ ?_ ?_ ?_
  all_goals
    intro a b
    rw [Bool.eq_iff_iff]
    simp [inD, fitD, loA, hiA, hiB, wA, wB]
    try omega
theorem fitD_le (n : Int) (k : Nat) (h : fitD n k = true) : -2147483648 ≤ n ∧ n ≤ 2147483647 := by
  unfold fitD at h
  split at h
  · simp at h; omega
  · split at h
    · simp at h; omega
    · split at h
      · simp at h; omega
      · simp at h; omega

theorem own_one (w : World) (x : UInt8) (z : Int) (hz : z = (x.toNat : Int)) (base : Nat) (hb : base ≤ w.heap.size) : OwnB (w.alloc (.cells #[.int .u8 z] 5)) base (.slice (some ⟨w.heap.size, 0, none⟩) 1 1) [x] := by
  subst hz
  exact ⟨by simp [bvals], .inr ⟨w.heap.size, 1, #[.int .u8 (x.toNat : Int)], rfl, hb, heap_alloc_new w _, Nat.le_refl _, by decide, rfl, by simp [bvals]⟩⟩

/-- What provisoref04.take makes of so many bytes. -/
def tkD (n : Nat) (l : List UInt8) : Int := if n = 4 then (if beNI l < 2147483648 then (beNI l : Int) else (beNI l : Int) - 4294967296) else (beNI l : Int)

set_option maxHeartbeats 1000000 in
theorem refTake_any (ao : Option Addr) (m c n : Nat) (l : List UInt8) (w : World) (hb : BAt w ao l) (hn : n = l.length) (hm : n ≤ m) (h4 : n ≤ 4) :
    Calls Try.prog 31 #[.slice ao m c, .int .i64 (n : Int)] w fun e w' => e = .returned (.int .i64 (tkD n l)) ∧ ∃ q, w' = w.drewN q := by
  go_enter Try.func31, Try.ntmps31
  have HL : Hid (beNI l < 4294967296) := hide (by
    have h1 := beNI_lt l
    have h2 : 256 ^ l.length ≤ 256 ^ 4 := Nat.pow_le_pow_right (by omega) (by omega)
    omega)
  have HNL := hide hn
  go_wp2
  clear hn
  go_loopw [5, 6] (fun v i wr => ∃ q C : Nat, q ≤ n ∧ i = .int .i64 q ∧ v = .int .i64 (C : Int) ∧ C < 256 ^ q ∧ Hid (C = beNI (l.take q)) ∧ ∃ r, wr = w.drewN r) (fun _ i _ => n - (intOf i).toNat)
  case atStart => exact ⟨0, 0, by omega, rfl, rfl, by decide, hide rfl, 0, rfl⟩
  case round =>
    obtain ⟨q, C, hq, rfl, rfl, hC, HC, r, rfl⟩ := hrel
    by_cases hlt : q < n
    · have hlt' : q < l.length := by have := unhide HNL; omega
      obtain ⟨b, off, rfl, hc⟩ := hb.head (by omega)
      have c1 := hc q hlt'
      have lo := at8_lo l q
      have hi := at8_hi l q
      have i1 : ((q : Nat) : Int) < ((n : Nat) : Int) := by omega
      have i2 : ((q : Nat) : Int) < ((m : Nat) : Int) := by omega
      clear hc hb
      have HN := hide (beNI_take l q hlt')
      have hC' : C * 256 + (l.getD q 0).toNat < 256 ^ (q + 1) := by
        have h4 := (l.getD q 0).toNat_lt
        rw [Nat.pow_succ]
        omega
      have HC' := hide hC'
      have hC3 : C < 16777216 := by
        have h1 : 256 ^ q ≤ 256 ^ 3 := Nat.pow_le_pow_right (by omega) (by omega)
        omega
      clear hC' hC
      go_wp2
      go_roundw
      case rel => exact ⟨q + 1, C * 256 + (l.getD q 0).toNat, by omega, by go_num, val_int (by unfold at8; omega), unhide HC', hide (by rw [unhide HN, ← unhide HC]), _, rfl⟩
      case measure => simp [intOf]; omega
    · have HE : Hid (C = beNI l) := hide (by rw [unhide HC, List.take_of_length_le (by have := unhide HNL; omega)])
      have hC2 : C < 4294967296 := by have h1 := unhide HL; rw [← unhide HE] at h1; exact h1
      clear hC
      have HT : Hid (tkD n l = if n = 4 then (if C < 2147483648 then (C : Int) else (C : Int) - 4294967296) else (C : Int)) := hide (by unfold tkD; rw [← unhide HE])
      by_cases hn4 : n = 4
      · have b4 : (((n : Nat) : Int) == 4) = true := beq_t (by omega)
        by_cases hbig : C < 2147483648
        · have HR : Hid (tkD n l = (C : Int)) := hide (by rw [unhide HT, if_pos hn4, if_pos hbig])
          have d1 : decide ((2147483647 : Int) < (C : Int)) = false := decide_eq_false (by omega)
          have j1 : ¬ ((q : Nat) : Int) < ((n : Nat) : Int) := by omega
          clear hn4 hbig
          go_wp2
          go_ret
          exact ⟨ret_int (unhide HR).symm, _, rfl⟩
        · have HR : Hid (tkD n l = (C : Int) - 4294967296) := hide (by rw [unhide HT, if_pos hn4, if_neg hbig])
          have d1 : decide ((2147483647 : Int) < (C : Int)) = true := decide_eq_true (by omega)
          have j1 : ¬ ((q : Nat) : Int) < ((n : Nat) : Int) := by omega
          clear hn4 hbig
          go_wp2
          go_ret
          exact ⟨ret_int (by rw [unhide HR]), _, rfl⟩
      · have b4 : (((n : Nat) : Int) == 4) = false := beq_f (by omega)
        have HR : Hid (tkD n l = (C : Int)) := hide (by rw [unhide HT, if_neg hn4])
        clear hn4
        go_wp2
        go_ret
        exact ⟨ret_int (unhide HR).symm, _, rfl⟩
theorem wA_which : ∀ op, op < 34 → (wA op = 0 ∨ wA op = 1 ∨ wA op = 2 ∨ wA op = 4) ∧ (wA op = 4 ↔ op = 1) := below34 (by decide)
theorem wB_which : ∀ op, op < 34 → wB op = 0 ∨ wB op = 1 := below34 (by decide)
theorem fit_be (l : List UInt8) (k : Nat) (hk : k = 0 ∨ k = 1 ∨ k = 2) (hl : l.length = k) : fitD (beNI l : Int) k = true := by
  have h := beNI_lt l
  rw [hl] at h
  rcases hk with rfl | rfl | rfl
  · simp [fitD]; omega
  · simp [fitD]; omega
  · simp [fitD]; omega
theorem fit_four (l : List UInt8) (hl : l.length = 4) : fitD (tkD 4 l) 4 = true := by
  have h := beNI_lt l
  rw [hl] at h
  unfold tkD fitD
  simp
  split <;> omega
theorem tk_plain (l : List UInt8) (k : Nat) (hk : k ≠ 4) : tkD k l = (beNI l : Int) := by unfold tkD; rw [if_neg hk]
theorem sizeIn : (Try.prog.info? 47).map (·.size) = some 4 := by kernel_rfl
theorem run_addrI (g : Nat) (w : World) : (asAddr (.pointer (some ⟨g, 0, none⟩))).run Try.prog w = .ok ⟨g, 0, none⟩ w := by simp [asAddr]
theorem results_in2 {fn : Func} {q u : Tmp} (h : fn.results = #[.cell q 47, .tmp u]) (tmps : Array Value) (W : World) (g : Nat) (p : Int) (op : Nat) (a b : Int) (e : Int)
    (hp : tmps.getD q undef = .pointer (some ⟨g, 0, none⟩)) (hu : tmps.getD u undef = .int .i64 e) (hg : IAt W g p op a b) : (results fn tmps).run Try.prog W = .ok (.tuple #[.agg #[.int .i64 p, .int .u8 (op : Int), .int .i64 a, .int .i64 b], .int .i64 e]) W := by
  rw [results_cell_tmp h, hp, hu, run_addrI, Result.andThen_ok, run_loadVar_row W g 47 47 #[.int .i64 p, .int .u8 (op : Int), .int .i64 a, .int .i64 b] (0, 0) _ hg Try.underlying47 rfl sizeIn, Result.andThen_ok]
theorem IAt.row {W : World} {g : Nat} {p : Int} {op : Nat} {a b : Int} (h : IAt W g p op a b) (p' : Int) (op' : Nat) (a' b' : Int) : IAt (W.setRow g #[.int .i64 p', .int .u8 (op' : Int), .int .i64 a', .int .i64 b']) g p' op' a' b' := setRow_heap _ _ _ _ _ _ h
theorem IAt.rowOther {W : World} {g k : Nat} {p : Int} {op : Nat} {a b : Int} (h : IAt W k p op a b) (cs : Array Value) (hne : k ≠ g) : IAt (W.setRow g cs) k p op a b := (setRow_other W g k _ hne).trans h
theorem IAt.f {W : World} {g : Nat} {p : Int} {op : Nat} {a b : Int} (h : IAt W g p op a b) (i : Nat) : W.frozen? ⟨g, i, none⟩ = false := frozen_of_row _ _ _ _ _ h
theorem IAt.chain {W : World} {g : Nat} {p : Int} {op : Nat} {a b : Int} (h : IAt W g p op a b) (p' : Int) (op' : Nat) (a' b' : Int) : IAt ((((W.setCell ⟨g, 0, none⟩ (.int .i64 p')).setCell ⟨g, 1, none⟩ (.int .u8 (op' : Int))).setCell ⟨g, 2, none⟩ (.int .i64 a')).setCell ⟨g, 3, none⟩ (.int .i64 b')) g p' op' a' b' :=
  heap_setCell_same _ _ _ _ _ _ (heap_setCell_same _ _ _ _ _ _ (heap_setCell_same _ _ _ _ _ _ (heap_setCell_same _ _ _ _ _ _ h)))
theorem IAt.zero {W : World} {g : Nat} {p : Int} {op : Nat} {a b : Int} (h : IAt W g p op a b) : IAt ((((W.setCell ⟨g, 0, none⟩ (.int .i64 0)).setCell ⟨g, 1, none⟩ (.int .u8 0)).setCell ⟨g, 2, none⟩ (.int .i64 0)).setCell ⟨g, 3, none⟩ (.int .i64 0)) g 0 0 0 0 := h.chain 0 0 0 0
theorem below_chain {B : Nat} {w W : World} (h : Below B w W) {g : Nat} (hg : B ≤ g) (v0 v1 v2 v3 : Value) : Below B w ((((W.setCell ⟨g, 0, none⟩ v0).setCell ⟨g, 1, none⟩ v1).setCell ⟨g, 2, none⟩ v2).setCell ⟨g, 3, none⟩ v3) :=
  (((h.setCell hg _).setCell hg _).setCell hg _).setCell hg _
theorem below_setRowI {B : Nat} {w W : World} (h : Below B w W) {g : Nat} (hg : B ≤ g) (cs : Array Value) : Below B w (W.setRow g cs) := by
  refine h.trans ⟨rfl, rfl, rfl, by simp, fun k hk => setRow_other W g k cs (by omega)⟩
end Go.Proofs.Ytdpfinnclnapbaa
