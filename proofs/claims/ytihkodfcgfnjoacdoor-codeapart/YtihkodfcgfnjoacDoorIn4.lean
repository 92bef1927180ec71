/-
  An instruction in a block of its own; the contract of code.Encode. Conditions: the widths lie there, lengths fit.
-/
import Derived.Test.YtihkodfcgfnjoacDoorIn3
namespace Go.Proofs.YtihkodfcgfnjoacDoor
open Go.RowKit

/-- The cells of an instruction. -/
def inA (p : Int) (op : Nat) (a b : Int) : Array Value := #[.int .i64 p, .int .u8 (op : Int), .int .i64 a, .int .i64 b]
/-- It lies in a block. -/
def IAt (W : World) (g : Nat) (p : Int) (op : Nat) (a b : Int) : Prop := W.heap[g]? = some (.cells #[.int .i64 p, .int .u8 (op : Int), .int .i64 a, .int .i64 b] 37 (0, 0))
theorem IAt.lt {W : World} {g : Nat} {p : Int} {op : Nat} {a b : Int} (h : IAt W g p op a b) : g < W.heap.size := (Array.getElem?_eq_some_iff.1 h).1
theorem IAt.below {W W' : World} {g : Nat} {p : Int} {op : Nat} {a b : Int} (h : IAt W g p op a b) (hb : Below W.heap.size W W') : IAt W' g p op a b := (hb.block g h.lt).trans h
theorem IAt.keep {W W' : World} {g k : Nat} {p : Int} {op : Nat} {a b : Int} (h : IAt W g p op a b) (hb : W.grownBy W' (some k)) (hne : g ≠ k) : IAt W' g p op a b := (hb.block g h.lt (by intro e; injection e with e; exact hne e)).trans h
theorem IAt.c {W : World} {g : Nat} {p : Int} {op : Nat} {a b : Int} (h : IAt W g p op a b) : W.cell? ⟨g, 1, none⟩ = some (.int .u8 (op : Int)) ∧ W.cell? ⟨g, 2, none⟩ = some (.int .i64 a) ∧ W.cell? ⟨g, 3, none⟩ = some (.int .i64 b) := by
  refine ⟨?_, ?_, ?_⟩
  · exact cell_of_row _ _ 1 _ _ _ h
  · exact cell_of_row _ _ 2 _ _ _ h
  · exact cell_of_row _ _ 3 _ _ _ h
theorem IAt.c0 {W : World} {g : Nat} {p : Int} {op : Nat} {a b : Int} (h : IAt W g p op a b) : W.cell? ⟨g, 0, none⟩ = some (.int .i64 p) := cell_of_row _ _ 0 _ _ _ h
theorem WidAt.keep {W W' : World} {k : Nat} (h : WidAt W) (hb : W.grownBy W' (some k)) (hne : 0 ≠ k) : WidAt W' := fun op ho => by
  have h1 := h op ho
  have hl := World.block_lt_of_cell? W _ h1.1
  have e := hb.block 0 hl (by intro e; injection e with e; exact hne e)
  exact ⟨by rw [← h1.1]; unfold World.cell?; rw [e], by rw [← h1.2]; unfold World.cell?; rw [e]⟩

/-- Encode's error and its bytes. -/
def eE (op : Nat) (a b : Int) : Int := if op < 34 then (if inD op a b then 0 else 5) else 40
def encL (op : Nat) (a b : Int) : List UInt8 := UInt8.ofNat op :: (beI a (wA op) ++ beI b (wB op))
def eL (op : Nat) (a b : Int) : List UInt8 := if eE op a b = 0 then encL op a b else []
theorem encL_length (op : Nat) (a b : Int) : (encL op a b).length = 1 + wA op + wB op := by simp [encL, beI_length]; omega

theorem laid2 (N A B : Nat) (x : UInt8) (a b : Int) (h : N = 1 + A + B) : laidI (laidI ((List.replicate N 0).set 0 x) 1 A a 0) (1 + A) B b 0 = x :: (beI a A ++ beI b B) := by
  subst h
  have e : (List.replicate (1 + A + B) (0 : UInt8)).set 0 x = x :: List.replicate (A + B) 0 := by
    rw [show 1 + A + B = (A + B) + 1 by omega, List.replicate_succ, List.set_cons_zero]
  unfold laidI
  rw [e]
  simp only [Nat.add_zero, List.drop_zero]
  have e1 : (x :: List.replicate (A + B) (0 : UInt8)).take 1 = [x] := rfl
  have e2 : (x :: List.replicate (A + B) (0 : UInt8)).drop (1 + A) = List.replicate B 0 := by
    rw [show 1 + A = A + 1 by omega, List.drop_succ_cons, List.drop_replicate, show A + B - A = B by omega]
  rw [e1, e2]
  have e3 : ([x] ++ (beI a A ++ List.replicate B 0)) = (x :: beI a A) ++ List.replicate B 0 := by simp
  rw [e3, List.take_append_of_le_length (by simp [beI_length]; omega), List.take_of_length_le (by simp [beI_length]; omega), List.drop_eq_nil_of_le (by simp [beI_length]; omega)]
  simp
theorem laidI_zero (L : List UInt8) (off : Nat) (n : Int) : laidI L off 0 n 0 = L := by
  unfold laidI
  simp [beI]
theorem cspread_at {w : World} {base g N cap : Nat} {L : List UInt8} (n : Int) (h : OwnB w base (.slice (some ⟨g, 0, none⟩) N cap) L) (hN : N = L.length) (x : Option Addr) (s c off : Nat) (hx : x = some ⟨g, 0, none⟩ ∨ x = some ⟨g, off, none⟩) (hx' : 0 < s → x = some ⟨g, off, none⟩) (hs : off + s ≤ L.length) (hs8 : s ≤ 8) :
    Calls Tryd.prog 29 #[.slice x s c, .int .i64 n] w fun e w' => e = .returned (.tuple #[]) ∧ OwnB w' base (.slice (some ⟨g, 0, none⟩) N cap) (laidI L off s n 0) ∧ w.grownBy w' (some g) := by
  cases s with
  | zero =>
    rw [laidI_zero]
    have k : ∀ o, o ≤ L.length → Calls Tryd.prog 29 #[.slice (some ⟨g, o, none⟩) 0 c, .int .i64 n] w fun e w' => e = .returned (.tuple #[]) ∧ OwnB w' base (.slice (some ⟨g, 0, none⟩) N cap) L ∧ w.grownBy w' (some g) := fun o ho => by
      have := cspread_any (off := o) (s := 0) (c := c) n h hN (by omega) (by omega)
      rw [laidI_zero] at this
      exact this
    rcases hx with rfl | rfl
    · exact k 0 (by omega)
    · exact k off (by omega)
  | succ s =>
    obtain rfl := hx' (by omega)
    exact cspread_any n h hN hs hs8

set_option maxHeartbeats 1000000 in
theorem Encode_any (p : Int) (op : Nat) (a b : Int) (w : World) (hW : WidAt w) (ho : op < 256) :
    Calls Tryd.prog 15 #[.agg #[.int .i64 p, .int .u8 (op : Int), .int .i64 a, .int .i64 b]] w fun e w' => ∃ v, e = .returned (.tuple #[v, .int .i64 (eE op a b)]) ∧ OwnB w' w.heap.size v (eL op a b) ∧ Below w.heap.size w w' := by
  obtain ⟨i0, hi, hz0, hz1, hz2⟩ := info_parts info8
  by_cases h34 : op < 34
  rotate_left
  · have HE : Hid (eE op a b = 40) := hide (by unfold eE; rw [if_neg h34])
    have HL : Hid (eL op a b = []) := hide (by unfold eL; rw [unhide HE]; rfl)
    have hd : decide (op < 34) = false := decide_eq_false h34
    clear h34
    go_enter Tryd.func15, Tryd.ntmps15
    go_wp2_with fail
    with_reducible refine (isOp_any op _).mono ?_
    rintro e w1 ⟨rfl, rfl⟩
    rw [hd]
    go_wp2
    go_ret2
    rw [unhide HE, unhide HL]
    exact ⟨_, rfl, World.ownsRow_nil _ _ _ _, by go_grown⟩
  have hd : decide (op < 34) = true := decide_eq_true h34
  cases hin : inD op a b
  · have HE : Hid (eE op a b = 5) := hide (by unfold eE; rw [if_pos h34, hin]; rfl)
    have HL : Hid (eL op a b = []) := hide (by unfold eL; rw [unhide HE]; rfl)
    have HIn := hide hin
    clear hin
    go_enter Tryd.func15, Tryd.ntmps15
    go_wp2_with fail
    with_reducible refine (isOp_any op _).mono ?_
    rintro e w1 ⟨rfl, rfl⟩
    rw [hd]
    clear hd
    go_wp2_with fail
    with_reducible refine (inSpans_any p op a b _ h34).mono ?_
    rintro e w1 ⟨rfl, hB⟩
    rw [unhide HIn]
    have HB := hide hB
    clear hB
    go_wp2
    go_ret2
    rw [unhide HE, unhide HL]
    exact ⟨_, rfl, World.ownsRow_nil _ _ _ _, ((Below.refl _ _).alloc (Nat.le_refl _) _).trans ((unhide HB).mono (by simp))⟩
  · have HE : Hid (eE op a b = 0) := hide (by unfold eE; rw [if_pos h34, hin]; rfl)
    have HL : Hid (eL op a b = encL op a b) := hide (by unfold eL; rw [unhide HE]; rfl)
    have HIn := hide hin
    clear hin
    go_enter Tryd.func15, Tryd.ntmps15
    go_wp2_with fail
    with_reducible refine (isOp_any op _).mono ?_
    rintro e w1 ⟨rfl, rfl⟩
    rw [hd]
    clear hd
    go_wp2_with fail
    with_reducible refine (inSpans_any p op a b _ h34).mono ?_
    rintro e w1 ⟨rfl, hB⟩
    rw [unhide HIn]
    have H0 : Hid (IAt (w.alloc (.cells #[.int .i64 p, .int .u8 (op : Int), .int .i64 a, .int .i64 b] 37)) w.heap.size p op a b) := hide (heap_alloc_new w _)
    have H1 := hide ((unhide H0).below hB)
    have HB1 : Hid (Below w.heap.size w w1) := hide (((Below.refl _ _).alloc (Nat.le_refl _) _).trans (hB.mono (by simp)))
    have HW1 : Hid (WidAt w1) := hide (hW.below (unhide HB1))
    clear hB H0
    obtain ⟨c1, c2, c3⟩ := (unhide H1).c
    have HN : Hid (sizeD op = 1 + wA op + wB op) := hide (by unfold sizeD; rw [if_pos h34])
    have la := wA_le op h34
    have lb := wB_le op h34
    go_wp2_with fail
    with_reducible refine (Size_any op w1 (unhide HW1) ho).mono ?_
    rintro e w2 ⟨rfl, k2, rfl⟩
    have HO8 : Hid ((UInt8.ofNat op).toNat = op) := hide (by rw [UInt8.toNat_ofNat_of_lt' (by show _ < 256; omega)])
    obtain ⟨N, hN⟩ : ∃ N, N = sizeD op := ⟨_, rfl⟩
    rw [← hN] at HN ⊢
    have HW2 : Hid (WidAt (w1.drewN k2)) := hide ((unhide HW1).drewN k2)
    have H2 : Hid (IAt (w1.drewN k2) w.heap.size p op a b) := hide (unhide H1)
    have HB2 : Hid (Below w.heap.size w (w1.drewN k2)) := hide (belowD (unhide HB1) _)
    clear hN H1 HW1 HB1 c1 c2 c3 hW
    generalize w1.drewN k2 = w2 at HW2 H2 HB2 ⊢
    clear w1 k2
    have hN0 : 0 < N := by have := unhide HN; omega
    have hN6 : N ≤ 6 := by have := unhide HN; omega
    have hNA : 1 + wA op ≤ N := by have := unhide HN; omega
    have hgl : w.heap.size < w2.heap.size := (unhide H2).lt
    go_wp2_with (refine wpList_make_full _ rfl _ _ 22 rfl w2.heap.size 5 i0 (.int .u8 0) 1 Tryd.underlying22 hi hz0 hz1 .i64 .i64 _ _ N rfl rfl rfl rfl (by rw [hz2]; omega) (by unfold maxLen; omega) (Nat.le_refl _) ?_)
    intro w3 hown hgr
    have hz : (madeCells #[Value.int .u8 0] N).toList = bvals (List.replicate N 0) := by rw [toList_madeCells_one]; simp [bvals]
    rw [hz] at hown
    have hB3 : Below w2.heap.size w2 w3 := below_grown hgr (Nat.le_refl _) (fun k e => by cases e)
    have H3 := hide ((unhide H2).below hB3)
    have HW3 := hide ((unhide HW2).below hB3)
    have HB3 := hide ((unhide HB2).trans (hB3.mono (by omega)))
    obtain ⟨g, hg⟩ : ∃ g, g = w2.heap.size := ⟨_, rfl⟩
    rw [← hg] at hown hgl ⊢
    have hgw : 0 < g := by rw [hg]; exact World.block_lt_of_cell? w2 _ ((unhide HW2) op h34).1
    clear hz hgr H2 HW2 HB2 hB3 hg w2
    have c0 := hown.cellAt 0 (by omega)
    rw [bvals_get (by rw [List.length_replicate]; omega)] at c0
    have f0 := hown.frozenAt 0
    have hst := hown.stored 0 (.int .u8 (op : Int))
    rw [← unhide HO8, bvals_setI, unhide HO8] at hst
    have HO : Hid (OwnB (w3.setCell ⟨g, 0, none⟩ (.int .u8 (op : Int))) g (.slice (some ⟨g, 0, none⟩) N N) ((List.replicate N 0).set 0 (UInt8.ofNat op))) := hide (by
      unfold OwnB
      rw [List.length_set, List.length_replicate]
      exact hst.1)
    have H4 := hide ((unhide H3).keep hst.2 (by omega))
    have HW4 := hide ((unhide HW3).keep hst.2 (by omega))
    have HB4 : Hid (Below w.heap.size w (w3.setCell ⟨g, 0, none⟩ (.int .u8 (op : Int)))) := hide ((unhide HB3).trans (below_grown hst.2 (unhide HB3).size (fun k e => by injection e with e; omega)))
    obtain ⟨d1, d2, d3⟩ := (unhide H3).c
    obtain ⟨e1, e2, e3⟩ := (unhide H4).c
    obtain ⟨x1, x2⟩ := (unhide HW4) op h34
    clear hst hown H3 HW3 HB3
    have i1 : ((op : Nat) : Int) < 34 := by omega
    have i0 : (0 : Int) ≤ ((op : Nat) : Int) := by omega
    go_wp2_with fail
    clear c0 f0 d1 d2 d3 x1 x2 e1
    generalize w3.setCell ⟨g, 0, none⟩ (.int .u8 (op : Int)) = w4 at HO H4 HW4 HB4 e2 e3 ⊢
    clear w3
    have HNA : Hid (1 + wA op + wB op = N) := hide (unhide HN).symm
    obtain ⟨A, HAA⟩ : ∃ A, Hid (wA op = A) := ⟨_, hide rfl⟩
    rw [unhide HAA] at la hNA HNA ⊢
    have hn1 : (1 + (A : Int)).toNat - 1 = A := by omega
    have hn2 : N - (1 + (A : Int)).toNat = wB op := by have := unhide HNA; omega
    have hif : ∀ q : Nat, (if N = q then some (⟨g, 0, none⟩ : Addr) else some ⟨g, q, none⟩) = some ⟨g, 0, none⟩ ∨ (if N = q then some (⟨g, 0, none⟩ : Addr) else some ⟨g, q, none⟩) = some ⟨g, q, none⟩ := fun q => by split <;> simp
    have SP : Hid _ := hide (cspread_at (w := w4.drew) a (show OwnB w4.drew g (.slice (some ⟨g, 0, none⟩) N N) _ from unhide HO) (by simp) (if N = 1 then some ⟨g, 0, none⟩ else some ⟨g, 1, none⟩) ((1 + (A : Int)).toNat - 1) (N - 1) 1 (hif 1) (fun h => by rw [if_neg (by omega)]) (by rw [hn1]; simp; omega) (by omega))
    have e2' : w4.drew.cell? ⟨w.heap.size, 2, none⟩ = some (.int .i64 a) := e2
    have j1 : (1 : Int) ≤ 1 + (A : Int) := by omega
    have j2 : 1 + (A : Int) ≤ (N : Int) := by omega
    have j3 : (0 : Int) ≤ 1 + (A : Int) := by omega
    have HH := hide hn1
    have HH2 := hide hn2
    have HIF := hide hif
    clear hn1 hn2 hif
    go_region_with (go_at_call 29; with_reducible refine (unhide SP).mono ?_; rintro e w5 ⟨rfl, hO5, hG5⟩; clear SP; generalize (if N = 1 then some (⟨g, 0, none⟩ : Addr) else some ⟨g, 1, none⟩) = X)
    clear e2'
    rw [unhide HH] at hO5
    have H5 := hide ((show IAt w4.drew w.heap.size p op a b from unhide H4).keep hG5 (by omega))
    have HB5 : Hid (Below w.heap.size w w5) := hide ((show Below w.heap.size w w4.drew from belowD (unhide HB4) 1).trans (below_grown hG5 (unhide HB4).size (fun k e => by injection e with e; omega)))
    clear H4 HB4 HO hG5 HW4 e2 e3 w4
    obtain ⟨y1, y2, y3⟩ := (unhide H5).c
    go_wp2_with fail
    obtain ⟨M, hM⟩ : ∃ M : Nat, M = 1 + A := ⟨_, rfl⟩
    rw [show (1 + (A : Int)) = (M : Int) by omega]
    have hll : (laidI ((List.replicate N 0).set 0 (UInt8.ofNat op)) 1 A a 0).length = N := by rw [laidI_length _ _ _ _ _ (by omega) (by simp; omega)]; simp
    have SP : Hid _ := hide (cspread_at (w := w5.drew) b (show OwnB w5.drew g (.slice (some ⟨g, 0, none⟩) N N) _ from hO5) hll.symm (if N = M then some ⟨g, 0, none⟩ else some ⟨g, M, none⟩) (N - M) (N - M) M ((unhide HIF) M) (fun h => by rw [if_neg (by omega)]) (by rw [hll]; omega) (by omega))
    have e2' : w5.drew.cell? ⟨w.heap.size, 3, none⟩ = some (.int .i64 b) := y3
    have k2 : (M : Int) ≤ (N : Int) := by omega
    have HM := hide hM
    clear hM hll hNA j1 j2 j3 hO5
    go_region_with (go_at_call 29; with_reducible refine (unhide SP).mono ?_; rintro e w6 ⟨rfl, hO6, hG6⟩; clear SP; generalize (if N = M then some (⟨g, 0, none⟩ : Addr) else some ⟨g, M, none⟩) = X')
    have HB6 : Hid (Below w.heap.size w w6) := hide ((show Below w.heap.size w w5.drew from belowD (unhide HB5) 1).trans (below_grown hG6 (unhide HB5).size (fun k e => by injection e with e; omega)))
    have HF : Hid (laidI (laidI ((List.replicate N 0).set 0 (UInt8.ofNat op)) 1 A a 0) M (N - M) b 0 = encL op a b) := hide (by
      have hA : wA op = A := unhide HAA
      have hB : N - M = wB op := by have := unhide HM; have := unhide HNA; omega
      rw [hB, unhide HM]
      unfold encL
      rw [hA]
      exact laid2 _ _ _ _ _ _ (by rw [← unhide HNA]))
    rw [unhide HF] at hO6
    have HO6 : Hid (OwnB w6 w.heap.size (.slice (some ⟨g, 0, none⟩) N N) (encL op a b)) := hide (hO6.mono (by omega))
    clear hO6 hG6 HB5 H5 y1 y2 y3 e2' w5
    go_wp2
    go_ret2
    rw [unhide HE, unhide HL]
    exact ⟨_, rfl, unhide HO6, unhide HB6⟩
end Go.Proofs.YtihkodfcgfnjoacDoor
