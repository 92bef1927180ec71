/-
  Contracts of the law's step 'put': whatever it is told, it answers true, and the writer and the slice go on with the same bytes. Conditions: lengths fit.
-/
import Derived.Test.YtggaecmjadkopaaPutInv
namespace Go.Proofs.Ytggaecmjadkopaa
open Go.RowKit

/-- What holds behind: true, and the same again. -/
def PutPost (W0 : World) (p : Nat) (e : Ending) (w' : World) : Prop := ∃ v' bv' l', e = .returned (.tuple #[bv', .bool true]) ∧ Inv W0 w' p v' bv' l'

theorem box_kept {W0 w w2 : World} {p : Nat} {v bv : Value} {l : List UInt8} {cs : Array Value} {t : TypeId} (h : Inv W0 w p v bv l) (hK : Kept (WT p v) (w.alloc (.cells cs t)) w2) : w2.heap[w.heap.size]? = some (.cells cs t (0, 0)) := by
  have h1 := heap_alloc_new w (.cells cs t)
  refine (hK.block w.heap.size (by simp) ?_).trans h1
  rintro (e | e)
  · have := h.wr.pl; omega
  · have := h.vl _ e; omega

set_option maxHeartbeats 1000000 in
theorem put0 {W0 w : World} {p : Nat} {v bv : Value} {l : List UInt8} (h : Inv W0 w p v bv l) (op n at_ : Int) (nm : ByteArray) (so : Option Addr) (sc : Nat) (bs : List UInt8) (hc : pickN op 9 = 0) :
    Calls Try.prog 17 #[.pointer (some ⟨p, 0, none⟩), bv, .agg #[.int .i64 op, .int .i64 n, .int .i64 at_, .string nm, .slice so bs.length sc]] w (PutPost W0 p) := by
  have HC := hide hc
  have hlen := h.wr.len
  obtain ⟨bo, bc, hbv, _⟩ := h.ob.at
  subst hbv
  have hI1 := h.below ((Below.refl _ w).alloc (Nat.le_refl _) (.cells #[.int .i64 op, .int .i64 n, .int .i64 at_, .string nm, .slice so bs.length sc] 45))
  have HI := hide hI1
  have HH := hide h
  clear hc hI1 h
  go_enter Try.func17, Try.ntmps17
  go_wp2_with fail
  refine (pick_any op 9 _ (by omega) (by omega)).mono ?_
  rintro e w1 ⟨rfl, hw1⟩
  rw [unhide HC, hw1]
  clear hw1
  go_wp2_with fail
  refine (wByte_u (unhide HI).wr n).mono ?_
  rintro e w2 ⟨rfl, v2, hW2, hK2, hF2⟩
  have hM := (unhide HI).mid hW2 hK2 hF2
  have hrow := box_kept (unhide HH) hK2
  have c1 : w2.cell? ⟨w.heap.size, 1, none⟩ = some (.int .i64 n) := by rw [cell_of_row _ _ _ _ _ _ hrow]; rfl
  have c2 : w2.cell? ⟨w.heap.size, 2, none⟩ = some (.int .i64 at_) := by rw [cell_of_row _ _ _ _ _ _ hrow]; rfl
  have c3 : w2.cell? ⟨w.heap.size, 3, none⟩ = some (.string nm) := by rw [cell_of_row _ _ _ _ _ _ hrow]; rfl
  have HM := hide hM
  clear hrow hM hW2 hK2 hF2
  go_wp2_with fail
  refine (refPut_u (unhide HM).ob n 1 (by omega) hlen).mono ?_
  rintro e w3 ⟨bv3, rfl, hO3, hB3, hF3⟩
  have HD := hide (Mid.done (unhide HI) (unhide HM) hO3 hB3 hF3)
  clear hO3 hB3 hF3
  go_wp2
  go_ret2
  exact ⟨v2, bv3, _, rfl, unhide HD⟩

set_option maxHeartbeats 1000000 in
theorem put1 {W0 w : World} {p : Nat} {v bv : Value} {l : List UInt8} (h : Inv W0 w p v bv l) (op n at_ : Int) (nm : ByteArray) (so : Option Addr) (sc : Nat) (bs : List UInt8) (hc : pickN op 9 = 1) :
    Calls Try.prog 17 #[.pointer (some ⟨p, 0, none⟩), bv, .agg #[.int .i64 op, .int .i64 n, .int .i64 at_, .string nm, .slice so bs.length sc]] w (PutPost W0 p) := by
  have HC := hide hc
  have hlen := h.wr.len
  obtain ⟨bo, bc, hbv, _⟩ := h.ob.at
  subst hbv
  have hI1 := h.below ((Below.refl _ w).alloc (Nat.le_refl _) (.cells #[.int .i64 op, .int .i64 n, .int .i64 at_, .string nm, .slice so bs.length sc] 45))
  have HI := hide hI1
  have HH := hide h
  clear hc hI1 h
  go_enter Try.func17, Try.ntmps17
  go_wp2_with fail
  refine (pick_any op 9 _ (by omega) (by omega)).mono ?_
  rintro e w1 ⟨rfl, hw1⟩
  rw [unhide HC, hw1]
  clear hw1
  go_wp2_with fail
  refine (wWord_u (unhide HI).wr n).mono ?_
  rintro e w2 ⟨rfl, v2, hW2, hK2, hF2⟩
  have hM := (unhide HI).mid hW2 hK2 hF2
  have hrow := box_kept (unhide HH) hK2
  have c1 : w2.cell? ⟨w.heap.size, 1, none⟩ = some (.int .i64 n) := by rw [cell_of_row _ _ _ _ _ _ hrow]; rfl
  have c2 : w2.cell? ⟨w.heap.size, 2, none⟩ = some (.int .i64 at_) := by rw [cell_of_row _ _ _ _ _ _ hrow]; rfl
  have c3 : w2.cell? ⟨w.heap.size, 3, none⟩ = some (.string nm) := by rw [cell_of_row _ _ _ _ _ _ hrow]; rfl
  have HM := hide hM
  clear hrow hM hW2 hK2 hF2
  go_wp2_with fail
  refine (refPut_u (unhide HM).ob n 2 (by omega) hlen).mono ?_
  rintro e w3 ⟨bv3, rfl, hO3, hB3, hF3⟩
  have HD := hide (Mid.done (unhide HI) (unhide HM) hO3 hB3 hF3)
  clear hO3 hB3 hF3
  go_wp2
  go_ret2
  exact ⟨v2, bv3, _, rfl, unhide HD⟩

set_option maxHeartbeats 1000000 in
theorem put2 {W0 w : World} {p : Nat} {v bv : Value} {l : List UInt8} (h : Inv W0 w p v bv l) (op n at_ : Int) (nm : ByteArray) (so : Option Addr) (sc : Nat) (bs : List UInt8) (hc : pickN op 9 = 2) :
    Calls Try.prog 17 #[.pointer (some ⟨p, 0, none⟩), bv, .agg #[.int .i64 op, .int .i64 n, .int .i64 at_, .string nm, .slice so bs.length sc]] w (PutPost W0 p) := by
  have HC := hide hc
  have hlen := h.wr.len
  obtain ⟨bo, bc, hbv, _⟩ := h.ob.at
  subst hbv
  have hI1 := h.below ((Below.refl _ w).alloc (Nat.le_refl _) (.cells #[.int .i64 op, .int .i64 n, .int .i64 at_, .string nm, .slice so bs.length sc] 45))
  have HI := hide hI1
  have HH := hide h
  clear hc hI1 h
  go_enter Try.func17, Try.ntmps17
  go_wp2_with fail
  refine (pick_any op 9 _ (by omega) (by omega)).mono ?_
  rintro e w1 ⟨rfl, hw1⟩
  rw [unhide HC, hw1]
  clear hw1
  go_wp2_with fail
  refine (wLong_u (unhide HI).wr n).mono ?_
  rintro e w2 ⟨rfl, v2, hW2, hK2, hF2⟩
  have hM := (unhide HI).mid hW2 hK2 hF2
  have hrow := box_kept (unhide HH) hK2
  have c1 : w2.cell? ⟨w.heap.size, 1, none⟩ = some (.int .i64 n) := by rw [cell_of_row _ _ _ _ _ _ hrow]; rfl
  have c2 : w2.cell? ⟨w.heap.size, 2, none⟩ = some (.int .i64 at_) := by rw [cell_of_row _ _ _ _ _ _ hrow]; rfl
  have c3 : w2.cell? ⟨w.heap.size, 3, none⟩ = some (.string nm) := by rw [cell_of_row _ _ _ _ _ _ hrow]; rfl
  have HM := hide hM
  clear hrow hM hW2 hK2 hF2
  go_wp2_with fail
  refine (refPut_u (unhide HM).ob n 4 (by omega) hlen).mono ?_
  rintro e w3 ⟨bv3, rfl, hO3, hB3, hF3⟩
  have HD := hide (Mid.done (unhide HI) (unhide HM) hO3 hB3 hF3)
  clear hO3 hB3 hF3
  go_wp2
  go_ret2
  exact ⟨v2, bv3, _, rfl, unhide HD⟩

set_option maxHeartbeats 1000000 in
theorem put4 {W0 w : World} {p : Nat} {v bv : Value} {l : List UInt8} (h : Inv W0 w p v bv l) (op n at_ : Int) (nm : ByteArray) (so : Option Addr) (sc : Nat) (bs : List UInt8) (hc : pickN op 9 = 4) (hnm : nm.size ≤ maxLen) :
    Calls Try.prog 17 #[.pointer (some ⟨p, 0, none⟩), bv, .agg #[.int .i64 op, .int .i64 n, .int .i64 at_, .string nm, .slice so bs.length sc]] w (PutPost W0 p) := by
  have HC := hide hc
  have hlen := h.wr.len
  obtain ⟨bo, bc, hbv, _⟩ := h.ob.at
  subst hbv
  have hI1 := h.below ((Below.refl _ w).alloc (Nat.le_refl _) (.cells #[.int .i64 op, .int .i64 n, .int .i64 at_, .string nm, .slice so bs.length sc] 45))
  have HI := hide hI1
  have HH := hide h
  clear hc hI1 h
  go_enter Try.func17, Try.ntmps17
  go_wp2_with fail
  refine (pick_any op 9 _ (by omega) (by omega)).mono ?_
  rintro e w1 ⟨rfl, hw1⟩
  rw [unhide HC, hw1]
  clear hw1
  go_wp2_with fail
  refine (wName_u (unhide HI).wr nm hnm).mono ?_
  rintro e w2 ⟨rfl, v2, hW2, hK2, hF2⟩
  have hM := (unhide HI).mid hW2 hK2 hF2
  have hrow := box_kept (unhide HH) hK2
  have c1 : w2.cell? ⟨w.heap.size, 1, none⟩ = some (.int .i64 n) := by rw [cell_of_row _ _ _ _ _ _ hrow]; rfl
  have c2 : w2.cell? ⟨w.heap.size, 2, none⟩ = some (.int .i64 at_) := by rw [cell_of_row _ _ _ _ _ _ hrow]; rfl
  have c3 : w2.cell? ⟨w.heap.size, 3, none⟩ = some (.string nm) := by rw [cell_of_row _ _ _ _ _ _ hrow]; rfl
  have HM := hide hM
  clear hrow hM hW2 hK2 hF2
  go_wp2_with fail
  refine (PutName_u (unhide HM).ob nm hlen hnm).mono ?_
  rintro e w3 ⟨bv3, rfl, hO3, hB3, hF3⟩
  have HD := hide (Mid.done (unhide HI) (unhide HM) hO3 hB3 hF3)
  clear hO3 hB3 hF3
  go_wp2
  go_ret2
  exact ⟨v2, bv3, _, rfl, unhide HD⟩

set_option maxHeartbeats 1000000 in
theorem put5 {W0 w : World} {p : Nat} {v bv : Value} {l : List UInt8} (h : Inv W0 w p v bv l) (op n at_ : Int) (nm : ByteArray) (so : Option Addr) (sc : Nat) (bs : List UInt8) (hc : pickN op 9 = 5) :
    Calls Try.prog 17 #[.pointer (some ⟨p, 0, none⟩), bv, .agg #[.int .i64 op, .int .i64 n, .int .i64 at_, .string nm, .slice so bs.length sc]] w (PutPost W0 p) := by
  have HC := hide hc
  have hlen := h.wr.len
  obtain ⟨bo, bc, hbv, _⟩ := h.ob.at
  subst hbv
  have hI1 := h.below ((Below.refl _ w).alloc (Nat.le_refl _) (.cells #[.int .i64 op, .int .i64 n, .int .i64 at_, .string nm, .slice so bs.length sc] 45))
  have HI := hide hI1
  have HH := hide h
  clear hc hI1 h
  go_enter Try.func17, Try.ntmps17
  go_wp2_with fail
  refine (pick_any op 9 _ (by omega) (by omega)).mono ?_
  rintro e w1 ⟨rfl, hw1⟩
  rw [unhide HC, hw1]
  clear hw1
  go_wp2_with fail
  refine (wPatch_u (unhide HI).wr at_ n).mono ?_
  rintro e w2 ⟨rfl, v2, hW2, hK2, hF2⟩
  have hM := (unhide HI).mid hW2 hK2 hF2
  have hrow := box_kept (unhide HH) hK2
  have c1 : w2.cell? ⟨w.heap.size, 1, none⟩ = some (.int .i64 n) := by rw [cell_of_row _ _ _ _ _ _ hrow]; rfl
  have c2 : w2.cell? ⟨w.heap.size, 2, none⟩ = some (.int .i64 at_) := by rw [cell_of_row _ _ _ _ _ _ hrow]; rfl
  have c3 : w2.cell? ⟨w.heap.size, 3, none⟩ = some (.string nm) := by rw [cell_of_row _ _ _ _ _ _ hrow]; rfl
  have HM := hide hM
  clear hrow hM hW2 hK2 hF2
  go_wp2_with fail
  refine (refPatch_u (unhide HM).ob at_ n hlen).mono ?_
  rintro e w3 ⟨bv3, rfl, hO3, hB3, hF3⟩
  have HD := hide (Mid.done (unhide HI) (unhide HM) hO3 hB3 hF3)
  clear hO3 hB3 hF3
  go_wp2
  go_ret2
  exact ⟨v2, bv3, _, rfl, unhide HD⟩

set_option maxHeartbeats 1000000 in
theorem put7 {W0 w : World} {p : Nat} {v bv : Value} {l : List UInt8} (h : Inv W0 w p v bv l) (op n at_ : Int) (nm : ByteArray) (so : Option Addr) (sc : Nat) (bs : List UInt8) (hc : pickN op 9 = 7) :
    Calls Try.prog 17 #[.pointer (some ⟨p, 0, none⟩), bv, .agg #[.int .i64 op, .int .i64 n, .int .i64 at_, .string nm, .slice so bs.length sc]] w (PutPost W0 p) := by
  have HC := hide hc
  have hlen := h.wr.len
  obtain ⟨bo, bc, hbv, _⟩ := h.ob.at
  subst hbv
  have hI1 := h.below ((Below.refl _ w).alloc (Nat.le_refl _) (.cells #[.int .i64 op, .int .i64 n, .int .i64 at_, .string nm, .slice so bs.length sc] 45))
  have HI := hide hI1
  have HH := hide h
  clear hc hI1 h
  go_enter Try.func17, Try.ntmps17
  go_wp2_with fail
  refine (pick_any op 9 _ (by omega) (by omega)).mono ?_
  rintro e w1 ⟨rfl, hw1⟩
  rw [unhide HC, hw1]
  clear hw1
  go_wp2_with fail
  refine (Len_any (unhide HI).wr).mono ?_
  rintro e w2 ⟨rfl, hw2⟩
  rw [hw2]
  clear hw2
  go_wp2
  go_ret2
  exact ⟨v, _, l, rfl, unhide HI⟩

set_option maxHeartbeats 1000000 in
theorem put8 {W0 w : World} {p : Nat} {v bv : Value} {l : List UInt8} (h : Inv W0 w p v bv l) (op n at_ : Int) (nm : ByteArray) (so : Option Addr) (sc : Nat) (bs : List UInt8) (hc : pickN op 9 = 8) :
    Calls Try.prog 17 #[.pointer (some ⟨p, 0, none⟩), bv, .agg #[.int .i64 op, .int .i64 n, .int .i64 at_, .string nm, .slice so bs.length sc]] w (PutPost W0 p) := by
  have HC := hide hc
  have hlen := h.wr.len
  obtain ⟨bo, bc, hbv, _⟩ := h.ob.at
  subst hbv
  have hI1 := h.below ((Below.refl _ w).alloc (Nat.le_refl _) (.cells #[.int .i64 op, .int .i64 n, .int .i64 at_, .string nm, .slice so bs.length sc] 45))
  have HI := hide hI1
  have HH := hide h
  clear hc hI1 h
  go_enter Try.func17, Try.ntmps17
  go_wp2_with fail
  refine (pick_any op 9 _ (by omega) (by omega)).mono ?_
  rintro e w1 ⟨rfl, hw1⟩
  rw [unhide HC, hw1]
  clear hw1
  go_wp2_with fail
  refine (Bytes_any (unhide HI).wr).mono ?_
  rintro e w2 ⟨rfl, hO2, hB2⟩
  have hI2 := (unhide HI).below hB2
  obtain ⟨ao2, cap2, hx, hb2⟩ := hO2.at
  injection hx with hx1 hx2 hx3
  subst hx1
  obtain ⟨ao3, cap3, hy, hb3⟩ := hI2.ob.at
  injection hy with hy1 hy2 hy3
  subst hy1
  clear hx2 hx3 hy2 hy3
  rw [World.size_alloc] at hb2
  go_wp2_with fail
  refine (Equal_any (some ⟨w.heap.size + 1, 0, none⟩) bo l.length bc l l w2 hb2 hb3 (by unfold maxLen; omega) (by unfold maxLen; omega)).mono ?_
  rintro e w3 ⟨rfl, j, rfl⟩
  rw [show (l == l) = true from by simp]
  have hI3 := hI2.below (belowD (Below.refl _ w2) j)
  go_wp2
  go_ret2
  exact ⟨v, _, l, rfl, hI3⟩

set_option maxHeartbeats 1000000 in
theorem put6 {W0 w : World} {p : Nat} {v bv : Value} {l : List UInt8} (h : Inv W0 w p v bv l) (op n at_ : Int) (nm : ByteArray) (so : Option Addr) (sc : Nat) (bs : List UInt8) (hc : pickN op 9 = 6) :
    Calls Try.prog 17 #[.pointer (some ⟨p, 0, none⟩), bv, .agg #[.int .i64 op, .int .i64 n, .int .i64 at_, .string nm, .slice so bs.length sc]] w (PutPost W0 p) := by
  have HC := hide hc
  have hlen := h.wr.len
  obtain ⟨bo, bc, hbv, _⟩ := h.ob.at
  subst hbv
  have hI1 := h.below ((Below.refl _ w).alloc (Nat.le_refl _) (.cells #[.int .i64 op, .int .i64 n, .int .i64 at_, .string nm, .slice so bs.length sc] 45))
  have HI := hide hI1
  have HH := hide h
  clear hc hI1 h
  go_enter Try.func17, Try.ntmps17
  go_wp2_with fail
  refine (pick_any op 9 _ (by omega) (by omega)).mono ?_
  rintro e w1 ⟨rfl, hw1⟩
  rw [unhide HC, hw1]
  clear hw1
  go_wp2_with fail
  refine (pick_any n 1048584 _ (by omega) (by omega)).mono ?_
  rintro e w2 ⟨rfl, hw2⟩
  rw [hw2]
  clear hw2
  have hpl := pickN_lt n 1048584 (by omega)
  generalize pickN n 1048584 = m at hpl ⊢
  obtain ⟨i0, hi, hz0, hz1, hz2⟩ := info_parts info8
  go_wp2_with (refine wpList_make_full _ rfl _ _ 22 rfl w.heap.size 5 i0 (.int .u8 0) 1 Try.underlying22 hi hz0 hz1 .i64 .i64 _ _ m rfl rfl rfl rfl (by rw [hz2]; omega) (by unfold maxLen; omega) (by simp) ?_)
  intro w3 hown hgr
  have hz : (madeCells #[Value.int .u8 0] m).toList = bvals (List.replicate m 0) := by rw [toList_madeCells_one]; simp [bvals]
  rw [hz] at hown
  generalize hL : List.replicate m (0 : UInt8) = L at hown
  have hll : L.length = m := by rw [← hL]; simp
  subst hll
  clear hL hz
  have hO3 : OwnB w3 w.heap.size _ L := hown
  have hB3 : Below (w.alloc _).heap.size (w.alloc _) w3 := below_grown hgr (Nat.le_refl _) (fun k e => by cases e)
  have hI3 := (unhide HI).below hB3
  have HI3 := hide hI3
  have HO3 := hide hO3
  clear hown hgr hO3 hB3 hI3
  go_wp2_with fail
  refine (Put_u (unhide HI3).wr _ L (unhide HO3).src (by omega)).mono ?_
  rintro e w4 ⟨rfl, v4, hW4, hK4, hF4⟩
  have hM := (unhide HI3).mid hW4 hK4 hF4
  have hsrc : SrcB w4 _ L := ((unhide HO3).keep hK4 (by
    intro k e
    have e' : k = w.heap.size + 1 := by simp [Value.ownBlock] at e; omega
    subst e'
    rintro (e2 | e2)
    · have := (unhide HH).wr.pl; omega
    · have := (unhide HH).vl _ e2; omega)).src
  have HM := hide hM
  have HS := hide hsrc
  clear hM hW4 hK4 hF4 hsrc
  go_wp2_with fail
  refine (Join_u (unhide HM).ob (unhide HS) hlen (by omega)).mono ?_
  rintro e w5 ⟨bv5, rfl, hO5, hB5, hF5⟩
  have HD := hide (Mid.done (unhide HI3) (unhide HM) hO5 hB5 hF5)
  clear hO5 hB5 hF5
  go_wp2
  go_ret2
  exact ⟨v4, bv5, _, rfl, unhide HD⟩

end Go.Proofs.Ytggaecmjadkopaa
