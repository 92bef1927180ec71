/-
  Contracts of wire.spread and of a writer's number, Byte, Word, Long: a number in so many bytes, the high one first, is put behind; or the error. Conditions: lengths fit.
-/
import Derived.Test.YtkcnkfhdbjiggaaWriter
namespace Go.Proofs.Ytkcnkfhdbjiggaa
open Go.RowKit
set_option maxRecDepth 20000

/-- The byte of a number at a place from its end. -/
def byteOf (n : Int) (j : Nat) : UInt8 := UInt8.ofNat (n / (256 : Int) ^ j % 256).toNat
theorem byteOf_eq (n : Int) (j : Nat) : ((byteOf n j).toNat : Int) = n / (256 : Int) ^ j % 256 := by
  unfold byteOf
  have h0 : 0 ≤ n / (256 : Int) ^ j % 256 := by omega
  have h1 : n / (256 : Int) ^ j % 256 < 256 := by omega
  rw [UInt8.toNat_ofNat_of_lt' (by show _ < 256; omega)]
  omega
/-- A number in so many bytes, the high one first. -/
def be (n : Int) (s : Nat) : List UInt8 := (List.range s).map fun i => byteOf n (s - 1 - i)
theorem be_length (n : Int) (s : Nat) : (be n s).length = s := by simp [be]

/-- The bytes from i on are the number's. -/
def laid (L : List UInt8) (off s : Nat) (n : Int) (i : Nat) : List UInt8 := L.take (off + i) ++ ((be n s).drop i ++ L.drop (off + s))

theorem be_get (n : Int) (s m : Nat) (h : m < s) : (be n s)[m]? = some (byteOf n (s - 1 - m)) := by
  unfold be
  rw [List.getElem?_map, List.getElem?_range h]
  rfl
theorem laid_step (L : List UInt8) (off s : Nat) (n : Int) (m : Nat) (hm : m < s) (hs : off + s ≤ L.length) :
    (laid L off s n (m + 1)).set (off + m) (byteOf n (s - 1 - m)) = laid L off s n m := by
  have h1 : off + m < L.length := by omega
  have h2 : m < (be n s).length := by rw [be_length]; exact hm
  have e1 : L.take (off + (m + 1)) = L.take (off + m) ++ [L[off + m]] := List.take_succ_eq_append_getElem h1
  have e2 : (be n s).drop m = byteOf n (s - 1 - m) :: (be n s).drop (m + 1) := by
    have := be_get n s m hm
    rw [List.getElem?_eq_getElem h2] at this
    injection this with this
    rw [List.drop_eq_getElem_cons h2, this]
  have hl : (L.take (off + m)).length = off + m := by simp; omega
  unfold laid
  rw [e1, e2, List.append_assoc, List.set_append_right _ _ (by omega), hl, Nat.sub_self]
  simp
theorem laid_length (L : List UInt8) (off s : Nat) (n : Int) (i : Nat) (hi : i ≤ s) (hs : off + s ≤ L.length) : (laid L off s n i).length = L.length := by
  unfold laid
  simp [be_length]
  omega
theorem bvals_set (L : List UInt8) (j : Nat) (x : UInt8) : (bvals L).set j (.int .u8 (x.toNat : Int)) = bvals (L.set j x) := by
  unfold bvals
  rw [List.map_set]
theorem div_step (n : Int) (s m : Nat) (h : m < s) : n / 256 ^ (s - (m + 1)) / 256 = n / (256 : Int) ^ (s - m) := by
  rw [show s - m = (s - (m + 1)) + 1 from by omega, Int.pow_succ, Int.ediv_ediv_of_nonneg (Int.pow_nonneg (by omega))]

set_option maxHeartbeats 400000 in
theorem spread_any {w : World} {base g N cap off s c : Nat} {L : List UInt8} (n : Int) (h : OwnB w base (.slice (some ⟨g, 0, none⟩) N cap) L) (hN : N = L.length) (hs : off + s ≤ L.length) (hs8 : s ≤ 8) :
    Calls Try.prog 87 #[.slice (some ⟨g, off, none⟩) s c, .int .i64 n] w fun e w' => e = .returned (.tuple #[]) ∧ OwnB w' base (.slice (some ⟨g, 0, none⟩) N cap) (laid L off s n 0) ∧ w.grownBy w' (some g) := by
  go_enter Try.func87, Try.ntmps87
  go_wp2
  go_loopw [1, 4] (fun z i wr => ∃ k : Nat, k ≤ s ∧ i = .int .i64 ((k : Int) - 1) ∧ z = .int .i64 (n / 256 ^ (s - k)) ∧ OwnB wr base (.slice (some ⟨g, 0, none⟩) N cap) (laid L off s n k) ∧ w.grownBy wr (some g)) (fun _ i _ => (intOf i + 1).toNat)
  case atStart =>
    refine ⟨s, Nat.le_refl _, rfl, by simp, ?_, World.grownBy.refl _ _⟩
    have : laid L off s n s = L := by
      unfold laid
      rw [List.drop_eq_nil_of_le (by rw [be_length]; omega), List.nil_append, List.take_append_drop]
    rw [this]; exact h
  case round =>
    obtain ⟨k, hk, rfl, rfl, hO, hG⟩ := hrel
    cases k with
    | zero =>
      go_wp2
      go_end0
      exact ⟨rfl, hO, hG⟩
    | succ m =>
      have hll := laid_length L off s n (m + 1) hk hs
      have hO' : wr.ownsRow base 5 1 (.slice (some ⟨g, 0, none⟩) N cap) N (bvals (laid L off s n (m + 1))) := by
        have := hO; unfold OwnB at this; rw [hll, ← hN] at this; exact this
      have c1 : ∃ u, wr.cell? ⟨g, off + m, none⟩ = some u := by
        have := hO'.cellAt (off + m) (by omega)
        rw [this, bvals_get (by omega)]
        exact ⟨_, rfl⟩
      obtain ⟨u, c1⟩ := c1
      have f1 := hO'.frozenAt (off + m)
      have hst := hO'.stored (off + m) (.int .u8 (n / 256 ^ (s - (m + 1)) % 256))
      have hb := byteOf_eq n (s - (m + 1))
      have HO : Hid (OwnB (wr.setCell ⟨g, off + m, none⟩ (.int .u8 (n / 256 ^ (s - (m + 1)) % 256))) base (.slice (some ⟨g, 0, none⟩) N cap) (laid L off s n m)) := hide (by
        have h1 := hst.1
        rw [← hb, bvals_set, show s - (m + 1) = s - 1 - m from by omega, laid_step L off s n m (by omega) hs] at h1
        unfold OwnB
        rw [laid_length L off s n m (by omega) hs, ← hN]
        rw [← hb, show s - (m + 1) = s - 1 - m from by omega]
        exact h1)
      have HG : Hid (w.grownBy (wr.setCell ⟨g, off + m, none⟩ (.int .u8 (n / 256 ^ (s - (m + 1)) % 256))) (some g)) := hide ⟨hst.2.os.trans hG.os, hst.2.tape.trans hG.tape, hst.2.output.trans hG.output, Nat.le_trans hG.size hst.2.size, fun k hk hne => (hst.2.block k (Nat.lt_of_lt_of_le hk hG.size) hne).trans (hG.block k hk hne)⟩
      have HD := hide (div_step n s m (by omega))
      clear hst hb hO hO' hG
      rw [show (((m + 1 : Nat) : Int) - 1) = (m : Int) from by omega]
      have i1 : (m : Int) < (s : Int) := by omega
      go_wp2
      go_roundw
      case rel => exact ⟨m, by omega, rfl, val_int (unhide HD), unhide HO, unhide HG⟩
      case measure => simp [intOf]

theorem laid_all (L : List UInt8) (s : Nat) (n : Int) (h : L.length = s) : laid L 0 s n 0 = be n s := by
  unfold laid
  rw [List.drop_zero, List.take_zero, List.nil_append, List.drop_eq_nil_of_le (by omega), List.append_nil]

theorem wnumber_range {w : World} {p : Nat} {v : Value} {l : List UInt8} (h : IsWriter w p v l) (n s a b : Int) (hr : n < a ∨ b < n) :
    Calls Try.prog 82 #[.pointer (some ⟨p, 0, none⟩), .int .i64 n, .int .i64 s, .int .i64 a, .int .i64 b] w fun e w' => e = .returned (.int .i64 5) ∧ w' = w := by
  have HM := hide (wMade_yes h)
  by_cases h1 : n < a
  · go_enter Try.func82, Try.ntmps82
    go_wp2_with (go_at_call 83; refine (unhide HM).mono ?_; rintro e w' ⟨rfl, rfl⟩)
    go_ret
    exact ⟨rfl, rfl⟩
  · have h2 : b < n := by omega
    go_enter Try.func82, Try.ntmps82
    go_wp2_with (go_at_call 83; refine (unhide HM).mono ?_; rintro e w' ⟨rfl, rfl⟩)
    go_ret
    exact ⟨rfl, rfl⟩

set_option maxHeartbeats 400000 in
theorem wnumber_any {w : World} {p : Nat} {v : Value} {l : List UInt8} (h : IsWriter w p v l) (n a b : Int) (s : Nat) (h1 : ¬ n < a) (h2 : ¬ b < n) (hs : s ≤ 8) :
    Calls Try.prog 82 #[.pointer (some ⟨p, 0, none⟩), .int .i64 n, .int .i64 (s : Int), .int .i64 a, .int .i64 b] w fun e w' =>
      (l.length + s ≤ 1048576 → e = .returned (.int .i64 0) ∧ ∃ v', IsWriter w' p v' (l ++ be n s) ∧ Kept (WT p v) w w' ∧ (∀ k, v'.ownBlock = some k → v.ownBlock = some k ∨ w.heap.size ≤ k)) ∧
      (1048576 < l.length + s → e = .returned (.int .i64 7) ∧ IsWriter w' p v l ∧ Below w.heap.size w w') := by
  obtain ⟨i0, hi, hz0, hz1, hz2⟩ := info_parts info8
  have HM := hide (wMade_yes h)
  go_enter Try.func82, Try.ntmps82
  go_wp2_with (first | (go_at_call 83; refine (unhide HM).mono ?_; rintro e w' ⟨rfl, rfl⟩) | (refine wpList_make_full _ rfl _ _ 25 rfl _ 5 i0 (.int .u8 0) 1 Try.underlying25 hi hz0 hz1 .i64 .i64 _ _ s rfl rfl rfl rfl (by rw [hz2]; omega) (by unfold maxLen; omega) (Nat.le_refl _) ?_))
  intro w1 hown hgr
  have hz : (madeCells #[Value.int .u8 0] s).toList = bvals (List.replicate s 0) := by rw [toList_madeCells_one]; simp [bvals]
  rw [hz] at hown
  have hO1 : OwnB w1 w'.heap.size (.slice (some ⟨w'.heap.size, 0, none⟩) s s) (List.replicate s 0) := by unfold OwnB; rw [List.length_replicate]; exact hown
  have hB1 : Below w'.heap.size w' w1 := below_grown hgr (Nat.le_refl _) (fun k e => by cases e)
  clear hown hgr hz
  go_wp2_with fail
  refine (spread_any (off := 0) (s := s) (c := s) n hO1 (by rw [List.length_replicate]) (by rw [List.length_replicate]; omega) hs).mono ?_
  rintro e w2 ⟨rfl, hO2, hG2⟩
  rw [laid_all _ _ _ (by rw [List.length_replicate])] at hO2
  have hB2 : Below w'.heap.size w' w2 := hB1.grown hG2 hB1.size (fun k e => by cases e; exact Nat.le_refl _)
  have hW2 : IsWriter w2 p v l := h.below hB2
  have hsrc : SrcB w2 (.slice (some ⟨w'.heap.size, 0, none⟩) s s) (be n s) := hO2.src
  clear hO1 hO2 hG2 hB1
  go_wp2_with fail
  by_cases hf : l.length + s ≤ 1048576
  · refine (Put_ok hW2 _ (be n s) hsrc (by rw [be_length]; exact hf)).mono ?_
    rintro e w3 ⟨rfl, v', hW3, hK3, hF3⟩
    have HK : Hid (Kept (WT p v) w' w3) := hide ((Kept.of_below hB2 (fun _ => False)).trans hK3 (fun _ _ h => h.elim) (fun _ _ h => h))
    have HF : Hid (∀ k, v'.ownBlock = some k → v.ownBlock = some k ∨ w'.heap.size ≤ k) := hide (fun k hk => Or.elim (hF3 k hk) Or.inl (fun h => Or.inr (Nat.le_trans hB2.size h)))
    have HW := hide hW3
    clear hW3 hK3 hF3
    go_wp2
    go_ret
    exact ⟨fun _ => ⟨rfl, v', unhide HW, unhide HK, unhide HF⟩, fun h => absurd h (by omega)⟩
  · refine (Put_full hW2 _ (be n s) hsrc (by rw [be_length]; omega) (by rw [be_length]; omega)).mono ?_
    rintro e w3 ⟨rfl, rfl⟩
    go_wp2
    go_ret
    exact ⟨fun h => absurd h hf, fun _ => ⟨rfl, hW2, hB2⟩⟩
end Go.Proofs.Ytkcnkfhdbjiggaa
