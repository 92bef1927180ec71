/-
  The walk of the law WireParts: it returns true for every row of bytes and every number, and writes nothing that was there.
-/
import Derived.Test.YtggaecmjadkopaaRoom
import Derived.Test.YtggaecmjadkopaaWithin
namespace Go.Proofs.Ytggaecmjadkopaa
open Go.RowKit

theorem at8_take (l : List UInt8) (k i : Nat) (h : i < k) : at8 (l.take k) i = at8 l i := by
  unfold at8
  rw [List.getD_eq_getElem?_getD, List.getD_eq_getElem?_getD, List.getElem?_take_of_lt h]

set_option maxHeartbeats 1000000 in
theorem walkWireParts {w : World} (ao : Option Addr) (cap : Nat) (l : List UInt8) (h : BAt w ao l) (hn : ao = none → l = []) (hb : l.length ≤ 140737488351232) (n : Int) (_hn : (Lit.int .i64 n).wf = true) :
    Calls Try.prog 8 #[.slice ao l.length cap, .int .i64 n] w fun e w' => e = .returned (.bool true) ∧ Below w.heap.size w w' := by
  have hk := pickN_lt n (l.length + 1) (by omega)
  have hP := fun w => pick_any n (l.length + 1) w (by omega) (by omega)
  rw [show (((l.length + 1 : Nat) : Int)) = (l.length : Int) + 1 from by omega] at hP
  generalize pickN n (l.length + 1) = k at hk hP
  have HP := hide hP
  clear hP
  go_enter Try.func8, Try.ntmps8
  go_wp2_with fail
  refine (Clone_any ao cap l _ h hn (by omega)).mono ?_
  rintro e w1 ⟨v, rfl, hown, hb1, _⟩
  obtain ⟨ao1, cap1, rfl, hbat⟩ := hown.at
  go_wp2_with fail
  refine (Over_any ao1 cap1 l _ hbat (by omega)).mono ?_
  rintro e w2 ⟨p, g, rfl, hp, hg, hR, hb2⟩
  have hB2 : Below w.heap.size w w2 := hb1.trans (hb2.mono hb1.size)
  have hl2 : BAt w2 ao l := (h.below' hb1).below' hb2
  have hz1 := hb1.size
  clear hb1 hb2 hown hbat
  go_wp2_with fail
  refine (At_any hR).mono ?_
  rintro e w3 ⟨rfl, rfl⟩
  go_wp2_with fail
  refine (Left_any hR).mono ?_
  rintro e w4 ⟨rfl, j1, rfl⟩
  go_wp2_with fail
  refine (unhide HP _).mono ?_
  rintro e w5 ⟨rfl, rfl⟩
  go_wp2_with fail
  refine (Within_ok (hR.drewN j1) k (by omega)).mono ?_
  rintro e w6 ⟨q, g', rfl, hq, hg', hS, hM, hG6⟩
  rw [List.drop_zero] at hS
  rw [Nat.zero_add] at hM
  have hpl : p < w3.heap.size := hR.pl
  have hgl : g < w3.heap.size := hR.gl
  have hwp : w.heap.size ≤ p := Nat.le_trans hz1 hp
  have hwq : w.heap.size ≤ q := Nat.le_trans hB2.size hq
  have hpq : p ≠ q := Nat.ne_of_lt (Nat.lt_of_lt_of_le hpl hq)
  have hgq : g ≠ q := Nat.ne_of_lt (Nat.lt_of_lt_of_le hgl hq)
  have hpg : p ≠ g' := Nat.ne_of_lt (Nat.lt_of_lt_of_le hpl hg')
  have hB6 : Below w.heap.size w w6 := (belowD hB2 j1).grown hG6 hB2.size (fun k e => by cases e; exact hwp)
  have hl6 : BAt w6 ao l := h.below' hB6
  have hlen : (l.take k).length = k := by simp; omega
  go_wp2_with fail
  refine (Left_any hS).mono ?_
  rintro e w7 ⟨rfl, j2, rfl⟩
  rw [hlen, Nat.sub_zero]
  go_wp2_with fail
  refine (At_any (hM.drewN j2)).mono ?_
  rintro e w8 ⟨rfl, rfl⟩
  have hB7 := belowD hB6 j2
  have hS7 := hS.drewN j2
  have hM7 := hM.drewN j2
  clear hS hM hB6 hl6 hG6 hR hB2 hl2 hp hg hq hg' hz1
  generalize World.drewN _ j2 = W at hB7 hS7 hM7 ⊢
  go_wp2
  go_loopw [62] (fun c wr => ∃ i : Nat, i ≤ l.length ∧ c = .int .i64 i ∧ IsReader wr q g' k (l.take k) (min i k) ∧ IsReader wr p g l.length l (max i k) ∧ Below w.heap.size w wr) (fun c _ => l.length - (intOf c).toNat)
  case atStart => exact ⟨0, by omega, rfl, by rw [Nat.zero_min]; exact hS7, by rw [Nat.zero_max]; exact hM7, hB7⟩
  case round =>
    obtain ⟨i, hi, rfl, hS, hM, hB⟩ := hrel
    by_cases hlt : i < l.length
    · have hbw : BAt wr ao l := h.below' hB
      obtain ⟨b, off, rfl, hc⟩ := hbw.head (by omega)
      have c1 := hc i hlt
      have lo := at8_lo l i
      have hi8 := at8_hi l i
      have i1 : ((i : Nat) : Int) < ((l.length : Nat) : Int) := by omega
      clear hc hbw
      by_cases hik : i < k
      · rw [Nat.min_eq_left (by omega)] at hS
        rw [Nat.max_eq_right (by omega)] at hM
        have hik' : (i : Int) < (k : Int) := by omega
        go_wp2_with fail
        refine (Byte_ok hS (by rw [hlen]; omega)).mono ?_
        rintro e w9 ⟨rfl, hS9, hG9⟩
        rw [at8_take l k i hik]
        have hM9 := hM.kept hG9 (by simpa using hpq) (by simpa using hgq)
        have hB9 := hB.grown hG9 hB.size (fun k e => by cases e; exact hwq)
        clear hG9 hS hM hB c1
        obtain ⟨m, HM, hS9⟩ : ∃ m, Hid (m = i + 1) ∧ IsReader w9 q g' k (l.take k) m := ⟨_, hide rfl, hS9⟩
        have hmk : m ≤ k := by have := unhide HM; omega
        have f1 : ((k : Int) + ((l.length - k : Nat) : Int) != (l.length : Int)) = false := bne_f (by omega)
        have f2 : ((m : Int) + ((k - m : Nat) : Int) != (k : Int)) = false := bne_f (by omega)
        go_wp2_with fail
        refine (At_any hM9).mono ?_
        rintro e w10 ⟨rfl, rfl⟩
        go_wp2_with fail
        refine (Left_any hM9).mono ?_
        rintro e w11 ⟨rfl, j3, rfl⟩
        go_wp2_with fail
        refine (At_any (hS9.drewN j3)).mono ?_
        rintro e w12 ⟨rfl, rfl⟩
        go_wp2_with fail
        refine (Left_any (hS9.drewN j3)).mono ?_
        rintro e w13 ⟨rfl, j4, rfl⟩
        rw [hlen]
        go_wp2
        go_roundw
        case rel => exact ⟨i + 1, by omega, by go_num, by rw [Nat.min_eq_left (by omega), ← unhide HM]; exact hS9.drewN _, by rw [Nat.max_eq_right (by omega)]; exact hM9.drewN _, belowD hB9 _⟩
        case measure => simp [intOf]; omega
      · rw [Nat.min_eq_right (by omega)] at hS
        rw [Nat.max_eq_left (by omega)] at hM
        have hik' : ¬ (i : Int) < (k : Int) := by omega
        go_wp2_with fail
        refine (Byte_ok hM (by omega)).mono ?_
        rintro e w9 ⟨rfl, hM9, hG9⟩
        have hS9 := hS.kept hG9 (by simpa using fun e => hpq e.symm) (by simpa using fun e => hpg e.symm)
        have hB9 := hB.grown hG9 hB.size (fun k e => by cases e; exact hwp)
        clear hG9 hS hM hB c1
        obtain ⟨m, HM, hM9⟩ : ∃ m, Hid (m = i + 1) ∧ IsReader w9 p g l.length l m := ⟨_, hide rfl, hM9⟩
        have hmk : m ≤ l.length := by have := unhide HM; omega
        have f1 : ((m : Int) + ((l.length - m : Nat) : Int) != (l.length : Int)) = false := bne_f (by omega)
        have f2 : ((k : Int) + ((k - k : Nat) : Int) != (k : Int)) = false := bne_f (by omega)
        go_wp2_with fail
        refine (At_any hM9).mono ?_
        rintro e w10 ⟨rfl, rfl⟩
        go_wp2_with fail
        refine (Left_any hM9).mono ?_
        rintro e w11 ⟨rfl, j3, rfl⟩
        go_wp2_with fail
        refine (At_any (hS9.drewN j3)).mono ?_
        rintro e w12 ⟨rfl, rfl⟩
        go_wp2_with fail
        refine (Left_any (hS9.drewN j3)).mono ?_
        rintro e w13 ⟨rfl, j4, rfl⟩
        rw [hlen]
        go_wp2
        go_roundw
        case rel => exact ⟨i + 1, by omega, by go_num, by rw [Nat.min_eq_right (by omega)]; exact hS9.drewN _, by rw [Nat.max_eq_left (by omega), ← unhide HM]; exact hM9.drewN _, belowD hB9 _⟩
        case measure => simp [intOf]; omega
    · have hE : i = l.length := by omega
      rw [hE, Nat.min_eq_right (by omega)] at hS
      rw [hE, Nat.max_eq_left (by omega)] at hM
      clear hE
      go_wp2_with fail
      refine (End_any hS).mono ?_
      rintro e w9 ⟨rfl, j3, rfl⟩
      rw [hlen, if_neg (Nat.lt_irrefl _)]
      go_wp2_with fail
      refine (End_any (hM.drewN j3)).mono ?_
      rintro e w10 ⟨rfl, j4, rfl⟩
      rw [if_neg (Nat.lt_irrefl _)]
      go_wp2
      go_ret
      exact ⟨rfl, belowD hB _⟩
end Go.Proofs.Ytggaecmjadkopaa
