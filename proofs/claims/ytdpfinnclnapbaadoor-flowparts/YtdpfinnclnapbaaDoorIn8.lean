/-
  The contract of provisoref04.take: the number of so many bytes, of four as two's complement. Conditions: the bytes are there.
-/
import Derived.Test.YtdpfinnclnapbaaDoorIn3
namespace Go.Proofs.YtdpfinnclnapbaaDoor
open Go.RowKit
set_option maxRecDepth 20000

/-- What provisoref04.take makes of so many bytes. -/
def tkD (n : Nat) (l : List UInt8) : Int := if n = 4 then (if beNI l < 2147483648 then (beNI l : Int) else (beNI l : Int) - 4294967296) else (beNI l : Int)

set_option maxHeartbeats 1000000 in
theorem refTake_any (ao : Option Addr) (m c n : Nat) (l : List UInt8) (w : World) (hb : BAt w ao l) (hn : n = l.length) (hm : n ≤ m) (h4 : n ≤ 4) :
    Calls Tryd.prog 47 #[.slice ao m c, .int .i64 (n : Int)] w fun e w' => e = .returned (.int .i64 (tkD n l)) ∧ ∃ q, w' = w.drewN q := by
  go_enter Tryd.func47, Tryd.ntmps47
  have HL : Hid (beNI l < 4294967296) := hide (by
    have h1 := beNI_lt l
    have h2 : 256 ^ l.length ≤ 256 ^ 4 := Nat.pow_le_pow_right (by omega) (by omega)
    omega)
  have HNL := hide hn
  go_wp2
  clear hn
  go_loopw [5, 6] (fun v i wr => ∃ q C : Nat, q ≤ n ∧ i = .int .i64 q ∧ v = .int .i64 (C : Int) ∧ C < 256 ^ q ∧ Hid (C = beNI (l.take q)) ∧ ∃ r, wr = w.drewN r) (fun _ i _ => n - (intOf i).toNat)
  case atStart => exact ⟨0, 0, by omega, rfl, rfl, by decide, hide rfl, 0, rfl⟩
  case round =>
    obtain ⟨q, C, hq, rfl, rfl, hC, HC, r, rfl⟩ := hrel
    by_cases hlt : q < n
    · have hlt' : q < l.length := by have := unhide HNL; omega
      obtain ⟨b, off, rfl, hc⟩ := hb.head (by omega)
      have c1 := hc q hlt'
      have lo := at8_lo l q
      have hi := at8_hi l q
      have i1 : ((q : Nat) : Int) < ((n : Nat) : Int) := by omega
      have i2 : ((q : Nat) : Int) < ((m : Nat) : Int) := by omega
      clear hc hb
      have HN := hide (beNI_take l q hlt')
      have hC' : C * 256 + (l.getD q 0).toNat < 256 ^ (q + 1) := by
        have h4 := (l.getD q 0).toNat_lt
        rw [Nat.pow_succ]
        omega
      have HC' := hide hC'
      have hC3 : C < 16777216 := by
        have h1 : 256 ^ q ≤ 256 ^ 3 := Nat.pow_le_pow_right (by omega) (by omega)
        omega
      clear hC' hC
      go_wp2
      go_roundw
      case rel => exact ⟨q + 1, C * 256 + (l.getD q 0).toNat, by omega, by go_num, val_int (by unfold at8; omega), unhide HC', hide (by rw [unhide HN, ← unhide HC]), _, rfl⟩
      case measure => simp [intOf]; omega
    · have HE : Hid (C = beNI l) := hide (by rw [unhide HC, List.take_of_length_le (by have := unhide HNL; omega)])
      have hC2 : C < 4294967296 := by have h1 := unhide HL; rw [← unhide HE] at h1; exact h1
      clear hC
      have HT : Hid (tkD n l = if n = 4 then (if C < 2147483648 then (C : Int) else (C : Int) - 4294967296) else (C : Int)) := hide (by unfold tkD; rw [← unhide HE])
      by_cases hn4 : n = 4
      · have b4 : (((n : Nat) : Int) == 4) = true := beq_t (by omega)
        by_cases hbig : C < 2147483648
        · have HR : Hid (tkD n l = (C : Int)) := hide (by rw [unhide HT, if_pos hn4, if_pos hbig])
          have d1 : decide ((2147483647 : Int) < (C : Int)) = false := decide_eq_false (by omega)
          have j1 : ¬ ((q : Nat) : Int) < ((n : Nat) : Int) := by omega
          clear hn4 hbig
          go_wp2
          go_ret
          exact ⟨ret_int (unhide HR).symm, _, rfl⟩
        · have HR : Hid (tkD n l = (C : Int) - 4294967296) := hide (by rw [unhide HT, if_pos hn4, if_neg hbig])
          have d1 : decide ((2147483647 : Int) < (C : Int)) = true := decide_eq_true (by omega)
          have j1 : ¬ ((q : Nat) : Int) < ((n : Nat) : Int) := by omega
          clear hn4 hbig
          go_wp2
          go_ret
          exact ⟨ret_int (by rw [unhide HR]), _, rfl⟩
      · have b4 : (((n : Nat) : Int) == 4) = false := beq_f (by omega)
        have HR : Hid (tkD n l = (C : Int)) := hide (by rw [unhide HT, if_neg hn4])
        clear hn4
        go_wp2
        go_ret
        exact ⟨ret_int (unhide HR).symm, _, rfl⟩
end Go.Proofs.YtdpfinnclnapbaaDoor
