/-
  Contracts of provisoref04's fits, put and Encode: the same plain functions as of code.Encode. Conditions: lengths fit.
-/
import Derived.Test.YtihkodfcgfnjoabDoorIn4
import Derived.Test.YtihkodfcgfnjoabDoorApp
namespace Go.Proofs.YtihkodfcgfnjoabDoor
open Go.RowKit

theorem beI_take (n : Int) (s j : Nat) (h : j < s) : (beI n s).take (j + 1) = (beI n s).take j ++ [byI n (s - 1 - j)] := by
  have h2 : j < (beI n s).length := by rw [beI_length]; exact h
  have := beI_get n s j h
  rw [List.getElem?_eq_getElem h2] at this
  injection this with this
  rw [List.take_succ_eq_append_getElem h2, this]
theorem byM (n : Int) (M q : Nat) (h : (M : Int) = n ∨ (M : Int) = n + 4294967296) (hq : q < 4) : ((M / 256 ^ q % 256 : Nat) : Int) = ((byI n q).toNat : Int) := by
  rw [byI_eq]
  rcases (show q = 0 ∨ q = 1 ∨ q = 2 ∨ q = 3 by omega) with rfl | rfl | rfl | rfl
  all_goals
    simp only [Nat.reducePow, Int.reducePow]
    omega

set_option maxHeartbeats 1000000 in
theorem fits_any (n : Int) (k : Nat) (w : World) : Calls Tryd.prog 32 #[.int .i64 n, .int .i64 (k : Int)] w fun e w' => e = .returned (.bool (fitD n k)) ∧ ∃ q, w' = w.drewN q := by
  by_cases h0 : k = 0
  · subst h0
    go_enter Tryd.func32, Tryd.ntmps32
    go_wp2
    go_ret
    exact ⟨ret_bool (by simp [fitD]; rfl), 0, rfl⟩
  by_cases h1 : k = 1
  · subst h1
    by_cases hlo : (0 : Int) ≤ n
    · have d : decide ((0 : Int) ≤ n) = true := decide_eq_true hlo
      go_enter Tryd.func32, Tryd.ntmps32
      go_wp2
      go_ret
      exact ⟨ret_bool (by simp [fitD, d]), 0, rfl⟩
    · have d : decide ((0 : Int) ≤ n) = false := decide_eq_false hlo
      clear hlo
      go_enter Tryd.func32, Tryd.ntmps32
      go_wp2
      go_ret
      exact ⟨ret_bool (by simp [fitD, d]), 0, rfl⟩
  by_cases h2 : k = 2
  · subst h2
    by_cases hlo : (0 : Int) ≤ n
    · have d : decide ((0 : Int) ≤ n) = true := decide_eq_true hlo
      go_enter Tryd.func32, Tryd.ntmps32
      go_wp2
      go_ret
      exact ⟨ret_bool (by simp [fitD, d]), 0, rfl⟩
    · have d : decide ((0 : Int) ≤ n) = false := decide_eq_false hlo
      clear hlo
      go_enter Tryd.func32, Tryd.ntmps32
      go_wp2
      go_ret
      exact ⟨ret_bool (by simp [fitD, d]), 0, rfl⟩
  have e0 : (((k : Nat) : Int) == 0) = false := beq_f (by omega)
  have e1 : (((k : Nat) : Int) == 1) = false := beq_f (by omega)
  have e2 : (((k : Nat) : Int) == 2) = false := beq_f (by omega)
  by_cases hlo : (-2147483648 : Int) ≤ n
  · have d : decide ((-2147483648 : Int) ≤ n) = true := decide_eq_true hlo
    go_enter Tryd.func32, Tryd.ntmps32
    go_wp2
    go_ret
    exact ⟨ret_bool (by simp [fitD, d, h0, h1, h2]), 0, rfl⟩
  · have d : decide ((-2147483648 : Int) ≤ n) = false := decide_eq_false hlo
    clear hlo
    go_enter Tryd.func32, Tryd.ntmps32
    go_wp2
    go_ret
    exact ⟨ret_bool (by simp [fitD, d, h0, h1, h2]), 0, rfl⟩

set_option maxHeartbeats 2000000 in
theorem refPut_any {w : World} {base : Nat} {v : Value} {l : List UInt8} (hb : OwnB w base v l) (hbase : base ≤ w.heap.size) (n : Int) (s : Nat) (hs : s ≤ 4) (hn1 : -2147483648 ≤ n) (hn2 : n ≤ 2147483647) (hl : l.length ≤ 1000) :
    Calls Tryd.prog 33 #[v, .int .i64 n, .int .i64 (s : Int)] w fun e w' => ∃ v', e = .returned v' ∧ OwnB w' base v' (l ++ beI n s) ∧ Below base w w' := by
  have HB := hide hb
  have HL := hide hl
  have HBS := hide hbase
  clear hb hl hbase
  by_cases hneg : n < 0
  · obtain ⟨M, hM⟩ : ∃ M : Nat, (M : Int) = n + 4294967296 := ⟨(n + 4294967296).toNat, by omega⟩
    have HM : Hid ((M : Int) = n ∨ (M : Int) = n + 4294967296) := hide (by omega)
    have HMM := hide hM
    have hM9 : M < 4294967296 := by omega
    clear hM
    go_enter Tryd.func33, Tryd.ntmps33
    go_wp2
    clear hneg hn1 hn2
    go_loopw [0, 7] (fun v i wr => ∃ k : Nat, k ≤ s ∧ i = .int .i64 ((k : Int) - 1) ∧ Hid (OwnB wr base v (l ++ (beI n s).take (s - k))) ∧ Hid (Below base w wr)) (fun _ i _ => (intOf i + 1).toNat)
    case atStart => exact ⟨s, Nat.le_refl _, rfl, hide (by simpa using unhide HB), hide (Below.refl _ _)⟩
    case round =>
      obtain ⟨k, hk, rfl, HO, HW⟩ := hrel
      cases k with
      | zero =>
        have HO' : Hid (OwnB wr base u0 (l ++ beI n s)) := hide (by
          have := unhide HO
          rw [List.take_of_length_le (by rw [beI_length]; omega)] at this
          exact this)
        clear HO
        go_wp2
        go_ret
        exact ⟨_, rfl, unhide HO', unhide HW⟩
      | succ q =>
        rw [show (((q + 1 : Nat) : Int) - 1) = (q : Int) from by omega]
        have hq4 : q < 4 := by omega
        go_wp2
        go_loop [8, 9] (fun kv j => ∃ jj : Nat, jj ≤ q ∧ j = .int .i64 (jj : Int) ∧ kv = .int .i64 ((M / 256 ^ jj : Nat) : Int)) (fun _ j => q - (intOf j).toNat)
        case atStart => exact ⟨0, by omega, rfl, val_int (by rw [Nat.pow_zero, Nat.div_one]; exact (unhide HMM).symm)⟩
        case round =>
          obtain ⟨jj, hj, rfl, rfl⟩ := hrel
          have HDD : Hid (M / 256 ^ jj / 256 = M / 256 ^ (jj + 1)) := hide (by rw [Nat.div_div_eq_div_mul, Nat.pow_succ])
          have hD : M / 256 ^ jj ≤ M := Nat.div_le_self _ _
          obtain ⟨D, HD⟩ : ∃ D, Hid (M / 256 ^ jj = D) := ⟨_, hide rfl⟩
          rw [unhide HD] at hD ⊢
          by_cases hlt : jj < q
          · have i1 : ((jj : Nat) : Int) < ((q : Nat) : Int) := by omega
            go_wp2
            go_round
            case rel => exact ⟨jj + 1, by omega, by go_num, val_int (by rw [← unhide HDD, unhide HD]; rfl)⟩
            case measure => simp [intOf]; omega
          · obtain rfl : jj = q := by omega
            clear HDD hlt hj
            have HA2 : Hid (l ++ (beI n s).take (s - jj) = l ++ (beI n s).take (s - (jj + 1)) ++ [byI n jj]) := hide (by
              rw [List.append_assoc]
              rw [show s - jj = (s - (jj + 1)) + 1 from by omega, beI_take n s (s - (jj + 1)) (by omega), show s - 1 - (s - (jj + 1)) = jj from by omega])
            obtain ⟨R, x, HR, HX2⟩ : ∃ R x, Hid (l ++ (beI n s).take (s - (jj + 1)) = R) ∧ Hid (byI n jj = x) := ⟨_, _, hide rfl, hide rfl⟩
            rw [unhide HR] at HO
            have HBX : Hid ((D : Int) % 256 = (x.toNat : Int)) := hide (by
              have := byM n M jj (unhide HM) hq4
              rw [unhide HD] at this
              rw [← unhide HX2, ← this]
              omega)
            have hRL : R.length ≤ 1004 := by
              have := unhide HL
              rw [← unhide HR, List.length_append, List.length_take, beI_length]; omega
            have hbw : base ≤ wr.heap.size := Nat.le_trans (unhide HBS) (unhide HW).size
            go_wp2_with (at_builtin; refine wpList_appendB rfl _ _ rfl base _ R rfl ((unhide HO).below ((Below.refl _ wr).alloc (Nat.le_refl _) _)) _ [x] rfl (.inr ⟨_, _, rfl, BAt.one wr x _ (unhide HBX) _⟩) ?a3 ?a4 ?_)
            case a3 => (try simp); omega
            case a4 => (try simp); omega
            · intro v' w2 hO2 hG2 hF2 hN2
              rw [← unhide HR, ← unhide HX2, ← unhide HA2] at hO2
              have HO2 := hide hO2
              have HB2 : Hid (Below base w w2) := hide (((unhide HW).alloc hbw _).grown hG2 (by simp; omega) (fun y e => ((unhide HO).lt y e).1))
              clear hG2 hF2 hN2 hO2 hRL
              go_wp2
              go_roundw
              case rel => exact ⟨jj, by omega, by go_num, HO2, HB2⟩
              case measure => simp [intOf]
  · obtain ⟨M, hM⟩ : ∃ M : Nat, (M : Int) = n := ⟨(n).toNat, by omega⟩
    have HM : Hid ((M : Int) = n ∨ (M : Int) = n + 4294967296) := hide (by omega)
    have HMM := hide hM
    have hM9 : M < 4294967296 := by omega
    clear hM
    go_enter Tryd.func33, Tryd.ntmps33
    go_wp2
    clear hneg hn1 hn2
    go_loopw [0, 7] (fun v i wr => ∃ k : Nat, k ≤ s ∧ i = .int .i64 ((k : Int) - 1) ∧ Hid (OwnB wr base v (l ++ (beI n s).take (s - k))) ∧ Hid (Below base w wr)) (fun _ i _ => (intOf i + 1).toNat)
    case atStart => exact ⟨s, Nat.le_refl _, rfl, hide (by simpa using unhide HB), hide (Below.refl _ _)⟩
    case round =>
      obtain ⟨k, hk, rfl, HO, HW⟩ := hrel
      cases k with
      | zero =>
        have HO' : Hid (OwnB wr base u0 (l ++ beI n s)) := hide (by
          have := unhide HO
          rw [List.take_of_length_le (by rw [beI_length]; omega)] at this
          exact this)
        clear HO
        go_wp2
        go_ret
        exact ⟨_, rfl, unhide HO', unhide HW⟩
      | succ q =>
        rw [show (((q + 1 : Nat) : Int) - 1) = (q : Int) from by omega]
        have hq4 : q < 4 := by omega
        go_wp2
        go_loop [8, 9] (fun kv j => ∃ jj : Nat, jj ≤ q ∧ j = .int .i64 (jj : Int) ∧ kv = .int .i64 ((M / 256 ^ jj : Nat) : Int)) (fun _ j => q - (intOf j).toNat)
        case atStart => exact ⟨0, by omega, rfl, val_int (by rw [Nat.pow_zero, Nat.div_one]; exact (unhide HMM).symm)⟩
        case round =>
          obtain ⟨jj, hj, rfl, rfl⟩ := hrel
          have HDD : Hid (M / 256 ^ jj / 256 = M / 256 ^ (jj + 1)) := hide (by rw [Nat.div_div_eq_div_mul, Nat.pow_succ])
          have hD : M / 256 ^ jj ≤ M := Nat.div_le_self _ _
          obtain ⟨D, HD⟩ : ∃ D, Hid (M / 256 ^ jj = D) := ⟨_, hide rfl⟩
          rw [unhide HD] at hD ⊢
          by_cases hlt : jj < q
          · have i1 : ((jj : Nat) : Int) < ((q : Nat) : Int) := by omega
            go_wp2
            go_round
            case rel => exact ⟨jj + 1, by omega, by go_num, val_int (by rw [← unhide HDD, unhide HD]; rfl)⟩
            case measure => simp [intOf]; omega
          · obtain rfl : jj = q := by omega
            clear HDD hlt hj
            have HA2 : Hid (l ++ (beI n s).take (s - jj) = l ++ (beI n s).take (s - (jj + 1)) ++ [byI n jj]) := hide (by
              rw [List.append_assoc]
              rw [show s - jj = (s - (jj + 1)) + 1 from by omega, beI_take n s (s - (jj + 1)) (by omega), show s - 1 - (s - (jj + 1)) = jj from by omega])
            obtain ⟨R, x, HR, HX2⟩ : ∃ R x, Hid (l ++ (beI n s).take (s - (jj + 1)) = R) ∧ Hid (byI n jj = x) := ⟨_, _, hide rfl, hide rfl⟩
            rw [unhide HR] at HO
            have HBX : Hid ((D : Int) % 256 = (x.toNat : Int)) := hide (by
              have := byM n M jj (unhide HM) hq4
              rw [unhide HD] at this
              rw [← unhide HX2, ← this]
              omega)
            have hRL : R.length ≤ 1004 := by
              have := unhide HL
              rw [← unhide HR, List.length_append, List.length_take, beI_length]; omega
            have hbw : base ≤ wr.heap.size := Nat.le_trans (unhide HBS) (unhide HW).size
            go_wp2_with (at_builtin; refine wpList_appendB rfl _ _ rfl base _ R rfl ((unhide HO).below ((Below.refl _ wr).alloc (Nat.le_refl _) _)) _ [x] rfl (.inr ⟨_, _, rfl, BAt.one wr x _ (unhide HBX) _⟩) ?a3 ?a4 ?_)
            case a3 => (try simp); omega
            case a4 => (try simp); omega
            · intro v' w2 hO2 hG2 hF2 hN2
              rw [← unhide HR, ← unhide HX2, ← unhide HA2] at hO2
              have HO2 := hide hO2
              have HB2 : Hid (Below base w w2) := hide (((unhide HW).alloc hbw _).grown hG2 (by simp; omega) (fun y e => ((unhide HO).lt y e).1))
              clear hG2 hF2 hN2 hO2 hRL
              go_wp2
              go_roundw
              case rel => exact ⟨jj, by omega, by go_num, HO2, HB2⟩
              case measure => simp [intOf]
end Go.Proofs.YtihkodfcgfnjoabDoor
