/-
  The contracts of provisoref06's after, IsCode and Head. Conditions: lengths fit.
-/
import Derived.Test.YthejnhdabokhjaaCr4
namespace Go.Proofs.Ythejnhdabokhjaa
open Go.RowKit

theorem refAfter_any (p ahead : Int) (w : World) : Calls Try.prog 33 #[.int .i64 p, .int .i64 ahead] w fun e w' => e = .returned (.int .i64 (aftD p ahead)) ∧ w' = w := by
  unfold aftD
  go_enter Try.func33, Try.ntmps33
  by_cases h1 : p < 0
  · rw [if_pos (Or.inl h1)]
    go_wp2
    go_ret
    exact ⟨rfl, rfl⟩
  · by_cases h2 : 4095 < p
    · have j2 : p > 4095 := h2
      rw [if_pos (Or.inr h2)]
      go_wp2
      go_ret
      exact ⟨rfl, rfl⟩
    · have j2 : ¬ p > 4095 := h2
      rw [if_neg (by omega)]
      by_cases h3 : p = ahead
      · have b3 : (p == ahead) = true := beq_iff_eq.2 h3
        rw [if_pos h3]
        clear h3
        go_wp2
        go_ret
        exact ⟨rfl, rfl⟩
      · have b3 : (p == ahead) = false := beq_f h3
        rw [if_neg h3]
        by_cases h4 : p < ahead
        · rw [if_pos h4]
          go_wp2
          go_ret
          exact ⟨rfl, rfl⟩
        · rw [if_neg h4]
          go_wp2
          go_ret
          exact ⟨rfl, rfl⟩
theorem refIsCode_any (t : Int) (w : World) : Calls Try.prog 50 #[.int .u8 t] w fun e w' => e = .returned (.bool (isCd t)) ∧ w' = w := by
  unfold isCd
  go_enter Try.func50, Try.ntmps50
  by_cases h1 : t ≤ 5
  · go_wp2
    go_ret
    exact ⟨by simp [h1], rfl⟩
  · by_cases h2 : 16 ≤ t
    · have j2 : t ≥ 16 := h2
      by_cases h3 : t ≤ 47
      · go_wp2
        go_ret
        exact ⟨by simp, rfl⟩
      · go_wp2
        go_ret
        exact ⟨by simp [h1]; omega, rfl⟩
    · have j2 : ¬ t ≥ 16 := h2
      go_wp2
      go_ret
      exact ⟨by simp [h1]; omega, rfl⟩
/-- What Head answers. -/
def hdV (L : List UInt8) : Value := if (hdE L).2 = 0 then .tuple #[.int .i64 (at8 L 3), .int .i64 (wdD L 4), .int .i64 0, .int .i64 0] else .tuple #[.int .i64 0, .int .i64 0, .int .i64 ((hdE L).1 : Int), .int .i64 (hdE L).2]
theorem hdV_bad {L : List UInt8} {p : Nat} {e : Int} (h : hdE L = (p, e)) (he : e ≠ 0) : hdV L = .tuple #[.int .i64 0, .int .i64 0, .int .i64 (p : Int), .int .i64 e] := by
  unfold hdV
  rw [h, if_neg he]
theorem hdV_good {L : List UInt8} {p : Nat} (h : hdE L = (p, 0)) : hdV L = .tuple #[.int .i64 (at8 L 3), .int .i64 (wdD L 4), .int .i64 0, .int .i64 0] := by
  unfold hdV
  rw [h, if_pos rfl]
theorem results_tmp4 {fn : Func} {a b c d : Tmp} (h : fn.results = #[.tmp a, .tmp b, .tmp c, .tmp d]) (tmps : Array Value) (P : Program) (w : World) :
    (results fn tmps).run P w = .ok (.tuple #[tmps.getD a undef, tmps.getD b undef, tmps.getD c undef, tmps.getD d undef]) w := by
  simp only [results, h]
  simp

set_option maxHeartbeats 4000000 in
theorem refHead_any (ao : Option Addr) (c : Nat) (L : List UInt8) (w : World) (hb : BAt w ao L) (hl : L.length ≤ 140737488355328) :
    Calls Try.prog 23 #[.slice ao L.length c] w fun e w' => e = .returned (hdV L) ∧ Below w.heap.size w w' := by
  have hal := ((Below.refl w.heap.size w).alloc (Nat.le_refl _) (.cells #[.int .u8 112, .int .u8 118, .int .u8 1] 5))
  have HB := hide hal
  have HM : Hid (∀ q, ((w.alloc (.cells #[.int .u8 112, .int .u8 118, .int .u8 1] 5)).drewN q).cell? ⟨w.heap.size, 0, none⟩ = some (.int .u8 112) ∧ ((w.alloc (.cells #[.int .u8 112, .int .u8 118, .int .u8 1] 5)).drewN q).cell? ⟨w.heap.size, 1, none⟩ = some (.int .u8 118) ∧ ((w.alloc (.cells #[.int .u8 112, .int .u8 118, .int .u8 1] 5)).drewN q).cell? ⟨w.heap.size, 2, none⟩ = some (.int .u8 1)) := hide (fun q => ⟨by simp, by simp, by simp⟩)
  have HL := hide (hb.below' hal)
  clear hal hb
  go_enter Try.func23, Try.ntmps23
  go_wp2
  generalize hW : (w.alloc (.cells #[.int .u8 112, .int .u8 118, .int .u8 1] 5)) = W0 at HB HM HL ⊢
  clear hW
  go_loopw [7] (fun i wr => ∃ k : Nat, k ≤ 3 ∧ i = .int .i64 (k : Int) ∧ k ≤ L.length ∧ Hid (hdE L = mkE L (3 - k) k) ∧ ∃ q, wr = W0.drewN q) (fun i _ => 3 - (intOf i).toNat)
  case atStart => exact ⟨0, by omega, rfl, by omega, hide rfl, 0, rfl⟩
  case round =>
    obtain ⟨k, hk, rfl, hkl, HE, q, rfl⟩ := hrel
    have HB1 : Hid (Below w.heap.size w (W0.drewN q)) := hide (belowD (unhide HB) q)
    obtain ⟨m0, m1, m2⟩ := unhide HM 0
    simp only [World.drewN_zero] at m0 m1 m2
    by_cases hk3 : k = 3
    rotate_left
    · have i1 : ((k : Nat) : Int) < 3 := by omega
      by_cases hn : L.length = k
      · have HE2 : Hid (hdE L = (L.length, 2)) := hide (by
          rw [unhide HE, show 3 - k = (2 - k) + 1 by omega]
          exact mkE_short hn.symm)
        have e1 : ((k : Nat) : Int) ≥ ((L.length : Nat) : Int) := by omega
        clear hn hkl
        go_wp2
        exact bodyPost_ret (results_tmp4 rfl _ _ _) rfl ⟨by rw [hdV_bad (unhide HE2) (by decide)]; rfl, unhide HB1⟩
      · rcases (show k = 0 ∨ k = 1 ∨ k = 2 by omega) with rfl | rfl | rfl
        · obtain ⟨b, off, rfl, hc⟩ := (unhide HL).head (by omega)
          have c1 : W0.cell? ⟨b, off, none⟩ = some (.int .u8 (at8 L 0)) := hc 0 (by omega)
          have lo := at8_lo L 0
          have hi := at8_hi L 0
          clear hc
          have i2 : (0 : Int) < ((L.length : Nat) : Int) := by omega
          have n1 : 0 < L.length := by omega
          have hne : L ≠ [] := by intro h; rw [h] at n1; simp at n1
          have e1 : ¬ (0 : Int) ≥ ((L.length : Nat) : Int) := by omega
          have n2 : ¬ L.length ≤ 0 := by omega
          by_cases hm : at8 L 0 = 112
          · have HE2 : Hid (hdE L = mkE L (3 - (0 + 1)) (0 + 1)) := hide (by
              rw [unhide HE]
              exact mkE_step (k := 2) (by omega) hm)
            have b1 : (at8 L 0 != 112) = false := bne_f hm
            generalize at8 L 0 = x at c1 lo hi hm b1
            clear HE hm
            go_wp2_with fail
            go_quiet (fail)
            go_wp2
            go_roundw
            case rel => exact ⟨0 + 1, by omega, by go_num, by omega, HE2, _, rfl⟩
            case measure => simp [intOf]
          · have HE2 : Hid (hdE L = (0, 64)) := hide (by
              rw [unhide HE]
              exact mkE_bad (k := 2) (by omega) (fun h => hm h))
            have b1 : (at8 L 0 != 112) = true := bne_t hm
            generalize at8 L 0 = x at c1 lo hi b1
            clear HE hm
            go_wp2_with fail
            go_quiet (fail)
            go_wp2
            exact bodyPost_ret (results_tmp4 rfl _ _ _) rfl ⟨by rw [hdV_bad (unhide HE2) (by decide)]; rfl, belowD (unhide HB1) _⟩
        · obtain ⟨b, off, rfl, hc⟩ := (unhide HL).head (by omega)
          have c1 : W0.cell? ⟨b, off + 1, none⟩ = some (.int .u8 (at8 L 1)) := hc 1 (by omega)
          have lo := at8_lo L 1
          have hi := at8_hi L 1
          clear hc
          have i2 : (1 : Int) < ((L.length : Nat) : Int) := by omega
          have n1 : 1 < L.length := by omega
          have hne : L ≠ [] := by intro h; rw [h] at n1; simp at n1
          have e1 : ¬ (1 : Int) ≥ ((L.length : Nat) : Int) := by omega
          have n2 : ¬ L.length ≤ 1 := by omega
          by_cases hm : at8 L 1 = 118
          · have HE2 : Hid (hdE L = mkE L (3 - (1 + 1)) (1 + 1)) := hide (by
              rw [unhide HE]
              exact mkE_step (k := 1) (by omega) hm)
            have b1 : (at8 L 1 != 118) = false := bne_f hm
            generalize at8 L 1 = x at c1 lo hi hm b1
            clear HE hm
            go_wp2_with fail
            go_quiet (fail)
            go_wp2
            go_roundw
            case rel => exact ⟨1 + 1, by omega, by go_num, by omega, HE2, _, rfl⟩
            case measure => simp [intOf]
          · have HE2 : Hid (hdE L = (1, 64)) := hide (by
              rw [unhide HE]
              exact mkE_bad (k := 1) (by omega) (fun h => hm h))
            have b1 : (at8 L 1 != 118) = true := bne_t hm
            generalize at8 L 1 = x at c1 lo hi b1
            clear HE hm
            go_wp2_with fail
            go_quiet (fail)
            go_wp2
            exact bodyPost_ret (results_tmp4 rfl _ _ _) rfl ⟨by rw [hdV_bad (unhide HE2) (by decide)]; rfl, belowD (unhide HB1) _⟩
        · obtain ⟨b, off, rfl, hc⟩ := (unhide HL).head (by omega)
          have c1 : W0.cell? ⟨b, off + 2, none⟩ = some (.int .u8 (at8 L 2)) := hc 2 (by omega)
          have lo := at8_lo L 2
          have hi := at8_hi L 2
          clear hc
          have i2 : (2 : Int) < ((L.length : Nat) : Int) := by omega
          have n1 : 2 < L.length := by omega
          have hne : L ≠ [] := by intro h; rw [h] at n1; simp at n1
          have e1 : ¬ (2 : Int) ≥ ((L.length : Nat) : Int) := by omega
          have n2 : ¬ L.length ≤ 2 := by omega
          by_cases hm : at8 L 2 = 1
          · have HE2 : Hid (hdE L = mkE L (3 - (2 + 1)) (2 + 1)) := hide (by
              rw [unhide HE]
              exact mkE_step (k := 0) (by omega) hm)
            have b1 : (at8 L 2 != 1) = false := bne_f hm
            generalize at8 L 2 = x at c1 lo hi hm b1
            clear HE hm
            go_wp2_with fail
            go_quiet (fail)
            go_wp2
            go_roundw
            case rel => exact ⟨2 + 1, by omega, by go_num, by omega, HE2, _, rfl⟩
            case measure => simp [intOf]
          · have HE2 : Hid (hdE L = (2, 64)) := hide (by
              rw [unhide HE]
              exact mkE_bad (k := 0) (by omega) (fun h => hm h))
            have b1 : (at8 L 2 != 1) = true := bne_t hm
            generalize at8 L 2 = x at c1 lo hi b1
            clear HE hm
            go_wp2_with fail
            go_quiet (fail)
            go_wp2
            exact bodyPost_ret (results_tmp4 rfl _ _ _) rfl ⟨by rw [hdV_bad (unhide HE2) (by decide)]; rfl, belowD (unhide HB1) _⟩
    · subst hk3
      by_cases h6 : L.length < 6
      · have HE2 : Hid (hdE L = (L.length, 2)) := hide (by rw [unhide HE]; exact (mkE_zero L 3).trans (if_pos h6))
        have j6 : ((L.length : Nat) : Int) < 6 := by omega
        clear h6
        go_wp2
        exact bodyPost_ret (results_tmp4 rfl _ _ _) rfl ⟨by rw [hdV_bad (unhide HE2) (by decide)]; rfl, unhide HB1⟩
      · have j6 : ¬ ((L.length : Nat) : Int) < 6 := by omega
        obtain ⟨b, off, rfl, hc⟩ := (unhide HL).head (by omega)
        have c3 : W0.cell? ⟨b, off + 3, none⟩ = some (.int .u8 (at8 L 3)) := hc 3 (by omega)
        have c4 : W0.cell? ⟨b, off + 4, none⟩ = some (.int .u8 (at8 L 4)) := hc 4 (by omega)
        have c5 : W0.cell? ⟨b, off + 5, none⟩ = some (.int .u8 (at8 L 5)) := hc 5 (by omega)
        have l3 := at8_lo L 3
        have u3 := at8_hi L 3
        have l4 := at8_lo L 4
        have u4 := at8_hi L 4
        have l5 := at8_lo L 5
        have u5 := at8_hi L 5
        have n3 : 3 < L.length := by omega
        have n4 : 4 < L.length := by omega
        have n5 : 5 < L.length := by omega
        have k3 : (3 : Int) < ((L.length : Nat) : Int) := by omega
        have k4 : (4 : Int) < ((L.length : Nat) : Int) := by omega
        have k5 : (5 : Int) < ((L.length : Nat) : Int) := by omega
        obtain ⟨x3, HX3⟩ : ∃ x, Hid (at8 L 3 = x) := ⟨_, hide rfl⟩
        obtain ⟨x4, HX4⟩ : ∃ x, Hid (at8 L 4 = x) := ⟨_, hide rfl⟩
        obtain ⟨x5, HX5⟩ : ∃ x, Hid (at8 L 5 = x) := ⟨_, hide rfl⟩
        have HWD : Hid (wdD L 4 = x4 * 256 + x5) := hide (by unfold wdD; rw [unhide HX4, unhide HX5])
        have HE2 : Hid (hdE L = if 16 < x3 then (3, 5) else if 4096 < x4 * 256 + x5 then (4, 4) else (0, 0)) := hide (by rw [unhide HE, ← unhide HWD, ← unhide HX3]; exact (mkE_zero L 3).trans (if_neg h6))
        rw [unhide HX3] at c3 l3 u3
        rw [unhide HX4] at c4 l4 u4
        rw [unhide HX5] at c5 l5 u5
        clear hc h6 hkl HE
        by_cases h16 : 16 < x3
        · have j1 : x3 > 16 := h16
          have HE3 : Hid (hdE L = (3, 5)) := hide (by rw [unhide HE2, if_pos h16])
          go_wp2
          exact bodyPost_ret (results_tmp4 rfl _ _ _) rfl ⟨by rw [hdV_bad (unhide HE3) (by decide)]; rfl, unhide HB1⟩
        · have j1 : ¬ x3 > 16 := h16
          go_wp2_with fail
          go_quiet (fail)
          obtain ⟨n, HN⟩ : ∃ n, Hid (256 * x4 + x5 = n) := ⟨_, hide rfl⟩
          rw [unhide HN]
          have HB2 : Hid (Below w.heap.size w ((W0.drewN q).drewN nq)) := hide (belowD (unhide HB1) nq)
          have d3 : ((W0.drewN q).drewN nq).cell? ⟨b, off + 3, none⟩ = some (.int .u8 x3) := c3
          generalize (W0.drewN q).drewN nq = W2 at HB2 d3 ⊢
          have HE3 : Hid (hdE L = if 4096 < n then (4, 4) else (0, 0)) := hide (by rw [unhide HE2, if_neg (by omega), ← unhide HN, show x4 * 256 + x5 = 256 * x4 + x5 by omega])
          by_cases h96 : 4096 < n
          · have j2 : n > 4096 := h96
            have HE4 : Hid (hdE L = (4, 4)) := hide (by rw [unhide HE3, if_pos h96])
            go_wp2
            exact bodyPost_ret (results_tmp4 rfl _ _ _) rfl ⟨by rw [hdV_bad (unhide HE4) (by decide)]; rfl, unhide HB2⟩
          · have j2 : ¬ n > 4096 := h96
            have HE4 : Hid (hdE L = (0, 0)) := hide (by rw [unhide HE3, if_neg h96])
            have HW4 : Hid (wdD L 4 = n) := hide (by rw [unhide HWD, ← unhide HN]; omega)
            go_wp2
            exact bodyPost_ret (results_tmp4 rfl _ _ _) rfl ⟨by rw [hdV_good (unhide HE4), unhide HX3, unhide HW4]; rfl, unhide HB2⟩
end Go.Proofs.Ythejnhdabokhjaa
