/-
  Contracts of cert.fits and of the reference's body: the error of what an entry says. Conditions: at most 16 locals; a frame has 24 slots.
-/
import Derived.Test.YtednnfmomhallaaCrz
import Derived.Deep.MidRow
namespace Go.Proofs.Ytednnfmomhallaa
open Go.RowKit

/-- The error of what an entry says, in a certificate with so many locals. -/
def bodD (lo : Int) (x : En) : Int :=
  if x.dead = true then (if frEq x.fr frZ = true then 0 else 65)
  else if x.fr.lo ≠ lo ∨ x.fr.he < 0 ∨ 24 - lo < x.fr.he then 65
  else if (x.fr.sl.drop (lo + x.fr.he).toNat).all (fun t => t == 0) = false then 65
  else if (x.fr.sl.take (lo + x.fr.he).toNat).all (fun t => isCd (t : Int)) = false then 62 else 0
theorem EAt.range {W : World} {g : Nat} {x : En} (h : EAt W g x) : W.rangeAt g 2 (frL x.fr) := by
  intro j v hj
  rw [cell_of_row _ _ _ _ _ _ h]
  unfold enA enL
  rw [List.getElem?_toArray, Nat.add_comm 2 j]
  simpa using hj

theorem run_uptoFr (W : World) (g n : Nat) (hn : n ≤ 24) :
    (Instr.sliceAt 38 (.pointer (some ⟨g, 2, none⟩)) none (some (.int .i64 (n : Int))) none).run Try.prog W = .ok (.slice (some ⟨g, 2, none⟩) n 24) W := by
  have hl : Try.prog.arrayLen 38 = 24 := by unfold Program.arrayLen; rw [Try.underlying38]
  have hu : Try.prog.underlying 38 = some (.array (Try.prog.arrayLen 38) (Try.prog.elem 38)) := by kernel_rfl
  have hz : ∀ w, (sizeOf (Try.prog.elem 38)).run Try.prog w = .ok 1 w := fun w => by
    have he : Try.prog.elem 38 = 37 := by kernel_rfl
    obtain ⟨i, hi⟩ := infoTy
    rw [he, run_sizeOf w hi, cellsTy]
  rw [run_sliceAt_array_h W _ _ hu .i64 (n : Int) (by omega) (by rw [hl]; omega), hz, hl]
  simp [slicedAt, Addr.add_lit]
theorem all_step {sl : List Nat} {p : Nat → Bool} {i k : Nat} {t : Nat} (ht : sl[i + k]? = some t) (h : ((sl.drop i).take k).all p = true) (hp : p t = true) : ((sl.drop i).take (k + 1)).all p = true := by
  have e : (sl.drop i)[k]? = some t := by rw [List.getElem?_drop]; exact ht
  rw [List.take_add_one, e, List.all_append, h]
  simp [hp]
theorem all_no {l : List Nat} {p : Nat → Bool} {k : Nat} {t : Nat} (ht : l[k]? = some t) (hp : p t = false) : l.all p = false := by
  rw [List.all_eq_false]
  exact ⟨t, List.mem_of_getElem? ht, by rw [hp]; simp⟩
theorem run_neqFZ (w : World) {f : Fr} (hf : FrOk f) : (binOp .neq 40 (.agg (frL f).toArray) (.agg #[.int .i64 0, .int .i64 0, .int .u8 0, .int .u8 0, .int .u8 0, .int .u8 0, .int .u8 0, .int .u8 0, .int .u8 0, .int .u8 0, .int .u8 0, .int .u8 0, .int .u8 0, .int .u8 0, .int .u8 0, .int .u8 0, .int .u8 0, .int .u8 0, .int .u8 0, .int .u8 0, .int .u8 0, .int .u8 0, .int .u8 0, .int .u8 0, .int .u8 0, .int .u8 0])).run Try.prog w = .ok (.bool (!frEq f frZ)) w := by
  rw [frZ_eq]
  exact run_neqFr w hf frZ_ok

set_option maxRecDepth 20000 in
set_option maxHeartbeats 2000000 in
theorem fits_any (lo : Nat) (x : En) (w : World) (hlo : lo ≤ 16) (hx : FrOk x.fr) :
    Calls Try.prog 20 #[.int .i64 (lo : Int), .agg (enA x)] w fun e w' => e = .returned (.int .i64 (bodD lo x)) ∧ Below w.heap.size w w' := by
  have HE := hide (EAt.new w x)
  have HB := hide ((Below.refl w.heap.size w).alloc (Nat.le_refl _) (.cells (enA x) 42))
  have hsz : (w.alloc (.cells (enA x) 42)).heap.size = w.heap.size + 1 := by simp
  have c1 := (unhide HE).c1
  have HRG := hide (unhide HE).range
  have hll := frL_len hx
  go_enter Try.func20, Try.ntmps20
  cases hd : x.dead
  · rw [hd] at c1
    have HF2 : Hid (FAt ((w.alloc (.cells (enA x) 42)).alloc (.cells (frA frZ) 40)) (w.heap.size + 1) frZ) := hide (by have := FAt.new (w.alloc (.cells (enA x) 42)) frZ; rwa [hsz] at this)
    have HB2 := hide ((unhide HB).alloc (by rw [hsz]; omega) (.cells (frA frZ) 40))
    have HF3 := hide ((unhide HF2).row x.fr)
    have HB3 := hide (below_setRow' (unhide HB2) (show w.heap.size ≤ w.heap.size + 1 by omega) (frA x.fr))
    have HR : Hid (bodD lo x = if x.fr.lo ≠ (lo : Int) ∨ x.fr.he < 0 ∨ 24 - (lo : Int) < x.fr.he then 65
      else if (x.fr.sl.drop ((lo : Int) + x.fr.he).toNat).all (fun t => t == 0) = false then 65
      else if (x.fr.sl.take ((lo : Int) + x.fr.he).toNat).all (fun t => isCd (t : Int)) = false then 62 else 0) := hide (by unfold bodD; rw [if_neg (by rw [hd]; simp)])
    go_upto_region 6 with (first | (refine wpList_load_mid rfl 40 (.tmp 16) rfl w.heap.size 2 rfl (frL x.fr) _ (unhide HRG) Try.underlying40 rfl (by rw [hll]; kernel_rfl) ?_) | (refine wpList_store_row rfl 40 (.tmp 5) (.tmp 17) rfl (w.heap.size + 1) (frA x.fr) rfl rfl 40 (frA frZ) (unhide HF2) (sizeFr hx) (sizeEq frZ_ok hx) (frA_one _) ?_))
    rw [frZ_eq]
    generalize ((w.alloc (.cells (enA x) 42)).alloc (.cells (frA frZ) 40)).setRow (w.heap.size + 1) (frA x.fr) = W at HF3 HB3 ⊢
    have k0 := (unhide HF3).lo
    have k1 := (unhide HF3).he
    clear HF2 HB2 HRG HE c1 HB hsz
    by_cases hl : x.fr.lo = (lo : Int)
    · have b1 := bne_f hl
      by_cases h0 : x.fr.he < 0
      · have HR2 : Hid (bodD lo x = 65) := hide (by rw [unhide HR, if_pos (Or.inr (Or.inl h0))])
        clear hl
        go_wp2
        go_ret
        exact ⟨ret_int (unhide HR2).symm, unhide HB3⟩
      · obtain ⟨he, hhe⟩ : ∃ he : Nat, x.fr.he = (he : Int) := ⟨x.fr.he.toNat, by omega⟩
        rw [hhe] at k1 h0 HR
        by_cases hr : (he : Int) ≤ 24 - (lo : Int)
        · rw [if_neg (by omega), show ((lo : Int) + (he : Int)).toNat = lo + he by omega] at HR
          have hHR := hasRoom_any (lo : Int) (he : Int) W (by omega)
          rw [decide_eq_true hr] at hHR
          have HHR := hide hHR
          have hn : lo + he ≤ 24 := by omega
          have hsl := run_fromFr W (w.heap.size + 1) (lo + he) hn
          rw [Int.natCast_add] at hsl
          clear hl hHR hhe
          go_wp2_with (go_at_call 31; refine (unhide HHR).mono ?_; rintro e w' ⟨rfl, rfl⟩)
          obtain ⟨n, HN⟩ : ∃ n : Nat, Hid (lo + he = n) := ⟨_, hide rfl⟩
          obtain ⟨m, hm⟩ : ∃ m : Nat, n + m = 24 := ⟨24 - n, by have := unhide HN; omega⟩
          have e24 : 24 - (lo + he) = m := by have := unhide HN; omega
          rw [e24, unhide HN]
          rw [unhide HN] at hn HR
          have hs2 := run_uptoFr w' (w.heap.size + 1) n hn
          have hs2' : (Instr.sliceAt 38 (.pointer (some ⟨w.heap.size + 1, 2, none⟩)) none (some (.int .i64 ((lo : Int) + (he : Int)))) none).run Try.prog w' = .ok (.slice (some ⟨w.heap.size + 1, 2, none⟩) n 24) w' := by
            rw [← Int.natCast_add, unhide HN]
            exact hs2
          clear hs2 hsl e24
          go_loopw [41] (fun i wr => ∃ k : Nat, k ≤ m ∧ i = .int .i64 (k : Int) ∧ wr = w' ∧ Hid (((x.fr.sl.drop n).take k).all (fun t => t == 0) = true)) (fun i _ => m - (intOf i).toNat)
          case atStart => exact ⟨0, by omega, rfl, rfl, hide rfl⟩
          case round =>
            obtain ⟨k, hk, rfl, rfl, HA⟩ := hrel
            by_cases hlt : k < m
            · have i1 : ((k : Nat) : Int) < ((m : Nat) : Int) := by omega
              obtain ⟨t, ht⟩ : ∃ t, x.fr.sl[n + k]? = some t := ⟨_, List.getElem?_eq_getElem (show n + k < x.fr.sl.length by rw [hx.len]; omega)⟩
              have q : wr.cell? ⟨w.heap.size + 1, 2 + n + k, none⟩ = some (.int .u8 (t : Int)) := by rw [Nat.add_assoc]; exact (unhide HF3).slot ht
              rw [show fromA (w.heap.size + 1) n = ⟨w.heap.size + 1, 2 + n, none⟩ from if_neg (by omega)]
              by_cases ht0 : t = 0
              · have b2 : ((t : Int) != 0) = false := bne_f (by omega)
                have HA2 := hide (all_step ht (unhide HA) (beq_iff_eq.2 ht0))
                clear ht0 ht
                go_wp2
                go_roundw
                case rel => exact ⟨k + 1, by omega, by go_num, trivial, HA2⟩
                case measure => simp [intOf]; omega
              · have b2 : ((t : Int) != 0) = true := bne_t (by omega)
                have HR2 : Hid (bodD lo x = 65) := hide (by rw [unhide HR, if_pos (all_no (k := k) (by rw [List.getElem?_drop]; exact ht) (by simpa using ht0))])
                clear ht0 ht
                go_wp2
                go_ret
                exact ⟨ret_int (unhide HR2).symm, unhide HB3⟩
            · have i1 : ¬ ((k : Nat) : Int) < ((m : Nat) : Int) := by omega
              have HZ : Hid ((x.fr.sl.drop n).all (fun t => t == 0) = true) := hide (by have := unhide HA; rwa [List.take_of_length_le (by rw [List.length_drop, hx.len]; omega)] at this)
              rw [unhide HZ, if_neg (by simp)] at HR
              clear HA
              go_wp2
              go_loopw [55] (fun i wq => ∃ j : Nat, j ≤ n ∧ i = .int .i64 (j : Int) ∧ wq = wr ∧ Hid (((x.fr.sl.drop 0).take j).all (fun t => isCd (t : Int)) = true)) (fun i _ => n - (intOf i).toNat)
              case atStart => exact ⟨0, by omega, rfl, rfl, hide rfl⟩
              case round =>
                obtain ⟨j, hj, rfl, rfl, HA⟩ := hrel
                by_cases hlt2 : j < n
                · have i2 : ((j : Nat) : Int) < ((n : Nat) : Int) := by omega
                  obtain ⟨t, ht⟩ : ∃ t, x.fr.sl[0 + j]? = some t := ⟨_, List.getElem?_eq_getElem (show 0 + j < x.fr.sl.length by rw [hx.len]; omega)⟩
                  have ht' : x.fr.sl[j]? = some t := by rw [Nat.zero_add] at ht; exact ht
                  have q := (unhide HF3).slot ht'
                  have HIC := hide (fun W => isCode_any (t : Int) W)
                  cases hc : isCd (t : Int)
                  · have HR2 : Hid (bodD lo x = 62) := hide (by rw [unhide HR, if_pos (all_no (k := j) (by rw [List.getElem?_take_of_lt hlt2]; exact ht') hc)])
                    rw [hc] at HIC
                    clear ht ht' hc
                    go_wp2_with (go_at_call 32; refine (unhide HIC _).mono ?_; rintro e w' ⟨rfl, rfl⟩)
                    go_ret
                    exact ⟨ret_int (unhide HR2).symm, unhide HB3⟩
                  · have HA2 := hide (all_step ht (unhide HA) hc)
                    rw [hc] at HIC
                    clear ht ht' hc
                    go_wp2_with (go_at_call 32; refine (unhide HIC _).mono ?_; rintro e w' ⟨rfl, rfl⟩)
                    go_roundw
                    case rel => exact ⟨j + 1, by omega, by go_num, trivial, HA2⟩
                    case measure => simp [intOf]; omega
                · have i2 : ¬ ((j : Nat) : Int) < ((n : Nat) : Int) := by omega
                  have HR2 : Hid (bodD lo x = 0) := hide (by
                    rw [unhide HR, if_neg]
                    have := unhide HA
                    rw [List.drop_zero, show j = n by omega] at this
                    rw [this]
                    simp)
                  go_wp2
                  go_ret
                  exact ⟨ret_int (unhide HR2).symm, unhide HB3⟩
        · have HR2 : Hid (bodD lo x = 65) := hide (by rw [unhide HR, if_pos (Or.inr (Or.inr (by omega)))])
          have hHR := hasRoom_any (lo : Int) (he : Int) W (by omega)
          rw [decide_eq_false hr] at hHR
          have HHR := hide hHR
          clear hl hHR hhe
          go_wp2_with (go_at_call 31; refine (unhide HHR).mono ?_; rintro e w' ⟨rfl, rfl⟩)
          go_ret
          exact ⟨ret_int (unhide HR2).symm, unhide HB3⟩
    · have b1 := bne_t hl
      have HR2 : Hid (bodD lo x = 65) := hide (by rw [unhide HR, if_pos (Or.inl hl)])
      clear hl
      go_wp2
      go_ret
      exact ⟨ret_int (unhide HR2).symm, unhide HB3⟩
  · rw [hd] at c1
    have hq := fun W => run_neqFZ W hx
    have HR : Hid (bodD lo x = if frEq x.fr frZ = true then 0 else 65) := hide (by unfold bodD; rw [if_pos hd])
    cases hz : frEq x.fr frZ
    · rw [hz] at hq HR
      go_wp2_with (refine wpList_load_mid rfl 40 (.tmp 12) rfl w.heap.size 2 rfl (frL x.fr) _ (unhide HRG) Try.underlying40 rfl (by rw [hll]; kernel_rfl) ?_)
      go_ret
      exact ⟨ret_int (unhide HR).symm, unhide HB⟩
    · rw [hz] at hq HR
      go_wp2_with (refine wpList_load_mid rfl 40 (.tmp 12) rfl w.heap.size 2 rfl (frL x.fr) _ (unhide HRG) Try.underlying40 rfl (by rw [hll]; kernel_rfl) ?_)
      go_ret
      exact ⟨ret_int (unhide HR).symm, unhide HB⟩
end Go.Proofs.Ytednnfmomhallaa
