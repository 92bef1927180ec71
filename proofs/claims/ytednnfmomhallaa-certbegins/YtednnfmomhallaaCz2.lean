/-
  The contract of the reference's body: the error of what an entry says. Conditions: at most 16 locals; a frame has 24 slots.
-/
import Derived.Test.YtednnfmomhallaaCz1
namespace Go.Proofs.Ytednnfmomhallaa
open Go.RowKit

theorem all_mem {l : List Nat} {p : Nat → Bool} {k t : Nat} (h : l.all p = true) (ht : l[k]? = some t) : p t = true := List.all_eq_true.1 h t (List.mem_of_getElem? ht)

set_option maxRecDepth 20000 in
set_option maxHeartbeats 2000000 in
theorem refBody_any (lo : Nat) (x : En) (w : World) (hlo : lo ≤ 16) (hx : FrOk x.fr) :
    Calls Try.prog 22 #[.int .i64 (lo : Int), .agg (enA x)] w fun e w' => e = .returned (.int .i64 (bodD lo x)) ∧ Below w.heap.size w w' := by
  have HE := hide (EAt.new w x)
  have HB := hide ((Below.refl w.heap.size w).alloc (Nat.le_refl _) (.cells (enA x) 42))
  have hsz : (w.alloc (.cells (enA x) 42)).heap.size = w.heap.size + 1 := by simp
  have HRG := hide (unhide HE).range
  have hll := frL_len hx
  have HF2 : Hid (FAt ((w.alloc (.cells (enA x) 42)).alloc (.cells (frA frZ) 40)) (w.heap.size + 1) frZ) := hide (by have := FAt.new (w.alloc (.cells (enA x) 42)) frZ; rwa [hsz] at this)
  have HB2 := hide ((unhide HB).alloc (by rw [hsz]; omega) (.cells (frA frZ) 40))
  have HF3 := hide ((unhide HF2).row x.fr)
  have HB3 := hide (below_setRow' (unhide HB2) (show w.heap.size ≤ w.heap.size + 1 by omega) (frA x.fr))
  have HE3 : Hid (EAt (((w.alloc (.cells (enA x) 42)).alloc (.cells (frA frZ) 40)).setRow (w.heap.size + 1) (frA x.fr)) w.heap.size x) := hide (EAt.rowOther ((((Below.refl _ _).alloc (Nat.le_refl _) _).block w.heap.size (by rw [hsz]; omega)).trans (unhide HE)) _ (by omega))
  go_enter Try.func22, Try.ntmps22
  go_upto_region 2 with (first | (refine wpList_load_mid rfl 40 (.tmp 8) rfl w.heap.size 2 rfl (frL x.fr) _ (unhide HRG) Try.underlying40 rfl (by rw [hll]; kernel_rfl) ?_) | (refine wpList_store_row rfl 40 (.tmp 5) (.tmp 9) rfl (w.heap.size + 1) (frA x.fr) rfl rfl 40 (frA frZ) (unhide HF2) (sizeFr hx) (sizeEq frZ_ok hx) (frA_one _) ?_))
  rw [frZ_eq]
  generalize ((w.alloc (.cells (enA x) 42)).alloc (.cells (frA frZ) 40)).setRow (w.heap.size + 1) (frA x.fr) = W at HF3 HB3 HE3 ⊢
  have c1 := (unhide HE3).c1
  clear HF2 HB2 HRG HE HB hsz
  cases hd : x.dead
  · rw [hd] at c1
    have HR : Hid (bodD lo x = if x.fr.lo ≠ (lo : Int) ∨ x.fr.he < 0 ∨ 24 - (lo : Int) < x.fr.he then 65
      else if (x.fr.sl.drop ((lo : Int) + x.fr.he).toNat).all (fun t => t == 0) = false then 65
      else if (x.fr.sl.take ((lo : Int) + x.fr.he).toNat).all (fun t => isCd (t : Int)) = false then 62 else 0) := hide (by unfold bodD; rw [if_neg (by rw [hd]; simp)])
    have k0 := (unhide HF3).lo
    have k1 := (unhide HF3).he
    by_cases hl : x.fr.lo = (lo : Int)
    · have b1 := bne_f hl
      by_cases h0 : x.fr.he < 0
      · have HR2 : Hid (bodD lo x = 65) := hide (by rw [unhide HR, if_pos (Or.inr (Or.inl h0))])
        clear hl
        go_wp2
        go_ret
        exact ⟨ret_int (unhide HR2).symm, unhide HB3⟩
      · obtain ⟨he, hhe⟩ : ∃ he : Nat, x.fr.he = (he : Int) := ⟨x.fr.he.toNat, by omega⟩
        rw [hhe] at k1 h0 HR
        by_cases hr : (he : Int) ≤ 24 - (lo : Int)
        · have r1 : ¬ (he : Int) > 24 - (lo : Int) := by omega
          rw [if_neg (by omega), show ((lo : Int) + (he : Int)).toNat = lo + he by omega] at HR
          clear hl hhe
          obtain ⟨n, HN⟩ : ∃ n : Nat, Hid (lo + he = n) := ⟨_, hide rfl⟩
          have hn : n ≤ 24 := by have := unhide HN; omega
          have HNI : Hid ((lo : Int) + (he : Int) = (n : Int)) := hide (by have := unhide HN; omega)
          rw [unhide HN] at HR
          go_wp2
          go_loopw [6] (fun i wr => ∃ k : Nat, n ≤ k ∧ k ≤ 24 ∧ i = .int .i64 (k : Int) ∧ wr = W ∧ Hid (((x.fr.sl.drop n).take (k - n)).all (fun t => t == 0) = true)) (fun i _ => 24 - (intOf i).toNat)
          case atStart => exact ⟨n, by omega, hn, by rw [unhide HNI], rfl, hide (by rw [Nat.sub_self]; rfl)⟩
          case round =>
            obtain ⟨k, hk, hk24, rfl, rfl, HA⟩ := hrel
            by_cases hlt : k < 24
            · have i1 : ((k : Nat) : Int) < 24 := by omega
              have i1' : ((k : Nat) : Int) < ((24 : Nat) : Int) := by omega
              obtain ⟨j, rfl⟩ : ∃ j, k = n + j := ⟨k - n, by omega⟩
              rw [Nat.add_sub_cancel_left] at HA
              obtain ⟨t, ht⟩ : ∃ t, x.fr.sl[n + j]? = some t := ⟨_, List.getElem?_eq_getElem (show n + j < x.fr.sl.length by rw [hx.len]; omega)⟩
              have q : wr.cell? ⟨w.heap.size + 1, 2 + (n + j), none⟩ = some (.int .u8 (t : Int)) := (unhide HF3).slot ht
              by_cases ht0 : t = 0
              · have b2 : ((t : Int) != 0) = false := bne_f (by omega)
                have HA2 := hide (all_step ht (unhide HA) (beq_iff_eq.2 ht0))
                clear ht0 ht
                go_wp2
                go_roundw
                case rel => exact ⟨n + j + 1, by omega, by omega, by go_num, trivial, by rw [show n + j + 1 - n = j + 1 by omega]; exact HA2⟩
                case measure => simp [intOf]; omega
              · have b2 : ((t : Int) != 0) = true := bne_t (by omega)
                have HR2 : Hid (bodD lo x = 65) := hide (by rw [unhide HR, if_pos (all_no (k := j) (by rw [List.getElem?_drop]; exact ht) (by simpa using ht0))])
                clear ht0 ht
                go_wp2
                go_ret
                exact ⟨ret_int (unhide HR2).symm, unhide HB3⟩
            · have i1 : ¬ ((k : Nat) : Int) < 24 := by omega
              have HZ : Hid ((x.fr.sl.drop n).all (fun t => t == 0) = true) := hide (by have := unhide HA; rwa [List.take_of_length_le (by rw [List.length_drop, hx.len]; omega)] at this)
              rw [unhide HZ, if_neg (by simp)] at HR
              clear HA
              go_wp2
              go_loopw [7] (fun i wq => ∃ j : Nat, j ≤ 24 ∧ i = .int .i64 (j : Int) ∧ wq = wr ∧ Hid (((x.fr.sl.drop 0).take j).all (fun t => isCd (t : Int)) = true)) (fun i _ => 24 - (intOf i).toNat)
              case atStart => exact ⟨0, by omega, rfl, rfl, hide rfl⟩
              case round =>
                obtain ⟨j, hj, rfl, rfl, HA⟩ := hrel
                by_cases hlt2 : j < 24
                · have i2 : ((j : Nat) : Int) < 24 := by omega
                  have i2' : ((j : Nat) : Int) < ((24 : Nat) : Int) := by omega
                  obtain ⟨t, ht⟩ : ∃ t, x.fr.sl[0 + j]? = some t := ⟨_, List.getElem?_eq_getElem (show 0 + j < x.fr.sl.length by rw [hx.len]; omega)⟩
                  have ht' : x.fr.sl[j]? = some t := by rw [Nat.zero_add] at ht; exact ht
                  have q := (unhide HF3).slot ht'
                  have HIC := hide (fun W => refIsCode_any (t : Int) W)
                  cases hc : isCd (t : Int)
                  · have HR2 : Hid (bodD lo x = 62) := hide (by
                      rw [unhide HR, if_pos (all_no (k := j) ?_ hc)]
                      by_cases hjn : j < n
                      · rw [List.getElem?_take_of_lt hjn]; exact ht'
                      · have := all_mem (unhide HZ) (k := j - n) (t := t) (by rw [List.getElem?_drop, show n + (j - n) = j by omega]; exact ht')
                        rw [beq_iff_eq.1 this] at hc
                        exact absurd hc (by decide))
                    rw [hc] at HIC
                    clear ht ht' hc
                    go_wp2_with (go_at_call 33; refine (unhide HIC _).mono ?_; rintro e w' ⟨rfl, rfl⟩)
                    go_ret
                    exact ⟨ret_int (unhide HR2).symm, unhide HB3⟩
                  · have HA2 := hide (all_step ht (unhide HA) hc)
                    rw [hc] at HIC
                    clear ht ht' hc
                    go_wp2_with (go_at_call 33; refine (unhide HIC _).mono ?_; rintro e w' ⟨rfl, rfl⟩)
                    go_roundw
                    case rel => exact ⟨j + 1, by omega, by go_num, trivial, HA2⟩
                    case measure => simp [intOf]; omega
                · have i2 : ¬ ((j : Nat) : Int) < 24 := by omega
                  have HR2 : Hid (bodD lo x = 0) := hide (by
                    rw [unhide HR, if_neg]
                    have h1 := unhide HA
                    rw [List.drop_zero, List.take_of_length_le (by rw [hx.len]; omega)] at h1
                    have h2 : (x.fr.sl.take n).all (fun t => isCd (t : Int)) = true := List.all_eq_true.2 (fun t ht => List.all_eq_true.1 h1 t (List.mem_of_mem_take ht))
                    rw [h2]
                    simp)
                  go_wp2
                  go_ret
                  exact ⟨ret_int (unhide HR2).symm, unhide HB3⟩
        · have r1 : (he : Int) > 24 - (lo : Int) := by omega
          have HR2 : Hid (bodD lo x = 65) := hide (by rw [unhide HR, if_pos (Or.inr (Or.inr (by omega)))])
          clear hl hhe
          go_wp2
          go_ret
          exact ⟨ret_int (unhide HR2).symm, unhide HB3⟩
    · have b1 := bne_t hl
      have HR2 : Hid (bodD lo x = 65) := hide (by rw [unhide HR, if_pos (Or.inl hl)])
      clear hl
      go_wp2
      go_ret
      exact ⟨ret_int (unhide HR2).symm, unhide HB3⟩
  · rw [hd] at c1
    have hq := fun W => run_neqFZ W hx
    have HR : Hid (bodD lo x = if frEq x.fr frZ = true then 0 else 65) := hide (by unfold bodD; rw [if_pos hd])
    cases hz : frEq x.fr frZ
    · rw [hz] at hq HR
      go_wp2_with (refine wpList_load_rowG (by kernel_rfl) 40 (.tmp 5) rfl (w.heap.size + 1) rfl 40 (frL x.fr).toArray (0, 0) _ (unhide HF3) Try.underlying40 rfl (sizeFr hx) ?_)
      go_ret
      exact ⟨ret_int (unhide HR).symm, unhide HB3⟩
    · rw [hz] at hq HR
      go_wp2_with (refine wpList_load_rowG (by kernel_rfl) 40 (.tmp 5) rfl (w.heap.size + 1) rfl 40 (frL x.fr).toArray (0, 0) _ (unhide HF3) Try.underlying40 rfl (sizeFr hx) ?_)
      go_ret
      exact ⟨ret_int (unhide HR).symm, unhide HB3⟩
end Go.Proofs.Ytednnfmomhallaa
