/-
  The contract of the reader's frame: the frame whose Height stands at a place, or the fault. Conditions: the reader is one that Open made, its bytes lie there.
-/
import Derived.Test.YtednnfmomhallaaCr4
namespace Go.Proofs.Ytednnfmomhallaa
open Go.RowKit

set_option maxRecDepth 20000 in
set_option maxHeartbeats 8000000 in
theorem frame_any {gr : Nat} {ao : Option Addr} {c : Nat} {L : List UInt8} {lo : Nat} {k at_ told ahead : Int} (p : Nat) (w : World) (hR : RAt w gr (.slice ao L.length c) lo k at_ told ahead) (hb : BAt w ao L) (hl : L.length ≤ 562949953421312) (hlo : lo ≤ 16) (hp : p ≤ L.length) :
    Calls Try.prog 43 #[.pointer (some ⟨gr, 0, none⟩), .int .i64 (p : Int)] w fun e w' => Below w.heap.size w w' ∧ (((frE L lo p).2 = 0 ∧ FrOk (frX L lo p) ∧ frN L lo p ≤ L.length ∧ e = .returned (.tuple #[.agg (frA (frX L lo p)), .int .i64 (frN L lo p : Int), ftV 0 0])) ∨ ((frE L lo p).2 ≠ 0 ∧ e = .returned (.tuple #[.agg (frA frZ), .int .i64 0, ftV (frE L lo p).1 (frE L lo p).2]))) := by
  have HR := hide hR
  have HBt := hide hb
  have hal := ((Below.refl w.heap.size w).alloc (Nat.le_refl _) (.cells (frA frZ) 40))
  have hal2 := hal.alloc (by simp) (.cells #[.int .i64 0, .int .i64 0] 58)
  have HF4 : Hid (FAt ((w.alloc (.cells (frA frZ) 40)).alloc (.cells #[.int .i64 0, .int .i64 0] 58)) w.heap.size frZ) := hide ((FAt.new w frZ).below ((Below.refl _ _).alloc (Nat.le_refl _) _) (by simp))
  have HF6 : Hid (FtAt ((w.alloc (.cells (frA frZ) 40)).alloc (.cells #[.int .i64 0, .int .i64 0] 58)) (w.heap.size + 1) 0 0) := hide (by
    have := heap_alloc_new (w.alloc (.cells (frA frZ) 40)) (.cells #[.int .i64 0, .int .i64 0] 58)
    rw [World.size_alloc] at this
    exact this)
  have HB := hide hal2
  have hrl : gr < w.heap.size := hR.lt
  clear hal hal2 hR hb
  go_enter Try.func43, Try.ntmps43
  have cr0 := (((unhide HR).below (unhide HB))).c0
  rw [← frZ_eq] at cr0
  by_cases hlen : L.length = p
  · have e1 : (((L.length : Nat) : Int) == ((p : Nat) : Int)) = true := by simp [hlen]
    have HE : Hid (frE L lo p = (L.length, 2)) := hide (if_pos (by omega))
    clear hlen
    go_wp2_with fail
    clear cr0
    rw [frZ_eq]
    generalize ((w.alloc (.cells (frA frZ) 40)).alloc (.cells #[.int .i64 0, .int .i64 0] 58)) = W0 at HF4 HF6 HB ⊢
    refine (short_any ao c L.length _).mono ?_
    rintro e W9 ⟨rfl, hB9⟩
    have HF4 := hide ((unhide HF4).below hB9 (unhide HF4).lt)
    have HF6 := hide ((unhide HF6).below hB9)
    have HB := hide ((unhide HB).trans (hB9.mono (unhide HB).size))
    clear hB9
    unfold ftV
    have F4' := hide ((unhide HF4).row frZ)
    have F6' : Hid (FtAt (W9.setRow w.heap.size (frA frZ)) (w.heap.size + 1) 0 0) := hide ((setRow_other W9 w.heap.size (w.heap.size + 1) _ (by omega)).trans (unhide HF6))
    have B' := hide (below_setRow' (unhide HB) (Nat.le_refl _) (frA frZ))
    have f0 := (unhide F6').c0
    have f1 := (unhide F6').c1
    have z0 := (unhide F6').f 0
    have z1 := (unhide F6').f 1
    go_wp2_with (refine wpList_store_row rfl 40 _ _ rfl w.heap.size (frA frZ) rfl rfl 40 (frA frZ) (unhide HF4) (sizeFr frZ_ok) rfl (frA_one _) ?_)
    have hE := unhide HE
    exact bodyPost_ret (v := .tuple #[.agg (frA frZ), .int .i64 0, ftV L.length 2]) (results_fr_ft rfl _ _ w.heap.size (w.heap.size + 1) frZ frZ_ok 0 L.length 2 rfl rfl rfl ((unhide F4').chain (by omega) _ _) ((unhide F6').chain L.length 2)) rfl ⟨below_chain2 (unhide B') (by omega) _ _, Or.inr ⟨by rw [hE]; simp, by rw [hE] <;> rfl⟩⟩
  · have e1 : (((L.length : Nat) : Int) == ((p : Nat) : Int)) = false := beq_f (by omega)
    have hpl : p < L.length := by omega
    have i1 : ((p : Nat) : Int) < ((L.length : Nat) : Int) := by omega
    obtain ⟨x, HX⟩ : ∃ x, Hid (at8 L p = x) := ⟨_, hide rfl⟩
    have lox : 0 ≤ x := by rw [← unhide HX]; exact at8_lo L p
    have hix : x ≤ 255 := by rw [← unhide HX]; exact at8_hi L p
    have HE : Hid (frE L lo p = if (24 : Int) - lo < x then (p, 65) else sltE L (lo + (L.getD p 0).toNat) (p + 1)) := hide (by rw [← unhide HX]; exact if_neg (by omega))
    obtain ⟨b, off, rfl, hc⟩ := (unhide HBt).head (by omega)
    have HCX : Hid (w.cell? ⟨b, off + p, none⟩ = some (.int .u8 x)) := hide (by rw [← unhide HX]; exact hc p hpl)
    have hbl : b < w.heap.size := World.block_lt_of_cell? w _ (unhide HCX)
    clear hc hlen
    go_wp2_with fail
    clear cr0
    rw [frZ_eq]
    generalize ((w.alloc (.cells (frA frZ) 40)).alloc (.cells #[.int .i64 0, .int .i64 0] 58)) = W0 at HF4 HF6 HB ⊢
    have HF4 : Hid (FAt W0.drew w.heap.size frZ) := hide (unhide HF4)
    have HF6 : Hid (FtAt W0.drew (w.heap.size + 1) 0 0) := hide (unhide HF6)
    have HB : Hid (Below w.heap.size w W0.drew) := hide ((unhide HB).trans ⟨rfl, rfl, rfl, Nat.le_refl _, fun _ _ => rfl⟩)
    have hS0 : W0.drew.cell? ⟨gr, 1, none⟩ = some (.int .i64 (lo : Int)) ∧ W0.drew.cell? ⟨gr, 0, none⟩ = some (.slice (some ⟨b, off, none⟩) L.length c) ∧ W0.drew.cell? ⟨b, off + p, none⟩ = some (.int .u8 x) := ⟨((unhide HR).below (unhide HB)).c1, ((unhide HR).below (unhide HB)).c0, ((unhide HB).cell (p := ⟨b, off + p, none⟩) hbl).trans (unhide HCX)⟩
    refine wp_region_held_drew (S := fun w' => w'.cell? ⟨gr, 1, none⟩ = some (.int .i64 (lo : Int)) ∧ w'.cell? ⟨gr, 0, none⟩ = some (.slice (some ⟨b, off, none⟩) L.length c) ∧ w'.cell? ⟨b, off + p, none⟩ = some (.int .u8 x)) (by kernel_rfl) hS0 (fun hS => ?_)
    clear hS0
    generalize W0.drew = W1 at HF4 HF6 HB hS ⊢
    have wrx : IntKind.i64.wrap x = x := by simp [IntKind.wrap, IntKind.bits, IntKind.signed]; omega
    refine wpAnyH_take (i := 0) (v := .pointer (some ⟨gr, 0, none⟩)) rfl (by kernel_rfl) (by kernel_rfl) (by kernel_rfl) (fun _ _ _ h => h) (Or.inl ⟨by rfl, fun w _ => by go_simp⟩) hS ?_
    refine wpAnyH_take (i := 1) (v := .pointer (some ⟨gr, 0, none⟩)) rfl (by kernel_rfl) (by kernel_rfl) (by kernel_rfl) (fun _ _ _ h => h) (Or.inl ⟨by rfl, fun w _ => by go_simp⟩) hS ?_
    refine wpAnyH_take (i := 2) (v := .pointer (some ⟨gr, 1, none⟩)) rfl (by kernel_rfl) (by kernel_rfl) (by kernel_rfl) (fun _ _ _ h => h) (Or.inl ⟨by rfl, fun w _ => by go_simp⟩) hS ?_
    refine wpAnyH_take (i := 3) (v := .int .i64 (lo : Int)) rfl (by kernel_rfl) (by kernel_rfl) (by kernel_rfl) (fun _ _ _ h => h) (Or.inl ⟨by rfl, fun w hS => by obtain ⟨_, _, _⟩ := hS; go_simp⟩) hS ?_
    refine wpAnyH_take (i := 4) (v := .pointer (some ⟨gr, 0, none⟩)) rfl (by kernel_rfl) (by kernel_rfl) (by kernel_rfl) (fun _ _ _ h => h) (Or.inl ⟨by rfl, fun w _ => by go_simp⟩) hS ?_
    refine wpAnyH_take (i := 5) (v := .pointer (some ⟨gr, 0, none⟩)) rfl (by kernel_rfl) (by kernel_rfl) (by kernel_rfl) (fun _ _ _ h => h) (Or.inl ⟨by rfl, fun w _ => by go_simp⟩) hS ?_
    refine wpAnyH_take (i := 6) (v := .pointer (some ⟨gr, 0, none⟩)) rfl (by kernel_rfl) (by kernel_rfl) (by kernel_rfl) (fun _ _ _ h => h) (Or.inl ⟨by rfl, fun w _ => by go_simp⟩) hS ?_
    refine wpAnyH_take (i := 7) (v := .slice (some ⟨b, off, none⟩) L.length c) rfl (by kernel_rfl) (by kernel_rfl) (by kernel_rfl) (fun _ _ _ h => h) (Or.inl ⟨by rfl, fun w hS => by obtain ⟨_, _, _⟩ := hS; go_simp⟩) hS ?_
    refine wpAnyH_take (i := 8) (v := .int .i64 (p : Int)) rfl (by kernel_rfl) (by kernel_rfl) (by kernel_rfl) (fun _ _ _ h => h) (Or.inl ⟨by rfl, fun w _ => by go_simp⟩) hS ?_
    refine wpAnyH_take (i := 9) (v := .pointer (some ⟨b, off + p, none⟩)) rfl (by kernel_rfl) (by kernel_rfl) (by kernel_rfl) (fun _ _ _ h => h) (Or.inl ⟨by rfl, fun w _ => by go_simp⟩) hS ?_
    refine wpAnyH_take (i := 10) (v := .int .u8 x) rfl (by kernel_rfl) (by kernel_rfl) (by kernel_rfl) (fun _ _ _ h => h) (Or.inl ⟨by rfl, fun w hS => by obtain ⟨_, _, _⟩ := hS; go_simp⟩) hS ?_
    refine wpAnyH_take (i := 11) (v := .int .i64 x) rfl (by kernel_rfl) (by kernel_rfl) (by kernel_rfl) (fun _ _ _ h => h) (Or.inl ⟨by rfl, fun w _ => by go_simp⟩) hS ?_
    refine wpAnyH_take (i := 12) (v := .agg (frA ⟨lo, x, List.replicate 24 0⟩)) rfl (by kernel_rfl) (by kernel_rfl) (by kernel_rfl) (fun _ _ _ h => h) (Or.inl ⟨by rfl, fun w _ => by go_simp; rfl⟩) hS ?_
    refine wpAnyH_ready (rs := [13]) (by kernel_rfl) (by simp) ?_
    refine AllReadyH.cons rfl (fun K hK => ?_) AllReadyH.nil
    go_simp
    have hal : Below W1.heap.size W1 (W1.alloc (.cells (frA frZ) 40)) := (Below.refl _ _).alloc (Nat.le_refl _) _
    have HF7 : Hid (FAt (W1.alloc (.cells (frA frZ) 40)) W1.heap.size frZ) := hide (FAt.new W1 frZ)
    have o47 : w.heap.size < W1.heap.size := (unhide HF4).lt
    have o67 : w.heap.size + 1 < W1.heap.size := (unhide HF6).lt
    have HF4 := hide ((unhide HF4).below hal (unhide HF4).lt)
    have HF6 := hide ((unhide HF6).below hal)
    have HB := hide ((unhide HB).trans (hal.mono (unhide HB).size))
    have hS1 : (W1.alloc (.cells (frA frZ) 40)).cell? ⟨gr, 1, none⟩ = some (.int .i64 (lo : Int)) ∧ (W1.alloc (.cells (frA frZ) 40)).cell? ⟨gr, 0, none⟩ = some (.slice (some ⟨b, off, none⟩) L.length c) ∧ (W1.alloc (.cells (frA frZ) 40)).cell? ⟨b, off + p, none⟩ = some (.int .u8 x) := ⟨(hal.cell (p := ⟨gr, 1, none⟩) (World.block_lt_of_cell? W1 _ hS.1)).trans hS.1, (hal.cell (p := ⟨gr, 0, none⟩) (World.block_lt_of_cell? W1 _ hS.2.1)).trans hS.2.1, (hal.cell (p := ⟨b, off + p, none⟩) (World.block_lt_of_cell? W1 _ hS.2.2)).trans hS.2.2⟩
    refine hK.out _ _ hS1 (fun hS2 => ?_)
    clear hK K hal hS
    rw [frZ_eq]
    clear hS2
    have hS2 := hS1
    clear hS1
    generalize (W1.alloc (.cells (frA frZ) 40)) = W2 at HF4 HF6 HF7 HB hS2 ⊢
    generalize W1.heap.size = g7 at HF7 o47 o67 ⊢
    refine wpAnyH_ready (rs := [14]) (by kernel_rfl) (by simp) ?_
    refine AllReadyH.cons rfl (fun K hK => ?_) AllReadyH.nil
    rw [if_pos (by rfl)]
    have hf0 : FrOk ⟨lo, x, List.replicate 24 0⟩ := ⟨by simp, fun t ht => by rw [List.eq_of_mem_replicate ht]; omega, ⟨by show _ ≤ (lo : Int); omega, by show (lo : Int) ≤ _; omega⟩, ⟨by show _ ≤ x; omega, by show x ≤ _; omega⟩⟩
    refine wp_store_row 40 _ _ rfl g7 (frA ⟨lo, x, List.replicate 24 0⟩) rfl rfl 40 (frA frZ) (unhide HF7) (sizeFr hf0) (sizeEq frZ_ok hf0) (frA_one _) ?_
    have bW : Below g7 W2 (W2.setRow g7 (frA ⟨lo, x, List.replicate 24 0⟩)) := below_setRow' (Below.refl _ _) (Nat.le_refl _) _
    have HF7 := hide ((unhide HF7).row ⟨lo, x, List.replicate 24 0⟩)
    have HF4 := hide ((unhide HF4).rowOther ⟨lo, x, List.replicate 24 0⟩ (show w.heap.size ≠ g7 by omega))
    have HF6 : Hid (FtAt (W2.setRow g7 (frA ⟨lo, x, List.replicate 24 0⟩)) (w.heap.size + 1) 0 0) := hide ((setRow_other W2 g7 (w.heap.size + 1) _ (by omega)).trans (unhide HF6))
    have HB := hide (below_setRow' (unhide HB) (show w.heap.size ≤ g7 by omega) (frA ⟨lo, x, List.replicate 24 0⟩))
    have hS3 : (W2.setRow g7 (frA ⟨lo, x, List.replicate 24 0⟩)).cell? ⟨gr, 1, none⟩ = some (.int .i64 (lo : Int)) ∧ (W2.setRow g7 (frA ⟨lo, x, List.replicate 24 0⟩)).cell? ⟨gr, 0, none⟩ = some (.slice (some ⟨b, off, none⟩) L.length c) ∧ (W2.setRow g7 (frA ⟨lo, x, List.replicate 24 0⟩)).cell? ⟨b, off + p, none⟩ = some (.int .u8 x) := ⟨(bW.cell (p := ⟨gr, 1, none⟩) (by show gr < g7; omega)).trans hS2.1, (bW.cell (p := ⟨gr, 0, none⟩) (by show gr < g7; omega)).trans hS2.2.1, (bW.cell (p := ⟨b, off + p, none⟩) (by show b < g7; omega)).trans hS2.2.2⟩
    refine hK.out _ _ hS3 (fun hS4 => ?_)
    clear hK K hS4 hS3 hS2 bW
    generalize (W2.setRow g7 (frA ⟨lo, x, List.replicate 24 0⟩)) = W3 at HF4 HF6 HF7 HB ⊢
    refine wpAnyH_done (by kernel_rfl) ?_ _
    have c0 := (unhide HF7).lo
    have c1 := (unhide HF7).he
    simp only at c0 c1
    go_wp2_with fail
    refine (hasRoom_any (lo : Int) x _ ⟨by omega, by omega⟩).mono ?_
    rintro e W3 ⟨rfl, rfl⟩
    by_cases h24 : x ≤ 24 - (lo : Int)
    rotate_left
    · have HE2 : Hid (frE L lo p = (p, 65)) := hide (by rw [unhide HE, if_pos (by omega)])
      have hd : decide (x ≤ 24 - (lo : Int)) = false := decide_eq_false h24
      rw [hd]
      clear h24 hd c0 c1
      have F4' := hide ((unhide HF4).row frZ)
      have F6' : Hid (FtAt (W3.setRow w.heap.size (frA frZ)) (w.heap.size + 1) 0 0) := hide ((setRow_other W3 w.heap.size (w.heap.size + 1) _ (by omega)).trans (unhide HF6))
      have B' := hide (below_setRow' (unhide HB) (Nat.le_refl _) (frA frZ))
      have f0 := (unhide F6').c0
      have f1 := (unhide F6').c1
      have z0 := (unhide F6').f 0
      have z1 := (unhide F6').f 1
      go_wp2_with (refine wpList_store_row rfl 40 _ _ rfl w.heap.size (frA frZ) rfl rfl 40 (frA frZ) (unhide HF4) (sizeFr frZ_ok) rfl (frA_one _) ?_)
      have hE := unhide HE2
      exact bodyPost_ret (v := .tuple #[.agg (frA frZ), .int .i64 0, ftV (p : Int) 65]) (results_fr_ft rfl _ _ w.heap.size (w.heap.size + 1) frZ frZ_ok 0 (p : Int) 65 rfl rfl rfl ((unhide F4').chain (by omega) _ _) ((unhide F6').chain (p : Int) 65)) rfl ⟨below_chain2 (unhide B') (by omega) _ _, Or.inr ⟨by rw [hE]; simp, by rw [hE] <;> rfl⟩⟩
    have hd : decide (x ≤ 24 - (lo : Int)) = true := decide_eq_true h24
    rw [hd]
    obtain ⟨xn, rfl⟩ : ∃ xn : Nat, x = (xn : Int) := ⟨x.toNat, by omega⟩
    have hxn : (L.getD p 0).toNat = xn := by have := unhide HX; unfold at8 at this; omega
    obtain ⟨n, HN⟩ : ∃ n, Hid (lo + xn = n) := ⟨_, hide rfl⟩
    have hn24 : n ≤ 24 := by rw [← unhide HN]; omega
    have HE2 : Hid (frE L lo p = sltE L n (p + 1)) := hide (by rw [unhide HE, if_neg (by omega), hxn, unhide HN])
    have HFX : Hid (frX L lo p = ⟨lo, xn, sltD L (p + 1) n⟩ ∧ frN L lo p = p + 1 + n) := hide (by unfold frX frN; rw [unhide HX, hxn, unhide HN]; exact ⟨rfl, rfl⟩)
    have hadd : (lo : Int) + (xn : Int) = (n : Int) := by rw [← unhide HN]; omega
    have HF7 : Hid (FAt W3 g7 ⟨lo, xn, sltD L (p + 1) 0⟩) := hide (by rw [sltD_zero]; exact unhide HF7)
    clear hd HE hxn
    go_wp2
    clear hadd c0 c1
    go_loopw [1, 49] (fun pv i wr => ∃ k : Nat, k ≤ n ∧ i = .int .i64 (k : Int) ∧ pv = .int .i64 ((p : Int) + (k : Int)) ∧ p + k < L.length ∧ Hid (frE L lo p = sltE L (n - k) (p + 1 + k)) ∧ Hid (FAt wr g7 ⟨lo, xn, sltD L (p + 1) k⟩) ∧ Hid (FAt wr w.heap.size frZ) ∧ Hid (FtAt wr (w.heap.size + 1) 0 0) ∧ Hid (Below w.heap.size w wr)) (fun _ i _ => n - (intOf i).toNat)
    case atStart => exact ⟨0, by omega, rfl, by simp, hpl, HE2, HF7, HF4, HF6, HB⟩
    case round =>
      clear HF7 HF4 HF6 HB HE2
      obtain ⟨k, hk, rfl, rfl, hpk, HE2, HF7, HF4, HF6, HB⟩ := hrel
      have cr := ((unhide HR).below (unhide HB)).c0
      by_cases hkn : k < n
      · have j1 : ((k : Nat) : Int) < ((n : Nat) : Int) := by omega
        by_cases hlen : L.length = p + k + 1
        · have HE3 : Hid (frE L lo p = (L.length, 2)) := hide (by
            rw [unhide HE2, show n - k = (n - k - 1) + 1 by omega]
            exact if_pos (by omega))
          have e2 : (((L.length : Nat) : Int) == ((p : Int) + (k : Int) + 1)) = true := by simp; omega
          clear hlen hpk
          go_wp2_with fail
          refine (short_any (some ⟨b, off, none⟩) c L.length _).mono ?_
          rintro e W9 ⟨rfl, hB9⟩
          have HF4 := hide ((unhide HF4).below hB9 (unhide HF4).lt)
          have HF6 := hide ((unhide HF6).below hB9)
          have HB := hide ((unhide HB).trans (hB9.mono (unhide HB).size))
          clear hB9
          unfold ftV
          have F4' := hide ((unhide HF4).row frZ)
          have F6' : Hid (FtAt (W9.setRow w.heap.size (frA frZ)) (w.heap.size + 1) 0 0) := hide ((setRow_other W9 w.heap.size (w.heap.size + 1) _ (by omega)).trans (unhide HF6))
          have B' := hide (below_setRow' (unhide HB) (Nat.le_refl _) (frA frZ))
          have f0 := (unhide F6').c0
          have f1 := (unhide F6').c1
          have z0 := (unhide F6').f 0
          have z1 := (unhide F6').f 1
          go_wp2_with (refine wpList_store_row rfl 40 _ _ rfl w.heap.size (frA frZ) rfl rfl 40 (frA frZ) (unhide HF4) (sizeFr frZ_ok) rfl (frA_one _) ?_)
          have hE := unhide HE3
          exact bodyPost_ret (v := .tuple #[.agg (frA frZ), .int .i64 0, ftV L.length 2]) (results_fr_ft rfl _ _ w.heap.size (w.heap.size + 1) frZ frZ_ok 0 L.length 2 rfl rfl rfl ((unhide F4').chain (by omega) _ _) ((unhide F6').chain L.length 2)) rfl ⟨below_chain2 (unhide B') (by omega) _ _, Or.inr ⟨by rw [hE]; simp, by rw [hE] <;> rfl⟩⟩
        · have e2 : (((L.length : Nat) : Int) == ((p : Int) + (k : Int) + 1)) = false := beq_f (by omega)
          have hq : p + k + 1 < L.length := by omega
          have i2 : (p : Int) + (k : Int) + 1 < ((L.length : Nat) : Int) := by omega
          obtain ⟨yn, HY⟩ : ∃ yn, Hid ((L.getD (p + 1 + k) 0).toNat = yn) := ⟨_, hide rfl⟩
          have hy256 : yn < 256 := by rw [← unhide HY]; exact (L.getD (p + 1 + k) 0).toNat_lt
          have cy : wr.cell? ⟨b, off + (p + k + 1), none⟩ = some (.int .u8 (yn : Int)) := by
            obtain ⟨b2, off2, e3, hc⟩ := ((unhide HBt).below' (unhide HB)).head (by omega)
            injection e3 with e3
            injection e3 with e3 e4
            subst e3 e4
            have := hc (p + k + 1) hq
            unfold at8 at this
            rw [show p + k + 1 = p + 1 + k by omega] at this ⊢
            rw [this, unhide HY]
          have hz : (sltD L (p + 1) k)[k]? = some 0 := by
            have hl2 : (((L.drop (p + 1)).take k).map UInt8.toNat).length = k := by simp; omega
            unfold sltD
            rw [List.getElem?_append_right (by omega), hl2, Nat.sub_self, List.getElem?_replicate, if_pos (by omega)]
          have ck := (unhide HF7).slot (i := k) hz
          have zk := (unhide HF7).frozen (2 + k)
          have j24 : ((k : Nat) : Int) < 24 := by omega
          have HEs : Hid (sltE L (n - k) (p + 1 + k) = if isCd (yn : Int) = false then (p + 1 + k, 62) else sltE L (n - (k + 1)) (p + 1 + (k + 1))) := hide (by
            rw [show n - k = (n - (k + 1)) + 1 by omega]
            show (if L.length ≤ p + 1 + k then _ else if isCd (at8 L (p + 1 + k)) = false then _ else _) = _
            rw [if_neg (by omega), show at8 L (p + 1 + k) = (yn : Int) by unfold at8; rw [unhide HY]]
            rfl)
          have HF7' : Hid (FAt (wr.setCell ⟨g7, 2 + k, none⟩ (.int .u8 (yn : Int))) g7 ⟨lo, xn, sltD L (p + 1) (k + 1)⟩) := hide (by
            have := (unhide HF7).set k yn
            rw [← unhide HY] at this ⊢
            rw [← sltD_step (by omega) (by omega)]
            exact this)
          have HF4' := hide ((unhide HF4).cellOther ⟨g7, 2 + k, none⟩ (.int .u8 (yn : Int)) (show w.heap.size ≠ g7 by omega))
          have HF6' : Hid (FtAt (wr.setCell ⟨g7, 2 + k, none⟩ (.int .u8 (yn : Int))) (w.heap.size + 1) 0 0) := hide ((heap_setCell_other wr ⟨g7, 2 + k, none⟩ (w.heap.size + 1) _ (show w.heap.size + 1 ≠ g7 by omega)).trans (unhide HF6))
          have HB' := hide ((unhide HB).setCell (p := ⟨g7, 2 + k, none⟩) (show w.heap.size ≤ g7 by omega) (.int .u8 (yn : Int)))
          clear hz hlen
          go_wp2_with fail
          clear cy ck zk cr HF7 HF4 HF6 HB
          generalize (wr.setCell ⟨g7, 2 + k, none⟩ (.int .u8 (yn : Int))) = W5 at HF7' HF4' HF6' HB' ⊢
          refine (isCode_any (yn : Int) _).mono ?_
          rintro e W5 ⟨rfl, rfl⟩
          cases hcd : isCd (yn : Int)
          · have HE3 : Hid (frE L lo p = (p + 1 + k, 62)) := hide (by rw [unhide HE2, unhide HEs, if_pos hcd])
            have HF4 := HF4'
            have HF6 := HF6'
            have HB := HB'
            have F4' := hide ((unhide HF4).row frZ)
            have F6' : Hid (FtAt (W5.setRow w.heap.size (frA frZ)) (w.heap.size + 1) 0 0) := hide ((setRow_other W5 w.heap.size (w.heap.size + 1) _ (by omega)).trans (unhide HF6))
            have B' := hide (below_setRow' (unhide HB) (Nat.le_refl _) (frA frZ))
            have f0 := (unhide F6').c0
            have f1 := (unhide F6').c1
            have z0 := (unhide F6').f 0
            have z1 := (unhide F6').f 1
            go_wp2_with (refine wpList_store_row rfl 40 _ _ rfl w.heap.size (frA frZ) rfl rfl 40 (frA frZ) (unhide HF4) (sizeFr frZ_ok) rfl (frA_one _) ?_)
            have hE := unhide HE3
            exact bodyPost_ret (v := .tuple #[.agg (frA frZ), .int .i64 0, ftV ((p : Int) + (k : Int) + 1) 62]) (results_fr_ft rfl _ _ w.heap.size (w.heap.size + 1) frZ frZ_ok 0 ((p : Int) + (k : Int) + 1) 62 rfl rfl rfl ((unhide F4').chain (by omega) _ _) ((unhide F6').chain ((p : Int) + (k : Int) + 1) 62)) rfl ⟨below_chain2 (unhide B') (by omega) _ _, Or.inr ⟨by rw [hE]; simp, by rw [hE]; rw [show ((p + 1 + k : Nat) : Int) = (p : Int) + (k : Int) + 1 by omega]⟩⟩
          · have HE3 : Hid (frE L lo p = sltE L (n - (k + 1)) (p + 1 + (k + 1))) := hide (by rw [unhide HE2, unhide HEs, if_neg (by rw [hcd]; simp)])
            clear hcd HEs HE2
            go_wp2
            go_roundw
            case rel => exact ⟨k + 1, by omega, by go_num, by go_num, by omega, HE3, HF7', HF4', HF6', HB'⟩
            case measure => simp [intOf]; omega
      · have j1 : ¬ ((k : Nat) : Int) < ((n : Nat) : Int) := by omega
        have ek : k = n := by omega
        subst ek
        have HE3 : Hid ((frE L lo p).2 = 0) := hide (by rw [unhide HE2, Nat.sub_self]; rfl)
        have hfx : FrOk ⟨lo, xn, sltD L (p + 1) k⟩ := ⟨sltD_len (by omega) (by omega), sltD_byte, ⟨by show _ ≤ (lo : Int); omega, by show (lo : Int) ≤ _; omega⟩, ⟨by show _ ≤ (xn : Int); omega, by show (xn : Int) ≤ _; omega⟩⟩
        obtain ⟨f, HFF⟩ : ∃ f : Fr, Hid ((⟨lo, xn, sltD L (p + 1) k⟩ : Fr) = f) := ⟨_, hide rfl⟩
        rw [unhide HFF] at hfx HF7 HFX
        have F4' := hide ((unhide HF4).row f)
        have F6' : Hid (FtAt (wr.setRow w.heap.size (frA f)) (w.heap.size + 1) 0 0) := hide ((setRow_other wr w.heap.size (w.heap.size + 1) _ (by omega)).trans (unhide HF6))
        have B' := hide (below_setRow' (unhide HB) (Nat.le_refl _) (frA f))
        have f0 := (unhide F6').c0
        have f1 := (unhide F6').c1
        have z0 := (unhide F6').f 0
        have z1 := (unhide F6').f 1
        go_wp2_with (first | (refine wpList_store_row rfl 40 _ _ rfl w.heap.size (frA f) rfl rfl 40 (frA frZ) (unhide HF4) (sizeFr hfx) (sizeEq frZ_ok hfx) (frA_one _) ?_) | (refine wpList_load_row rfl 40 _ rfl g7 rfl 40 (frA f) (0, 0) _ (unhide HF7) Try.underlying40 rfl (sizeFr hfx) ?_))
        refine bodyPost_ret (v := .tuple #[.agg (frA f), .int .i64 ((p : Int) + (k : Int) + 1), ftV 0 0]) (results_fr_ft rfl _ _ w.heap.size (w.heap.size + 1) f hfx _ 0 0 rfl rfl rfl ((unhide F4').chain (by omega) _ _) ((unhide F6').chain 0 0)) rfl ⟨below_chain2 (unhide B') (by omega) _ _, Or.inl ⟨unhide HE3, by rw [(unhide HFX).1]; exact hfx, by rw [(unhide HFX).2]; omega, ?_⟩⟩
        rw [(unhide HFX).1, (unhide HFX).2, show ((p + 1 + k : Nat) : Int) = (p : Int) + (k : Int) + 1 by omega]
end Go.Proofs.Ytednnfmomhallaa
