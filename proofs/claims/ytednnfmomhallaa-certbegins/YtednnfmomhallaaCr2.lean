/-
  The head of a certificate: the contracts of cert.open and of provisoref06.Head. Conditions: lengths fit.
-/
import Derived.Test.YtednnfmomhallaaCr1
import Derived.Deep.RegionHeld3
namespace Go.Proofs.Ytednnfmomhallaa
open Go.RowKit

def mkD (i : Nat) : Int := ([112, 118, 1] : List Int).getD i 0
/-- Place and error of the head, if one of the first bytes is wrong. -/
def mkE (L : List UInt8) : Nat → Nat → Nat × Int
  | 0, _ => if L.length < 6 then (L.length, 2) else if 16 < at8 L 3 then (3, 5) else if 4096 < wdD L 4 then (4, 4) else (0, 0)
  | k + 1, i => if i = L.length then (L.length, 2) else if at8 L i ≠ mkD i then (i, 64) else mkE L k (i + 1)
theorem mkE_zero (L : List UInt8) (i : Nat) : mkE L 0 i = if L.length < 6 then (L.length, 2) else if 16 < at8 L 3 then (3, 5) else if 4096 < wdD L 4 then (4, 4) else (0, 0) := rfl
theorem mkE_step {L : List UInt8} {k i : Nat} (h1 : i ≠ L.length) (h2 : at8 L i = mkD i) : mkE L (k + 1) i = mkE L k (i + 1) := (if_neg h1).trans (if_neg (fun h => h h2))
theorem mkE_bad {L : List UInt8} {k i : Nat} (h1 : i ≠ L.length) (h2 : at8 L i ≠ mkD i) : mkE L (k + 1) i = (i, 64) := (if_neg h1).trans (if_pos h2)
theorem mkE_short {L : List UInt8} {k i : Nat} (h1 : i = L.length) : mkE L (k + 1) i = (L.length, 2) := if_pos h1
def hdE (L : List UInt8) : Nat × Int := mkE L 3 0
/-- A reader, in a block. -/
def RAt (W : World) (g : Nat) (v : Value) (lo n at_ told ahead : Int) : Prop := W.heap[g]? = some (.cells #[v, .int .i64 lo, .int .i64 n, .int .i64 at_, .int .i64 told, .int .i64 ahead] 62 (0, 0))
theorem RAt.lt {W : World} {g : Nat} {v : Value} {lo n at_ told ahead : Int} (h : RAt W g v lo n at_ told ahead) : g < W.heap.size := (Array.getElem?_eq_some_iff.1 h).1
theorem RAt.c0 {W : World} {g : Nat} {v : Value} {lo n at_ told ahead : Int} (h : RAt W g v lo n at_ told ahead) : W.cell? ⟨g, 0, none⟩ = some v := cell_of_row _ _ 0 _ _ _ h
theorem RAt.c1 {W : World} {g : Nat} {v : Value} {lo n at_ told ahead : Int} (h : RAt W g v lo n at_ told ahead) : W.cell? ⟨g, 1, none⟩ = some (.int .i64 lo) := cell_of_row _ _ 1 _ _ _ h
theorem RAt.c2 {W : World} {g : Nat} {v : Value} {lo n at_ told ahead : Int} (h : RAt W g v lo n at_ told ahead) : W.cell? ⟨g, 2, none⟩ = some (.int .i64 n) := cell_of_row _ _ 2 _ _ _ h
theorem RAt.c3 {W : World} {g : Nat} {v : Value} {lo n at_ told ahead : Int} (h : RAt W g v lo n at_ told ahead) : W.cell? ⟨g, 3, none⟩ = some (.int .i64 at_) := cell_of_row _ _ 3 _ _ _ h
theorem RAt.c4 {W : World} {g : Nat} {v : Value} {lo n at_ told ahead : Int} (h : RAt W g v lo n at_ told ahead) : W.cell? ⟨g, 4, none⟩ = some (.int .i64 told) := cell_of_row _ _ 4 _ _ _ h
theorem RAt.c5 {W : World} {g : Nat} {v : Value} {lo n at_ told ahead : Int} (h : RAt W g v lo n at_ told ahead) : W.cell? ⟨g, 5, none⟩ = some (.int .i64 ahead) := cell_of_row _ _ 5 _ _ _ h
theorem RAt.f {W : World} {g : Nat} {v : Value} {lo n at_ told ahead : Int} (h : RAt W g v lo n at_ told ahead) (i : Nat) : W.frozen? ⟨g, i, none⟩ = false := frozen_of_row _ _ _ _ _ h
theorem RAt.below {W W' : World} {g : Nat} {v : Value} {lo n at_ told ahead : Int} (h : RAt W g v lo n at_ told ahead) (hb : Below W.heap.size W W') : RAt W' g v lo n at_ told ahead := (hb.block g h.lt).trans h
theorem RAt.other2 {W : World} {g k : Nat} {v : Value} {lo n at_ told ahead : Int} (h : RAt W g v lo n at_ told ahead) (hne : g ≠ k) (v0 v1 : Value) : RAt ((W.setCell ⟨k, 0, none⟩ v0).setCell ⟨k, 1, none⟩ v1) g v lo n at_ told ahead :=
  (heap_setCell_other _ _ g _ hne).trans ((heap_setCell_other _ _ g _ hne).trans h)

set_option maxHeartbeats 4000000 in
theorem open_any (ao : Option Addr) (c : Nat) (L : List UInt8) (w : World) (hb : BAt w ao L) (hl : L.length ≤ 562949953421312) :
    Calls Try.prog 29 #[.slice ao L.length c] w fun e w' => Below w.heap.size w w' ∧ (((hdE L).2 = 0 ∧ ∃ g, w.heap.size ≤ g ∧ e = .returned (.tuple #[.pointer (some ⟨g, 0, none⟩), ftV 0 0]) ∧ RAt w' g (.slice ao L.length c) (at8 L 3) (wdD L 4) 6 0 (-1)) ∨ ((hdE L).2 ≠ 0 ∧ e = .returned (.tuple #[.pointer none, ftV (hdE L).1 (hdE L).2]))) := by
  have hal := ((Below.refl w.heap.size w).alloc (Nat.le_refl _) (.cells #[.int .i64 0, .int .i64 0] 58))
  have HB := hide hal
  have HF : Hid (FtAt (w.alloc (.cells #[.int .i64 0, .int .i64 0] 58)) w.heap.size 0 0) := hide (heap_alloc_new w _)
  have HL := hide (hb.below' hal)
  clear hal hb
  go_enter Try.func29, Try.ntmps29
  go_wp2
  generalize hW : (w.alloc (.cells #[.int .i64 0, .int .i64 0] 58)) = W0 at HB HF HL ⊢
  clear hW
  go_loopw [6] (fun i wr => ∃ k : Nat, k ≤ 3 ∧ i = .int .i64 (k : Int) ∧ k ≤ L.length ∧ Hid (hdE L = mkE L (3 - k) k) ∧ ∃ q, wr = W0.drewN q) (fun i _ => 3 - (intOf i).toNat)
  case atStart => exact ⟨0, by omega, rfl, by omega, hide rfl, 0, rfl⟩
  case round =>
    obtain ⟨k, hk, rfl, hkl, HE, q, rfl⟩ := hrel
    have HB1 : Hid (Below w.heap.size w (W0.drewN q)) := hide (belowD (unhide HB) q)
    have HF1 : Hid (FtAt (W0.drewN q) w.heap.size 0 0) := hide (unhide HF)
    have HL1 : Hid (BAt (W0.drewN q) ao L) := hide ((unhide HL).drewN q)
    have HQ1 : Hid (Below W0.heap.size W0 (W0.drewN q)) := hide (belowD (Below.refl _ _) q)
    by_cases hk3 : k = 3
    rotate_left
    · by_cases hn : L.length = k
      · have HE2 : Hid (hdE L = (L.length, 2)) := hide (by
          rw [unhide HE, show 3 - k = (2 - k) + 1 by omega]
          exact mkE_short hn.symm)
        have i1 : ((k : Nat) : Int) < 3 := by omega
        have e1 : (((k : Nat) : Int) == ((L.length : Nat) : Int)) = true := by simp [hn]
        clear hn HE HL HB HF
        generalize W0.drewN q = W1 at HB1 HF1 HL1 HQ1 ⊢
        go_wp2_with fail
        refine (short_any ao c L.length _).mono ?_
        rintro e W2 ⟨rfl, hB2⟩
        have HB2 := hide ((unhide HB1).trans (hB2.mono (unhide HB1).size))
        have HF2 : Hid (FtAt W2 w.heap.size 0 0) := hide ((unhide HF1).below hB2)
        clear hB2 HF1 HB1 HL1 HQ1
        unfold ftV
        have f0 := (unhide HF2).c0
        have f1 := (unhide HF2).c1
        have z0 := (unhide HF2).f 0
        have z1 := (unhide HF2).f 1
        go_wp2
        have hE := unhide HE2
        exact bodyPost_ret (v := .tuple #[.pointer none, ftV L.length 2]) (results_ft2 rfl _ _ w.heap.size (.pointer none) L.length 2 rfl rfl ((unhide HF2).chain L.length 2)) rfl ⟨below_chain2 (unhide HB2) (Nat.le_refl _) _ _, Or.inr ⟨by rw [hE]; simp, by rw [hE] <;> rfl⟩⟩
      · rcases (show k = 0 ∨ k = 1 ∨ k = 2 by omega) with rfl | rfl | rfl
        · obtain ⟨b, off, rfl, hc⟩ := (unhide HL).head (by omega)
          have c1 : W0.cell? ⟨b, off, none⟩ = some (.int .u8 (at8 L 0)) := hc 0 (by omega)
          have lo := at8_lo L 0
          have hi := at8_hi L 0
          clear hc
          have i2 : (0 : Int) < ((L.length : Nat) : Int) := by omega
          have n1 : 0 < L.length := by omega
          have hne : L ≠ [] := by intro h; rw [h] at n1; simp at n1
          have e1 : ((0 : Int) == ((L.length : Nat) : Int)) = false := beq_f (by omega)
          by_cases hm : at8 L 0 = 112
          · have HE2 : Hid (hdE L = mkE L (3 - (0 + 1)) (0 + 1)) := hide (by
              rw [unhide HE]
              exact mkE_step (k := 2) (by omega) hm)
            have b1 : (at8 L 0 != 112) = false := bne_f hm
            generalize at8 L 0 = x at c1 lo hi hm b1
            clear HE HB1 HF1 HL1 HQ1 hm
            go_wp2_with fail
            go_quiet (fail)
            rw [show (((⟨#[112, 118, 1]⟩ : ByteArray)[0]'(by decide)).toNat : Int) = 112 by decide, b1]
            go_wp2
            go_roundw
            case rel => exact ⟨0 + 1, by omega, by go_num, by omega, HE2, _, rfl⟩
            case measure => simp [intOf]
          · have HE2 : Hid (hdE L = (0, 64)) := hide (by
              rw [unhide HE]
              exact mkE_bad (k := 2) (by omega) (fun h => hm h))
            have b1 : (at8 L 0 != 112) = true := bne_t hm
            generalize at8 L 0 = x at c1 lo hi b1
            clear HE HB1 HF1 HL1 HQ1 hm
            go_wp2_with fail
            go_quiet (fail)
            rw [show (((⟨#[112, 118, 1]⟩ : ByteArray)[0]'(by decide)).toNat : Int) = 112 by decide, b1]
            have HB1 : Hid (Below w.heap.size w ((W0.drewN q).drewN nq)) := hide (belowD (belowD (unhide HB) q) nq)
            have HF1 : Hid (FtAt ((W0.drewN q).drewN nq) w.heap.size 0 0) := hide (unhide HF)
            generalize (W0.drewN q).drewN nq = W2 at HB1 HF1 ⊢
            have f0 := (unhide HF1).c0
            have f1 := (unhide HF1).c1
            have z0 := (unhide HF1).f 0
            have z1 := (unhide HF1).f 1
            go_wp2
            have hE := unhide HE2
            exact bodyPost_ret (v := .tuple #[.pointer none, ftV 0 64]) (results_ft2 rfl _ _ w.heap.size (.pointer none) 0 64 rfl rfl ((unhide HF1).chain 0 64)) rfl ⟨below_chain2 (unhide HB1) (Nat.le_refl _) _ _, Or.inr ⟨by rw [hE]; simp, by rw [hE] <;> rfl⟩⟩
        · obtain ⟨b, off, rfl, hc⟩ := (unhide HL).head (by omega)
          have c1 : W0.cell? ⟨b, off + 1, none⟩ = some (.int .u8 (at8 L 1)) := hc 1 (by omega)
          have lo := at8_lo L 1
          have hi := at8_hi L 1
          clear hc
          have i2 : (1 : Int) < ((L.length : Nat) : Int) := by omega
          have n1 : 1 < L.length := by omega
          have hne : L ≠ [] := by intro h; rw [h] at n1; simp at n1
          have e1 : ((1 : Int) == ((L.length : Nat) : Int)) = false := beq_f (by omega)
          by_cases hm : at8 L 1 = 118
          · have HE2 : Hid (hdE L = mkE L (3 - (1 + 1)) (1 + 1)) := hide (by
              rw [unhide HE]
              exact mkE_step (k := 1) (by omega) hm)
            have b1 : (at8 L 1 != 118) = false := bne_f hm
            generalize at8 L 1 = x at c1 lo hi hm b1
            clear HE HB1 HF1 HL1 HQ1 hm
            go_wp2_with fail
            go_quiet (fail)
            rw [show (((⟨#[112, 118, 1]⟩ : ByteArray)[1]'(by decide)).toNat : Int) = 118 by decide, b1]
            go_wp2
            go_roundw
            case rel => exact ⟨1 + 1, by omega, by go_num, by omega, HE2, _, rfl⟩
            case measure => simp [intOf]
          · have HE2 : Hid (hdE L = (1, 64)) := hide (by
              rw [unhide HE]
              exact mkE_bad (k := 1) (by omega) (fun h => hm h))
            have b1 : (at8 L 1 != 118) = true := bne_t hm
            generalize at8 L 1 = x at c1 lo hi b1
            clear HE HB1 HF1 HL1 HQ1 hm
            go_wp2_with fail
            go_quiet (fail)
            rw [show (((⟨#[112, 118, 1]⟩ : ByteArray)[1]'(by decide)).toNat : Int) = 118 by decide, b1]
            have HB1 : Hid (Below w.heap.size w ((W0.drewN q).drewN nq)) := hide (belowD (belowD (unhide HB) q) nq)
            have HF1 : Hid (FtAt ((W0.drewN q).drewN nq) w.heap.size 0 0) := hide (unhide HF)
            generalize (W0.drewN q).drewN nq = W2 at HB1 HF1 ⊢
            have f0 := (unhide HF1).c0
            have f1 := (unhide HF1).c1
            have z0 := (unhide HF1).f 0
            have z1 := (unhide HF1).f 1
            go_wp2
            have hE := unhide HE2
            exact bodyPost_ret (v := .tuple #[.pointer none, ftV 1 64]) (results_ft2 rfl _ _ w.heap.size (.pointer none) 1 64 rfl rfl ((unhide HF1).chain 1 64)) rfl ⟨below_chain2 (unhide HB1) (Nat.le_refl _) _ _, Or.inr ⟨by rw [hE]; simp, by rw [hE] <;> rfl⟩⟩
        · obtain ⟨b, off, rfl, hc⟩ := (unhide HL).head (by omega)
          have c1 : W0.cell? ⟨b, off + 2, none⟩ = some (.int .u8 (at8 L 2)) := hc 2 (by omega)
          have lo := at8_lo L 2
          have hi := at8_hi L 2
          clear hc
          have i2 : (2 : Int) < ((L.length : Nat) : Int) := by omega
          have n1 : 2 < L.length := by omega
          have hne : L ≠ [] := by intro h; rw [h] at n1; simp at n1
          have e1 : ((2 : Int) == ((L.length : Nat) : Int)) = false := beq_f (by omega)
          by_cases hm : at8 L 2 = 1
          · have HE2 : Hid (hdE L = mkE L (3 - (2 + 1)) (2 + 1)) := hide (by
              rw [unhide HE]
              exact mkE_step (k := 0) (by omega) hm)
            have b1 : (at8 L 2 != 1) = false := bne_f hm
            generalize at8 L 2 = x at c1 lo hi hm b1
            clear HE HB1 HF1 HL1 HQ1 hm
            go_wp2_with fail
            go_quiet (fail)
            rw [show (((⟨#[112, 118, 1]⟩ : ByteArray)[2]'(by decide)).toNat : Int) = 1 by decide, b1]
            go_wp2
            go_roundw
            case rel => exact ⟨2 + 1, by omega, by go_num, by omega, HE2, _, rfl⟩
            case measure => simp [intOf]
          · have HE2 : Hid (hdE L = (2, 64)) := hide (by
              rw [unhide HE]
              exact mkE_bad (k := 0) (by omega) (fun h => hm h))
            have b1 : (at8 L 2 != 1) = true := bne_t hm
            generalize at8 L 2 = x at c1 lo hi b1
            clear HE HB1 HF1 HL1 HQ1 hm
            go_wp2_with fail
            go_quiet (fail)
            rw [show (((⟨#[112, 118, 1]⟩ : ByteArray)[2]'(by decide)).toNat : Int) = 1 by decide, b1]
            have HB1 : Hid (Below w.heap.size w ((W0.drewN q).drewN nq)) := hide (belowD (belowD (unhide HB) q) nq)
            have HF1 : Hid (FtAt ((W0.drewN q).drewN nq) w.heap.size 0 0) := hide (unhide HF)
            generalize (W0.drewN q).drewN nq = W2 at HB1 HF1 ⊢
            have f0 := (unhide HF1).c0
            have f1 := (unhide HF1).c1
            have z0 := (unhide HF1).f 0
            have z1 := (unhide HF1).f 1
            go_wp2
            have hE := unhide HE2
            exact bodyPost_ret (v := .tuple #[.pointer none, ftV 2 64]) (results_ft2 rfl _ _ w.heap.size (.pointer none) 2 64 rfl rfl ((unhide HF1).chain 2 64)) rfl ⟨below_chain2 (unhide HB1) (Nat.le_refl _) _ _, Or.inr ⟨by rw [hE]; simp, by rw [hE] <;> rfl⟩⟩
    · subst hk3
      by_cases h6 : L.length < 6
      · have HE2 : Hid (hdE L = (L.length, 2)) := hide (by rw [unhide HE]; exact (mkE_zero L 3).trans (if_pos h6))
        have j6 : ((L.length : Nat) : Int) < 6 := by omega
        clear HE HL HB HF h6
        generalize W0.drewN q = W1 at HB1 HF1 HL1 HQ1 ⊢
        go_wp2_with fail
        refine (short_any ao c L.length _).mono ?_
        rintro e W2 ⟨rfl, hB2⟩
        have HB2 := hide ((unhide HB1).trans (hB2.mono (unhide HB1).size))
        have HF2 : Hid (FtAt W2 w.heap.size 0 0) := hide ((unhide HF1).below hB2)
        clear hB2 HF1 HB1 HL1 HQ1
        unfold ftV
        have f0 := (unhide HF2).c0
        have f1 := (unhide HF2).c1
        have z0 := (unhide HF2).f 0
        have z1 := (unhide HF2).f 1
        go_wp2
        have hE := unhide HE2
        exact bodyPost_ret (v := .tuple #[.pointer none, ftV L.length 2]) (results_ft2 rfl _ _ w.heap.size (.pointer none) L.length 2 rfl rfl ((unhide HF2).chain L.length 2)) rfl ⟨below_chain2 (unhide HB2) (Nat.le_refl _) _ _, Or.inr ⟨by rw [hE]; simp, by rw [hE] <;> rfl⟩⟩
      · have j6 : ¬ ((L.length : Nat) : Int) < 6 := by omega
        obtain ⟨b, off, rfl, hc⟩ := (unhide HL1).head (by omega)
        have HC3 := hide (hc 3 (by omega))
        have hw4 := wdD_bounds L 4
        have lo := at8_lo L 3
        have hi := at8_hi L 3
        have HE2 : Hid (hdE L = if 16 < at8 L 3 then (3, 5) else if 4096 < wdD L 4 then (4, 4) else (0, 0)) := hide (by rw [unhide HE]; exact (mkE_zero L 3).trans (if_neg h6))
        have HWD : Hid (∀ W, BAt W (some ⟨b, off, none⟩) L → Calls Try.prog 38 #[.slice (some ⟨b, off, none⟩) L.length c, .int .i64 4] W fun e w' => e = .returned (.int .i64 (wdD L 4)) ∧ ∃ k, w' = W.drewN k) := hide (fun W h => word_any _ c L 4 W h (by omega) hl)
        obtain ⟨x3, HX3⟩ : ∃ x, Hid (at8 L 3 = x) := ⟨_, hide rfl⟩
        obtain ⟨n4, HN4⟩ : ∃ x, Hid (wdD L 4 = x) := ⟨_, hide rfl⟩
        rw [unhide HX3] at HC3 lo hi HE2
        rw [unhide HN4] at hw4 HE2 HWD
        have wr3 : IntKind.i64.wrap x3 = x3 := by simp [IntKind.wrap, IntKind.bits, IntKind.signed]; omega
        clear HE hc h6
        generalize W0.drewN q = W1 at HB1 HF1 HL1 HQ1 HC3 ⊢
        go_wp2_with fail
        have n3 : 3 < L.length := by omega
        have i3 : (3 : Int) < ((L.length : Nat) : Int) := by omega
        have HB2 : Hid (Below w.heap.size w W1.drew) := hide ((unhide HB1).trans ⟨rfl, rfl, rfl, Nat.le_refl _, fun _ _ => rfl⟩)
        have HF2 : Hid (FtAt W1.drew w.heap.size 0 0) := hide (unhide HF1)
        have HL2 : Hid (BAt W1.drew (some ⟨b, off, none⟩) L) := hide (unhide HL1)
        refine wp_region_held_drew (S := fun w' => w'.cell? ⟨b, off + 3, none⟩ = some (.int .u8 x3)) (by kernel_rfl) (unhide HC3) (fun hS => ?_)
        generalize W1.drew = W2 at HB2 HF2 HL2 hS ⊢
        clear HB1 HF1 HL1 HQ1 HC3 W1
        refine wpAnyH_take (i := 0) (v := .slice (some ⟨b, off, none⟩) L.length c) rfl (by kernel_rfl) (by kernel_rfl) (by kernel_rfl) (fun _ _ _ h => h) (Or.inl ⟨by rfl, fun w _ => by go_simp⟩) hS ?_
        refine wpAnyH_take (i := 1) (v := .slice (some ⟨b, off, none⟩) L.length c) rfl (by kernel_rfl) (by kernel_rfl) (by kernel_rfl) (fun _ _ _ h => h) (Or.inl ⟨by rfl, fun w _ => by go_simp⟩) hS ?_
        refine wpAnyH_take (i := 5) (v := .slice (some ⟨b, off, none⟩) L.length c) rfl (by kernel_rfl) (by kernel_rfl) (by kernel_rfl) (fun _ _ _ h => h) (Or.inl ⟨by rfl, fun w _ => by go_simp⟩) hS ?_
        refine wpAnyH_take (i := 2) (v := .pointer (some ⟨b, off + 3, none⟩)) rfl (by kernel_rfl) (by kernel_rfl) (by kernel_rfl) (fun _ _ _ h => h) (Or.inl ⟨by rfl, fun w _ => by go_simp⟩) hS ?_
        refine wpAnyH_take (i := 3) (v := .int .u8 x3) rfl (by kernel_rfl) (by kernel_rfl) (by kernel_rfl) (fun _ _ _ h => h) (Or.inl ⟨by rfl, fun w hS => by go_simp⟩) hS ?_
        refine wpAnyH_take (i := 4) (v := .int .i64 x3) rfl (by kernel_rfl) (by kernel_rfl) (by kernel_rfl) (fun _ _ _ h => h) (Or.inl ⟨by rfl, fun w _ => by go_simp⟩) hS ?_
        refine wpAnyH_ready (rs := [6]) (by kernel_rfl) (by simp) ?_
        refine AllReadyH.cons rfl (fun K hK => ?_) AllReadyH.nil
        go_simp
        go_wp2_with (go_at_call 38; refine (unhide HWD _ (unhide HL2)).mono ?_; rintro e W3 ⟨rfl, kq, rfl⟩)
        have HB3 : Hid (Below w.heap.size w (W2.drewN kq)) := hide (belowD (unhide HB2) kq)
        have HF3 : Hid (FtAt (W2.drewN kq) w.heap.size 0 0) := hide (unhide HF2)
        refine hK.out _ _ hS (fun hS2 => ?_)
        generalize W2.drewN kq = W3 at HB3 HF3 hS2 ⊢
        clear hK K hS HB2 HF2 HL2 W2
        refine wpAnyH_take (i := 7) (v := .agg #[.slice (some ⟨b, off, none⟩) L.length c, .int .i64 x3, .int .i64 n4, .int .i64 6, .int .i64 0, .int .i64 (-1)]) rfl (by kernel_rfl) (by kernel_rfl) (by kernel_rfl) (fun _ _ _ h => h) (Or.inl ⟨by rfl, fun w _ => by go_simp⟩) hS2 ?_
        refine wpAnyH_ready (rs := [8]) (by kernel_rfl) (by simp) ?_
        refine AllReadyH.cons rfl (fun K hK => ?_) AllReadyH.nil
        go_simp
        have HR4 : Hid (RAt (W3.alloc (.cells #[.slice (some ⟨b, off, none⟩) L.length c, .int .i64 x3, .int .i64 n4, .int .i64 6, .int .i64 0, .int .i64 (-1)] 62)) W3.heap.size (.slice (some ⟨b, off, none⟩) L.length c) x3 n4 6 0 (-1)) := hide (heap_alloc_new W3 _)
        have hal2 := ((Below.refl W3.heap.size W3).alloc (Nat.le_refl _) (.cells #[.slice (some ⟨b, off, none⟩) L.length c, .int .i64 x3, .int .i64 n4, .int .i64 6, .int .i64 0, .int .i64 (-1)] 62))
        have HB4 := hide ((unhide HB3).trans (hal2.mono (unhide HB3).size))
        have HF4 := hide ((unhide HF3).below hal2)
        have hS3 : (W3.alloc (.cells #[.slice (some ⟨b, off, none⟩) L.length c, .int .i64 x3, .int .i64 n4, .int .i64 6, .int .i64 0, .int .i64 (-1)] 62)).cell? ⟨b, off + 3, none⟩ = some (.int .u8 x3) := (hal2.cell (p := ⟨b, off + 3, none⟩) (World.block_lt_of_cell? W3 _ hS2)).trans hS2
        have HG := hide (unhide HB3).size
        have HGF := hide (unhide HF3).lt
        refine hK.out _ _ hS3 (fun hS4 => ?_)
        clear hK K hS2 HB3 HF3 hS3 hal2
        refine wpAnyH_take (i := 9) (v := .pointer (some ⟨W3.heap.size, 0, none⟩)) rfl (by kernel_rfl) (by kernel_rfl) (by kernel_rfl) (fun _ _ _ h => h) (Or.inl ⟨by rfl, fun w _ => by go_simp⟩) hS4 ?_
        refine wpAnyH_done (by kernel_rfl) ?_ _
        clear hS4
        generalize (W3.alloc (.cells #[.slice (some ⟨b, off, none⟩) L.length c, .int .i64 x3, .int .i64 n4, .int .i64 6, .int .i64 0, .int .i64 (-1)] 62)) = W4 at HR4 HB4 HF4 ⊢
        generalize W3.heap.size = g at HR4 HG HGF ⊢
        have r1 := (unhide HR4).c1
        have r2 := (unhide HR4).c2
        by_cases h16 : 16 < x3
        · have HE3 : Hid (hdE L = (3, 5)) := hide (by rw [unhide HE2, if_pos h16])
          have j1 : x3 > 16 := h16
          have f0 := (unhide HF4).c0
          have f1 := (unhide HF4).c1
          have z0 := (unhide HF4).f 0
          have z1 := (unhide HF4).f 1
          go_wp2
          have hE := unhide HE3
          exact bodyPost_ret (v := .tuple #[.pointer none, ftV 3 5]) (results_ft2 rfl _ _ w.heap.size (.pointer none) 3 5 rfl rfl ((unhide HF4).chain 3 5)) rfl ⟨below_chain2 (unhide HB4) (Nat.le_refl _) _ _, Or.inr ⟨by rw [hE]; simp, by rw [hE] <;> rfl⟩⟩
        · have j1 : ¬ x3 > 16 := h16
          by_cases h96 : 4096 < n4
          · have HE3 : Hid (hdE L = (4, 4)) := hide (by rw [unhide HE2, if_neg h16, if_pos h96])
            have j2 : n4 > 4096 := h96
            have f0 := (unhide HF4).c0
            have f1 := (unhide HF4).c1
            have z0 := (unhide HF4).f 0
            have z1 := (unhide HF4).f 1
            go_wp2
            have hE := unhide HE3
            exact bodyPost_ret (v := .tuple #[.pointer none, ftV 4 4]) (results_ft2 rfl _ _ w.heap.size (.pointer none) 4 4 rfl rfl ((unhide HF4).chain 4 4)) rfl ⟨below_chain2 (unhide HB4) (Nat.le_refl _) _ _, Or.inr ⟨by rw [hE]; simp, by rw [hE] <;> rfl⟩⟩
          · have HE3 : Hid (hdE L = (0, 0)) := hide (by rw [unhide HE2, if_neg h16, if_neg h96])
            have j2 : ¬ n4 > 4096 := h96
            have f0 := (unhide HF4).c0
            have f1 := (unhide HF4).c1
            have z0 := (unhide HF4).f 0
            have z1 := (unhide HF4).f 1
            go_wp2
            have hE := unhide HE3
            have hne : g ≠ w.heap.size := by have := unhide HGF; omega
            refine bodyPost_ret (v := .tuple #[.pointer (some ⟨g, 0, none⟩), ftV 0 0]) (results_ft2 rfl _ _ w.heap.size (.pointer (some ⟨g, 0, none⟩)) 0 0 rfl rfl ((unhide HF4).chain 0 0)) rfl ⟨below_chain2 (unhide HB4) (Nat.le_refl _) _ _, Or.inl ⟨by rw [hE], g, unhide HG, rfl, ?_⟩⟩
            rw [unhide HX3, unhide HN4]
            exact (unhide HR4).other2 hne _ _
end Go.Proofs.Ytednnfmomhallaa
