/-
  Texts of contracts and plain lemmas, one behind another; each says at its head what it holds.
-/
import Derived.Test.YtibgfdjopikafaaGreatDoorJDB
import Derived.Test.YtibgfdjopikafaaGreatDoorKMp1
import Derived.Test.YtibgfdjopikafaaGreatDoorJWA
import Derived.Test.YtibgfdjopikafaaGreatDoorJFT
/-
  How a module's file begins. Conditions: lengths fit.
-/
namespace Go.Proofs.YtibgfdjopikafaaGreatDoor
open Go.RowKit
set_option maxRecDepth 20000
set_option linter.unusedVariables false
set_option linter.unusedSimpArgs false

theorem mag_step {b : List UInt8} {i : Nat} (hi : i < 4) : magR b (magB.drop i) i = if i = b.length then some (b.length, 2) else if b.getD i 0 ≠ magB.getD i 0 then some (i, 160) else magR b (magB.drop (i + 1)) (i + 1) := by
  rcases (show i = 0 ∨ i = 1 ∨ i = 2 ∨ i = 3 by omega) with rfl | rfl | rfl | rfl <;> rfl
set_option maxHeartbeats 4000000 in
theorem begins_any (ao : Option Addr) (c : Nat) (b : List UInt8) (w : World) (hb : BAt w ao b) (hl : b.length ≤ 1048576) :
    Calls Tryz.prog 67 #[.slice ao b.length c] w fun e w' => ((magE b = none ∧ e = .returned (.tuple #[])) ∨ (∃ (a : Nat) (er : Int), magE b = some (a, er) ∧ e = .panicked [{ v := fltV (a : Int) er, recovered := false }])) ∧ Below w.heap.size w w' := by
  have HB := hide hb
  clear hb
  go_enter Tryz.func67, Tryz.ntmps67
  go_wp2_with fail
  go_loopw [3] (fun v wr => ∃ (i : Nat), i ≤ 4 ∧ i ≤ b.length ∧ v = .int .i64 (i : Int) ∧ Hid (magE b = magR b (magB.drop i) i) ∧ Hid (Below w.heap.size w wr)) (fun v _ => 4 - (intOf v).toNat)
  case atStart => exact ⟨0, by omega, by omega, rfl, hide rfl, hide (Below.refl _ _)⟩
  case round =>
    obtain ⟨i, hi, hib, rfl, HM, HW⟩ := hrel
    by_cases hlt : i < 4
    · have i1 : ((i : Nat) : Int) < 4 := by omega
      have HM2 : Hid (magE b = if i = b.length then some (b.length, 2) else if b.getD i 0 ≠ magB.getD i 0 then some (i, 160) else magR b (magB.drop (i + 1)) (i + 1)) := hide (by rw [unhide HM, mag_step hlt])
      clear HM
      by_cases he : i = b.length
      · have t0 : (((i : Nat) : Int) == ((b.length : Nat) : Int)) = true := beq_t (by omega)
        have HE : Hid (magE b = some (b.length, 2)) := hide (by rw [unhide HM2, if_pos he])
        clear HM2 he
        go_wp2_with fail
        refine (GiveUp_any _ 2 wr).mono ?_
        rintro e W ⟨rfl, hw⟩
        rw [hw]
        exact ⟨rfl, Or.inr ⟨_, _, unhide HE, rfl⟩, unhide HW⟩
      · have t0 : (((i : Nat) : Int) == ((b.length : Nat) : Int)) = false := beq_f (by omega)
        have hlb : i < b.length := by omega
        obtain ⟨bk, off, rfl, hc⟩ := ((unhide HB).below' (unhide HW)) i hlb
        have j1 : ((i : Nat) : Int) < ((b.length : Nat) : Int) := by omega
        rcases (show i = 0 ∨ i = 1 ∨ i = 2 ∨ i = 3 by omega) with rfl | rfl | rfl | rfl
        · rw [Nat.add_zero] at hc
          by_cases hx : b.getD 0 0 = 112
          · have hn : (at8 b 0 != (((({ data := #[112, 118, 109, 1] } : ByteArray)[0]'(by decide)).toNat : Nat) : Int)) = false := bne_f (by show ((b.getD 0 0).toNat : Int) = 112; rw [hx]; rfl)
            have HE : Hid (magE b = magR b (magB.drop (0 + 1)) (0 + 1)) := hide (by rw [unhide HM2, if_neg he, if_neg (by rw [hx]; decide)])
            clear HM2 he hx
            go_wp2
            go_quiet (fail)
            go_wp2
            go_roundw
            case rel => exact ⟨1, by omega, by omega, by go_num, HE, hide ((unhide HW).trans (below_drew _ _ |>.mono (unhide HW).size))⟩
            case measure => simp [intOf]
          · have hn : (at8 b 0 != (((({ data := #[112, 118, 109, 1] } : ByteArray)[0]'(by decide)).toNat : Nat) : Int)) = true := bne_t (by
              show ((b.getD 0 0).toNat : Int) ≠ 112
              intro h
              exact hx (UInt8.toNat_inj.1 (by have h2 : (b.getD 0 0).toNat = 112 := by omega
                                              rw [h2]; rfl)))
            have HE : Hid (magE b = some (0, 160)) := hide (by rw [unhide HM2, if_neg he, if_pos (by intro h; exact hx (by rw [h]; rfl))])
            clear HM2 he hx
            go_wp2
            go_quiet (fail)
            go_wp2_with fail
            refine (GiveUp_any _ 160 _).mono ?_
            rintro e W ⟨rfl, hw⟩
            rw [hw]
            exact ⟨rfl, Or.inr ⟨_, _, unhide HE, rfl⟩, (unhide HW).trans (below_drew _ _ |>.mono (unhide HW).size)⟩
        · by_cases hx : b.getD 1 0 = 118
          · have hn : (at8 b 1 != (((({ data := #[112, 118, 109, 1] } : ByteArray)[1]'(by decide)).toNat : Nat) : Int)) = false := bne_f (by show ((b.getD 1 0).toNat : Int) = 118; rw [hx]; rfl)
            have HE : Hid (magE b = magR b (magB.drop (1 + 1)) (1 + 1)) := hide (by rw [unhide HM2, if_neg he, if_neg (by rw [hx]; decide)])
            clear HM2 he hx
            go_wp2
            go_quiet (fail)
            go_wp2
            go_roundw
            case rel => exact ⟨2, by omega, by omega, by go_num, HE, hide ((unhide HW).trans (below_drew _ _ |>.mono (unhide HW).size))⟩
            case measure => simp [intOf]
          · have hn : (at8 b 1 != (((({ data := #[112, 118, 109, 1] } : ByteArray)[1]'(by decide)).toNat : Nat) : Int)) = true := bne_t (by
              show ((b.getD 1 0).toNat : Int) ≠ 118
              intro h
              exact hx (UInt8.toNat_inj.1 (by have h2 : (b.getD 1 0).toNat = 118 := by omega
                                              rw [h2]; rfl)))
            have HE : Hid (magE b = some (1, 160)) := hide (by rw [unhide HM2, if_neg he, if_pos (by intro h; exact hx (by rw [h]; rfl))])
            clear HM2 he hx
            go_wp2
            go_quiet (fail)
            go_wp2_with fail
            refine (GiveUp_any _ 160 _).mono ?_
            rintro e W ⟨rfl, hw⟩
            rw [hw]
            exact ⟨rfl, Or.inr ⟨_, _, unhide HE, rfl⟩, (unhide HW).trans (below_drew _ _ |>.mono (unhide HW).size)⟩
        · by_cases hx : b.getD 2 0 = 109
          · have hn : (at8 b 2 != (((({ data := #[112, 118, 109, 1] } : ByteArray)[2]'(by decide)).toNat : Nat) : Int)) = false := bne_f (by show ((b.getD 2 0).toNat : Int) = 109; rw [hx]; rfl)
            have HE : Hid (magE b = magR b (magB.drop (2 + 1)) (2 + 1)) := hide (by rw [unhide HM2, if_neg he, if_neg (by rw [hx]; decide)])
            clear HM2 he hx
            go_wp2
            go_quiet (fail)
            go_wp2
            go_roundw
            case rel => exact ⟨3, by omega, by omega, by go_num, HE, hide ((unhide HW).trans (below_drew _ _ |>.mono (unhide HW).size))⟩
            case measure => simp [intOf]
          · have hn : (at8 b 2 != (((({ data := #[112, 118, 109, 1] } : ByteArray)[2]'(by decide)).toNat : Nat) : Int)) = true := bne_t (by
              show ((b.getD 2 0).toNat : Int) ≠ 109
              intro h
              exact hx (UInt8.toNat_inj.1 (by have h2 : (b.getD 2 0).toNat = 109 := by omega
                                              rw [h2]; rfl)))
            have HE : Hid (magE b = some (2, 160)) := hide (by rw [unhide HM2, if_neg he, if_pos (by intro h; exact hx (by rw [h]; rfl))])
            clear HM2 he hx
            go_wp2
            go_quiet (fail)
            go_wp2_with fail
            refine (GiveUp_any _ 160 _).mono ?_
            rintro e W ⟨rfl, hw⟩
            rw [hw]
            exact ⟨rfl, Or.inr ⟨_, _, unhide HE, rfl⟩, (unhide HW).trans (below_drew _ _ |>.mono (unhide HW).size)⟩
        · by_cases hx : b.getD 3 0 = 1
          · have hn : (at8 b 3 != (((({ data := #[112, 118, 109, 1] } : ByteArray)[3]'(by decide)).toNat : Nat) : Int)) = false := bne_f (by show ((b.getD 3 0).toNat : Int) = 1; rw [hx]; rfl)
            have HE : Hid (magE b = magR b (magB.drop (3 + 1)) (3 + 1)) := hide (by rw [unhide HM2, if_neg he, if_neg (by rw [hx]; decide)])
            clear HM2 he hx
            go_wp2
            go_quiet (fail)
            go_wp2
            go_roundw
            case rel => exact ⟨4, by omega, by omega, by go_num, HE, hide ((unhide HW).trans (below_drew _ _ |>.mono (unhide HW).size))⟩
            case measure => simp [intOf]
          · have hn : (at8 b 3 != (((({ data := #[112, 118, 109, 1] } : ByteArray)[3]'(by decide)).toNat : Nat) : Int)) = true := bne_t (by
              show ((b.getD 3 0).toNat : Int) ≠ 1
              intro h
              exact hx (UInt8.toNat_inj.1 (by have h2 : (b.getD 3 0).toNat = 1 := by omega
                                              rw [h2]; rfl)))
            have HE : Hid (magE b = some (3, 160)) := hide (by rw [unhide HM2, if_neg he, if_pos (by intro h; exact hx (by rw [h]; rfl))])
            clear HM2 he hx
            go_wp2
            go_quiet (fail)
            go_wp2_with fail
            refine (GiveUp_any _ 160 _).mono ?_
            rintro e W ⟨rfl, hw⟩
            rw [hw]
            exact ⟨rfl, Or.inr ⟨_, _, unhide HE, rfl⟩, (unhide HW).trans (below_drew _ _ |>.mono (unhide HW).size)⟩
    · have i1 : ¬ ((i : Nat) : Int) < 4 := by omega
      have HE : Hid (magE b = none) := hide (by rw [unhide HM, show i = 4 by omega]; rfl)
      clear HM
      go_wp2
      go_end0
      exact ⟨Or.inl ⟨unhide HE, rfl⟩, unhide HW⟩
end Go.Proofs.YtibgfdjopikafaaGreatDoor

/-
  How a module's file ends: its sum. Conditions: lengths fit.
-/
namespace Go.Proofs.YtibgfdjopikafaaGreatDoor
open Go.RowKit
set_option maxRecDepth 20000
set_option linter.unusedVariables false
set_option linter.unusedSimpArgs false

theorem numV4 {l : List UInt8} (h : l.length = 4) : numV l 0 4 = s32 (beN l) := by
  rw [numV, if_neg (by omega), if_pos rfl, List.drop_zero, List.take_of_length_le (by omega)]
set_option maxHeartbeats 4000000 in
theorem summed16_any (ao : Option Addr) (c : Nat) (b : List UInt8) (w : World) (hb : BAt w ao b) (hc : b.length ≤ c) (hl : b.length ≤ 1048576) :
    Calls Tryz.prog 68 #[.slice ao b.length c] w fun e w' => ((8 ≤ b.length ∧ tsum (b.take (b.length - 4)) = b ∧ e = .returned (.int .i64 ((b.length - 4 : Nat) : Int))) ∨ (b.length < 8 ∧ e = .panicked [{ v := fltV (b.length : Int) 2, recovered := false }]) ∨ (8 ≤ b.length ∧ tsum (b.take (b.length - 4)) ≠ b ∧ e = .panicked [{ v := fltV ((b.length - 4 : Nat) : Int) 161, recovered := false }])) ∧ Below w.heap.size w w' := by
  by_cases h8 : b.length < 8
  · have i1 : ((b.length : Nat) : Int) - 4 < 4 := by omega
    clear hb hc
    go_enter Tryz.func68, Tryz.ntmps68
    go_wp2_with fail
    refine (GiveUp_any _ 2 w).mono ?_
    rintro e W ⟨rfl, hw⟩
    rw [hw]
    exact ⟨rfl, Or.inr (Or.inl ⟨h8, rfl⟩), Below.refl _ _⟩
  obtain ⟨N, hN⟩ : ∃ N, b.length = N + 4 := ⟨b.length - 4, by omega⟩
  obtain ⟨bk, off, rfl, hcell⟩ := hb.head (by omega)
  have hcell := hb
  have e4 : (b.drop N).length = 4 := by rw [List.length_drop]; omega
  have eN : (b.take N).length = N := by rw [List.length_take]; omega
  have hD : BAt w (some ⟨bk, off + N, none⟩) (b.drop N) := fun i hi => by
    obtain ⟨b', o', e, h⟩ := hb (N + i) (by rw [e4] at hi; omega)
    injection e with e
    injection e with e1 e2
    subst e1 e2
    refine ⟨bk, off + N, rfl, ?_⟩
    rw [Nat.add_assoc, h]
    unfold at8
    rw [List.getD_eq_getElem?_getD, List.getD_eq_getElem?_getD, List.getElem?_drop]
  have hT : BAt w (some ⟨bk, off, none⟩) (b.take N) := fun i hi => by
    rw [eN] at hi
    obtain ⟨b', o', e, h⟩ := hb i (by omega)
    refine ⟨b', o', e, ?_⟩
    rw [h]
    unfold at8
    rw [List.getD_eq_getElem?_getD, List.getD_eq_getElem?_getD, List.getElem?_take_of_lt hi]
  have HOV := hide (Over_any (some ⟨bk, off + N, none⟩) (c - N) (b.drop N) w hD (by omega))
  rw [e4] at HOV
  have HT := hide hT
  have HSI := hide (sum_iff hN)
  have hNs : b.length - 4 = N := by omega
  rw [hNs]
  have HE4 := hide e4
  have HEN := hide eN
  have HN := hide hN
  have h8' : 8 ≤ b.length := by omega
  rw [hN]
  have hn4 : ((N + 4 : Nat) : Int) - 4 = (N : Int) := by omega
  have hn4' : ((N : Int) + 4) - 4 = (N : Int) := by omega
  have i1 : ¬ (N : Int) < 4 := by omega
  have j1 : (N : Int) ≤ ((N + 4 : Nat) : Int) := by omega
  have hcN : N + 4 ≤ c := by omega
  have hsub : N + 4 - N = 4 := by omega
  have hNl : N ≤ 1048576 := by omega
  clear hcell hD hT hb e4 eN hc hl hN hNs h8
  go_enter Tryz.func68, Tryz.ntmps68
  go_wp2_with fail
  refine (unhide HOV).mono ?_
  rintro e W1 ⟨p, gg, rfl, _, _, hr, hb1⟩
  have HB1 := hide hb1
  have HC := hide (Long_u hr)
  have eV : numV (b.drop N) 0 4 = s32 (beN (b.drop N)) := numV4 (unhide HE4)
  have eE : numE (b.drop N) 0 4 = 0 := by rw [numE, if_neg (by have := unhide HE4; omega)]
  rw [eV, eE] at HC
  have hpw : w.heap.size ≤ p := by assumption
  clear hr hb1 HOV eV eE HE4
  go_wp2_with fail
  refine (unhide HC).mono ?_
  rintro e W2 ⟨rfl, _, hg2⟩
  have HB2 : Hid (Below w.heap.size w W2) := hide ((unhide HB1).grown hg2 (unhide HB1).size (fun q e => by injection e with e; omega))
  have HTW := hide ((unhide HT).below' (unhide HB2))
  have HS := hide (Sum_any (some ⟨bk, off, none⟩) c (b.take N) W2 (unhide HTW) (by have := unhide HEN; omega))
  rw [unhide HEN] at HS
  clear HC hg2 HB1 HT HTW
  go_wp2_with fail
  refine (unhide HS).mono ?_
  rintro e W3 ⟨rfl, hb3⟩
  have HB3 := hide ((unhide HB2).trans (hb3.mono (unhide HB2).size))
  have HSG := hide (signed_any (sumOf (b.take N)) (sumOf_lt _) W3)
  clear HS hb3 HB2
  go_wp2_with fail
  refine (unhide HSG).mono ?_
  rintro e W4 ⟨rfl, hw⟩
  rw [hw]
  clear hw W4 HSG
  by_cases hs : s32 (beN (b.drop N)) = s32 (sumOf (b.take N))
  · have t0 : (s32 (beN (b.drop N)) != s32 (sumOf (b.take N))) = false := bne_f hs
    have HE := hide ((unhide HSI).1 hs)
    clear hs HSI
    go_wp2
    go_ret
    exact ⟨Or.inl ⟨by omega, unhide HE, rfl⟩, unhide HB3⟩
  · have t0 : (s32 (beN (b.drop N)) != s32 (sumOf (b.take N))) = true := bne_t hs
    have HE : Hid (tsum (b.take N) ≠ b) := hide (fun h => hs ((unhide HSI).2 h))
    clear hs HSI
    go_wp2_with fail
    refine (GiveUp_any _ 161 W3).mono ?_
    rintro e W ⟨rfl, hw⟩
    rw [hw]
    exact ⟨rfl, Or.inr (Or.inr ⟨by omega, unhide HE, rfl⟩), unhide HB3⟩
end Go.Proofs.YtibgfdjopikafaaGreatDoor

/-
  What a module's file is decoded as, or the fault with which decoding gives up. Conditions: lengths fit.
-/
namespace Go.Proofs.YtibgfdjopikafaaGreatDoor
open Go.RowKit
set_option maxRecDepth 20000
set_option linter.unusedVariables false
set_option linter.unusedSimpArgs false

/-- What decoding comes to. -/
def DcP (w : World) (b : List UInt8) (e : Ending) (W : World) : Prop :=
  ((∃ y : Md, decD b = .ok (mcOf y) ∧ CkR y 0 0 ∧ e = .returned (.agg #[.string y.nm, .slice y.ao y.T.length y.cap, .slice y.fo y.F.length y.fc, .slice y.co y.C.length y.cc]) ∧ MdR W w.heap.size y) ∨
   (∃ (a : Nat) (er : Int), (decD b = .error (a, er) ∨ (a = 0 ∧ er ≠ 0 ∧ ∃ (y : Md) (n : Nat), decD b = .ok (mcOf y) ∧ CkR y n er)) ∧ e = .panicked [{ v := fltV (a : Int) er, recovered := false }])) ∧ Below w.heap.size w W
theorem dec_long {b : List UInt8} (h : 1048576 < b.length) : decD b = .error (0, 4) := by unfold decD; rw [if_pos h]
theorem dec_mag {b : List UInt8} {a : Nat} {er : Int} (h : ¬ 1048576 < b.length) (hm : magE b = some (a, er)) : decD b = .error (a, er) := by unfold decD; rw [if_neg h, hm]
theorem dec_few {b : List UInt8} (h : ¬ 1048576 < b.length) (hm : magE b = none) (h8 : b.length < 8) : decD b = .error (b.length, 2) := by unfold decD; rw [if_neg h, hm]; show (if _ then _ else _) = _; rw [if_pos h8]
theorem dec_sum {b : List UInt8} (h : ¬ 1048576 < b.length) (hm : magE b = none) (h8 : ¬ b.length < 8) (hs : tsum (b.take (b.length - 4)) ≠ b) : decD b = .error (b.length - 4, 161) := by unfold decD; rw [if_neg h, hm]; show (if _ then _ else _) = _; rw [if_neg h8, if_pos hs]
theorem dec_bod {b : List UInt8} (h : ¬ 1048576 < b.length) (hm : magE b = none) (h8 : ¬ b.length < 8) (hs : tsum (b.take (b.length - 4)) = b) : decD b = bodP (b.take (b.length - 4)) := by unfold decD; rw [if_neg h, hm]; show (if _ then _ else _) = _; rw [if_neg h8, if_neg (by rw [hs]; simp)]
set_option maxHeartbeats 8000000 in
theorem decoded_any (ao : Option Addr) (c : Nat) (b : List UInt8) (w : World) (hb : BAt w ao b) (hc : b.length ≤ c) (hW : WordsAt w) :
    Calls Tryz.prog 35 #[.slice ao b.length c] w (DcP w b) := by
  have al : Below w.heap.size w (w.alloc (.cells #[.string ⟨#[]⟩, .slice none 0 0, .slice none 0 0, .slice none 0 0] 26)) := (Below.refl _ _).alloc (Nat.le_refl _) _
  have HO : Hid (Bx (w.alloc (.cells #[.string ⟨#[]⟩, .slice none 0 0, .slice none 0 0, .slice none 0 0] 26)) w.heap.size 26 #[.string ⟨#[]⟩, .slice none 0 0, .slice none 0 0, .slice none 0 0]) := hide (heap_alloc_new w _)
  have HB := hide al
  have HD := hide (hb.below' al)
  have HW := hide (hW.below al)
  clear al hb hW
  go_enter Tryz.func35, Tryz.ntmps35
  go_upto_region 1 with fail
  generalize w.alloc (.cells #[.string ⟨#[]⟩, .slice none 0 0, .slice none 0 0, .slice none 0 0] 26) = W1 at HO HB HD HW ⊢
  by_cases hl : 1048576 < b.length
  · have i1 : ((b.length : Nat) : Int) > 1048576 := by omega
    have HE := hide (dec_long hl)
    clear hl
    go_wp2_with fail
    refine (GiveUp_any 0 4 W1).mono ?_
    rintro e W ⟨rfl, hw⟩
    rw [hw]
    exact ⟨rfl, Or.inr ⟨0, 4, Or.inl (unhide HE), rfl⟩, unhide HB⟩
  have i1 : ¬ ((b.length : Nat) : Int) > 1048576 := by omega
  have HBE := hide (begins_any ao c b W1 (unhide HD) (by omega))
  go_wp2_with fail
  refine (unhide HBE).mono ?_
  rintro e W2 ⟨⟨hm, rfl⟩ | ⟨a, er, hm, rfl⟩, hb2⟩
  rotate_left
  · exact ⟨rfl, Or.inr ⟨a, er, Or.inl (dec_mag hl hm), rfl⟩, (unhide HB).trans (hb2.mono (unhide HB).size)⟩
  have HB2 := hide ((unhide HB).trans (hb2.mono (unhide HB).size))
  have HO2 := hide ((unhide HO).below hb2)
  have HD2 := hide ((unhide HD).below' hb2)
  have HW2 := hide ((unhide HW).below hb2)
  have HMG := hide hm
  clear hm hb2 HBE HB HO HD HW
  have HSU := hide (summed16_any ao c b W2 (unhide HD2) hc (by omega))
  go_wp2_with fail
  refine (unhide HSU).mono ?_
  rintro e W3 ⟨⟨h8, hs, rfl⟩ | ⟨h8, rfl⟩ | ⟨h8, hs, rfl⟩, hb3⟩
  rotate_left
  · exact ⟨rfl, Or.inr ⟨_, _, Or.inl (dec_few hl (unhide HMG) h8), rfl⟩, (unhide HB2).trans (hb3.mono (unhide HB2).size)⟩
  · exact ⟨rfl, Or.inr ⟨_, _, Or.inl (dec_sum hl (unhide HMG) (by omega) hs), rfl⟩, (unhide HB2).trans (hb3.mono (unhide HB2).size)⟩
  have HDB := hide (dec_bod hl (unhide HMG) (by omega) hs)
  have HB3 := hide ((unhide HB2).trans (hb3.mono (unhide HB2).size))
  have HO3 := hide ((unhide HO2).below hb3)
  have HD3 := hide ((unhide HD2).below' hb3)
  have HW3 := hide ((unhide HW2).below hb3)
  obtain ⟨N, hN⟩ : ∃ N, b.length = N + 4 := ⟨b.length - 4, by omega⟩
  obtain ⟨bk, off, rfl, -⟩ := (unhide HD3).head (by omega)
  have hNs : b.length - 4 = N := by omega
  have eN : (b.take N).length = N := by rw [List.length_take]; omega
  obtain ⟨L, HLE⟩ : ∃ L, Hid (b.take N = L) := ⟨_, hide rfl⟩
  rw [hNs, unhide HLE] at HDB
  rw [unhide HLE] at eN
  have hT : BAt W3 (some ⟨bk, off, none⟩) L := fun i hi => by
    rw [eN] at hi
    obtain ⟨b', o', e, h⟩ := (unhide HD3) i (by omega)
    refine ⟨b', o', e, ?_⟩
    rw [h, ← unhide HLE]
    unfold at8
    rw [List.getD_eq_getElem?_getD, List.getD_eq_getElem?_getD, List.getElem?_take_of_lt hi]
  have HOV := hide (Over_any (some ⟨bk, off, none⟩) c L W3 hT (by omega))
  rw [eN] at HOV
  rw [hNs, hN]
  have j1 : (N : Int) ≤ ((N + 4 : Nat) : Int) := by omega
  have hcN : N ≤ c := by omega
  have hN4 : 4 ≤ N := by omega
  have HEN := hide eN
  clear hT eN hs hb3 HSU HMG HB2 HO2 HD2 HW2 HD3 hN hNs h8 hc hl i1 HLE
  go_wp2_with fail
  refine (unhide HOV).mono ?_
  rintro e W4 ⟨p, gg, rfl, hp, _, hr, hb4⟩
  have al : Below W4.heap.size W4 (W4.alloc (.cells #[.pointer (some ⟨p, 0, none⟩), .int .i64 (N : Int)] 112)) := (Below.refl _ _).alloc (Nat.le_refl _) _
  have HX5 : Hid (Bx (W4.alloc (.cells #[.pointer (some ⟨p, 0, none⟩), .int .i64 (N : Int)] 112)) W4.heap.size 112 #[.pointer (some ⟨p, 0, none⟩), .int .i64 (N : Int)]) := hide (heap_alloc_new W4 _)
  have HR5 := hide (hr.below al)
  have HBW5 := hide (hb4.trans (al.mono hb4.size))
  have hp4 : p < W4.heap.size := hr.pl
  clear hr hb4 al HOV
  go_upto_region 6 with fail
  generalize W4.alloc (.cells #[.pointer (some ⟨p, 0, none⟩), .int .i64 (N : Int)] 112) = W5 at HX5 HR5 HBW5 ⊢
  obtain ⟨gr, HGR⟩ : ∃ gr, gr = W4.heap.size := ⟨_, rfl⟩
  rw [← HGR] at HX5 hp4 ⊢
  clear HGR
  have k0 := (unhide HX5).c 0 rfl
  have k1 := (unhide HX5).c 1 rfl
  have HK := hide (rtake (unhide HR5) 4 (by omega))
  rw [unhide HEN] at HK
  go_wp2_with fail
  refine (unhide HK).mono ?_
  rintro e W6 (⟨x, k', v, hm, rfl, _, hr, hg⟩ | ⟨a, er, hm, rfl, hg⟩)
  rotate_left
  · rw [biP, if_neg (by have := unhide HEN; omega)] at hm; cases hm
  rw [biP, if_neg (by have := unhide HEN; omega)] at hm
  injection hm with hm
  injection hm with _ hm
  have hm : 4 = k' := by omega
  subst hm
  have HR6 := hide hr
  have HX6 := hide ((unhide HX5).grown hg (fun e => by injection e with e; omega))
  have HBW6 := hide ((unhide HBW5).grown hg (unhide HBW5).size (fun q e => by injection e with e; omega))
  clear hr hg HK k0 k1 HR5 HX5 HBW5
  have k0 := (unhide HX6).c 0 rfl
  have k1 := (unhide HX6).c 1 rfl
  have HK := hide (rmodule (unhide HR6))
  rw [unhide HEN] at HK
  go_wp2_with fail
  refine (unhide HK).mono ?_
  rintro e W7 (⟨x, k', v, hm, rfl, ⟨y, rfl, hy, hmd⟩, hr, hg⟩ | ⟨a, er, hm, rfl, hg⟩)
  rotate_left
  · exact ⟨rfl, Or.inr ⟨a, er, Or.inl (by rw [unhide HDB, bodP, hm]), rfl⟩, (unhide HB3).trans (((unhide HBW6).grown hg (unhide HBW6).size (fun q e => by injection e with e; omega)).mono (unhide HB3).size)⟩
  subst hy
  have HMP := hide hm
  have hb7 := (unhide HBW6).grown hg (unhide HBW6).size (fun q e => by injection e with e; omega)
  have al : Below W7.heap.size W7 (W7.alloc (.cells #[.string y.nm, .slice y.ao y.T.length y.cap, .slice y.fo y.F.length y.fc, .slice y.co y.C.length y.cc] 26)) := (Below.refl _ _).alloc (Nat.le_refl _) _
  have HY8 : Hid (Bx (W7.alloc (.cells #[.string y.nm, .slice y.ao y.T.length y.cap, .slice y.fo y.F.length y.fc, .slice y.co y.C.length y.cc] 26)) W7.heap.size 26 #[.string y.nm, .slice y.ao y.T.length y.cap, .slice y.fo y.F.length y.fc, .slice y.co y.C.length y.cc]) := hide (heap_alloc_new W7 _)
  have HX8 := hide (((unhide HX6).grown hg (fun e => by injection e with e; omega)).below al)
  have HR8 := hide (hr.below al)
  have HM8 := hide (hmd.below al)
  have HBW8 := hide (hb7.trans (al.mono hb7.size))
  have HLW : Hid (w.heap.size < W6.heap.size) := hide (Nat.lt_of_lt_of_le (unhide HO3).lt (unhide HBW6).size)
  clear hm hmd hr hg hb7 al HK k0 k1 HR6 HX6 HBW6
  go_upto_region 8 with fail
  generalize W7.alloc (.cells #[.string y.nm, .slice y.ao y.T.length y.cap, .slice y.fo y.F.length y.fc, .slice y.co y.C.length y.cc] 26) = W8 at HY8 HX8 HR8 HM8 HBW8 ⊢
  generalize W7.heap.size = gm at HY8 ⊢
  have k0 := (unhide HX8).c 0 rfl
  have HEND := hide (End_any (unhide HR8))
  rw [unhide HEN] at HEND
  by_cases hk : k' < N
  · have hE : decD b = .error (k', 3) := by rw [unhide HDB, bodP, unhide HMP]; show (if _ then _ else _) = _; rw [if_pos (by rw [unhide HEN]; exact hk)]
    have HE := hide hE
    rw [if_pos hk] at HEND
    clear hE hk
    go_wp2_with fail
    refine (unhide HEND).mono ?_
    rintro e Wd ⟨rfl, q, rfl⟩
    have hd : Below W8.heap.size W8 (W8.drewN q) := below_drew _ _
    have HX9 := hide ((unhide HX8).below hd)
    have HR9 := hide ((unhide HR8).below hd)
    have HB9 := hide ((unhide HB3).trans ((((unhide HBW8).trans (hd.mono (unhide HBW8).size))).mono (unhide HB3).size))
    clear hd HX8 HR8 HEND k0
    generalize W8.drewN q = W9 at HX9 HR9 HB9 ⊢
    have k0 := (unhide HX9).c 0 rfl
    have HAT := hide (At_any (unhide HR9))
    go_wp2_with fail
    refine (unhide HAT).mono ?_
    rintro e W ⟨rfl, hw⟩
    rw [hw]
    clear hw W
    go_wp2_with fail
    refine (GiveUp_any (k' : Int) 3 W9).mono ?_
    rintro e W ⟨rfl, hw⟩
    rw [hw]
    exact ⟨rfl, Or.inr ⟨k', 3, Or.inl (unhide HE), rfl⟩, unhide HB9⟩
  have hE : decD b = .ok (mcOf y) := by rw [unhide HDB, bodP, unhide HMP]; show (if _ then _ else _) = _; rw [if_neg (by rw [unhide HEN]; exact hk)]
  have HE := hide hE
  rw [if_neg hk] at HEND
  clear hE hk HMP HDB
  go_wp2_with fail
  refine (unhide HEND).mono ?_
  rintro e Wd ⟨rfl, q, rfl⟩
  have hd : Below W8.heap.size W8 (W8.drewN q) := below_drew _ _
  have HY9 := hide ((unhide HY8).below hd)
  have HM9 := hide ((unhide HM8).below hd)
  have HBW9 := hide ((unhide HBW8).trans (hd.mono (unhide HBW8).size))
  clear hd HX8 HR8 HEND k0 HY8 HM8 HBW8
  generalize W8.drewN q = W9 at HY9 HM9 HBW9 ⊢
  have k0 := (unhide HY9).c 0 rfl
  have k1 := (unhide HY9).c 1 rfl
  have k2 := (unhide HY9).c 2 rfl
  have k3 := (unhide HY9).c 3 rfl
  have HCK := hide (Check16_any y W9 (unhide HM9).ok (unhide HM9).capT (unhide HM9).capF ((unhide HW3).below (unhide HBW9)))
  go_wp2_with fail
  refine (unhide HCK).mono ?_
  rintro e Wa ⟨⟨n, er, rfl, hck⟩, hb⟩
  have HCR := hide hck
  have HYa := hide ((unhide HY9).below hb)
  have HMa := hide ((unhide HM9).below hb)
  have HBWa := hide ((unhide HBW9).trans (hb.mono (unhide HBW9).size))
  have HOa := hide ((unhide HO3).below (unhide HBWa))
  have HBa := hide ((unhide HB3).trans ((unhide HBWa).mono (unhide HB3).size))
  clear hck hb HCK k0 k1 k2 k3 HY9 HM9 HBW9 HO3 HB3 HBWa
  by_cases h0 : er = 0
  rotate_left
  · have t0 : (er != 0) = true := bne_t h0
    have HN0 := hide h0
    clear h0
    go_wp2_with fail
    refine (GiveUp_any 0 er Wa).mono ?_
    rintro e W ⟨rfl, hw⟩
    rw [hw]
    exact ⟨rfl, Or.inr ⟨0, er, Or.inr ⟨rfl, unhide HN0, y, n, unhide HE, unhide HCR⟩, rfl⟩, unhide HBa⟩
  subst h0
  obtain ⟨_, hn0⟩ := ck_good (unhide HCR)
  have HCZ : Hid (CkR y 0 0) := hide (by have := unhide HCR; rw [hn0] at this; exact this)
  have HZ : Hid (Bx (Wa.setRow w.heap.size #[.string y.nm, .slice y.ao y.T.length y.cap, .slice y.fo y.F.length y.fc, .slice y.co y.C.length y.cc]) w.heap.size 26 #[.string y.nm, .slice y.ao y.T.length y.cap, .slice y.fo y.F.length y.fc, .slice y.co y.C.length y.cc]) := hide (setRow_heap _ _ _ _ _ _ (unhide HOa))
  have hgw := grown_row (W := Wa) w.heap.size #[.string y.nm, .slice y.ao y.T.length y.cap, .slice y.fo y.F.length y.fc, .slice y.co y.C.length y.cc]
  have HMb := hide (((unhide HMa).far hgw (unhide HLW)).mono (Nat.le_of_lt (unhide HLW)))
  have HBb := hide ((unhide HBa).grown hgw (unhide HBa).size (fun q e => by injection e with e; omega))
  clear hgw hn0 HMa HBa HCR
  go_wp2_with (first | (refine wpList_load_rowG (by kernel_rfl) 26 (.tmp 5) rfl gm rfl 26 #[.string y.nm, .slice y.ao y.T.length y.cap, .slice y.fo y.F.length y.fc, .slice y.co y.C.length y.cc] (0, 0) _ (unhide HYa) Tryz.underlying26 rfl (by kernel_rfl) ?_) | (refine wpList_store_row rfl 26 _ _ rfl w.heap.size #[.string y.nm, .slice y.ao y.T.length y.cap, .slice y.fo y.F.length y.fc, .slice y.co y.C.length y.cc] rfl rfl 26 #[.string ⟨#[]⟩, .slice none 0 0, .slice none 0 0, .slice none 0 0] (unhide HOa) (by kernel_rfl) rfl (by simp [Value.oneCell']) ?_))
  exact bodyPost_ret (results_bx rfl _ _ w.heap.size _ rfl (run_loadVar_row _ _ 26 26 _ (0, 0) _ (unhide HZ) Tryz.underlying26 rfl (by kernel_rfl))) rfl ⟨Or.inl ⟨y, unhide HE, unhide HCZ, rfl, unhide HMb⟩, unhide HBb⟩
end Go.Proofs.YtibgfdjopikafaaGreatDoor

/-
  module.Decode's closure, and errors.As of no error. Conditions: lengths fit.
-/
namespace Go.Proofs.YtibgfdjopikafaaGreatDoor
open Go.RowKit
set_option maxRecDepth 20000
set_option linter.unusedVariables false
set_option linter.unusedSimpArgs false

theorem ent_dec1 : EntersF 34 := fun args W => by kernel_rfl
theorem As_nil (t : Value) (w : World) : Calls Tryz.prog 36 #[.nilIface, t] w fun ev w' => ev = .returned (.bool false) ∧ w' = w := by
  go_enter Tryz.func36, Tryz.ntmps36
  go_wp2
  go_ret
  exact ⟨rfl, rfl⟩
/-- What the closure comes to: gm is the box of the module. -/
def D1P (w : World) (b : List UInt8) (gm : Nat) (e : Ending) (W : World) : Prop :=
  ((∃ y : Md, decD b = .ok (mcOf y) ∧ CkR y 0 0 ∧ e = .returned (.tuple #[]) ∧ MdR W w.heap.size y ∧ Bx W gm 26 #[.string y.nm, .slice y.ao y.T.length y.cap, .slice y.fo y.F.length y.fc, .slice y.co y.C.length y.cc]) ∨
   (∃ (a : Nat) (er : Int), (decD b = .error (a, er) ∨ (a = 0 ∧ er ≠ 0 ∧ ∃ (y : Md) (n : Nat), decD b = .ok (mcOf y) ∧ CkR y n er)) ∧ e = .panicked [{ v := fltV (a : Int) er, recovered := false }])) ∧ w.grownBy W (some gm)
set_option maxHeartbeats 4000000 in
theorem dec1_any (ao : Option Addr) (c : Nat) (b : List UInt8) (w : World) (gb gm : Nat) (z : Array Value) (hb : BAt w ao b) (hc : b.length ≤ c) (hW : WordsAt w) (hx : Bx w gb 28 #[.slice ao b.length c]) (hm : Bx w gm 26 #[.string ⟨#[]⟩, .slice none 0 0, .slice none 0 0, .slice none 0 0]) :
    Calls Tryz.prog 34 #[.pointer (some ⟨gb, 0, none⟩), .pointer (some ⟨gm, 0, none⟩)] w (D1P w b gm) := by
  have k0 := hx.c 0 rfl
  have HC := hide (decoded_any ao c b w hb hc hW)
  have HM := hide hm
  clear hb hc hW hx hm
  go_enter Tryz.func34, Tryz.ntmps34
  go_wp2_with fail
  refine (unhide HC).mono ?_
  rintro e W1 ⟨⟨y, hd, hck, rfl, hmd⟩ | ⟨a, er, hd, rfl⟩, hb1⟩
  rotate_left
  · exact ⟨rfl, Or.inr ⟨a, er, hd, rfl⟩, grown_of_below hb1 _⟩
  have HM1 := hide ((unhide HM).below hb1)
  have hgw := grown_row (W := W1) gm #[.string y.nm, .slice y.ao y.T.length y.cap, .slice y.fo y.F.length y.fc, .slice y.co y.C.length y.cc]
  have HZ : Hid (Bx (W1.setRow gm #[.string y.nm, .slice y.ao y.T.length y.cap, .slice y.fo y.F.length y.fc, .slice y.co y.C.length y.cc]) gm 26 #[.string y.nm, .slice y.ao y.T.length y.cap, .slice y.fo y.F.length y.fc, .slice y.co y.C.length y.cc]) := hide (setRow_heap _ _ _ _ _ _ (unhide HM1))
  have HMD := hide (hmd.far hgw (unhide HM).lt)
  have HG := hide (grown_trans (grown_of_below hb1 (some gm)) hgw)
  have HE := hide hd
  have HK := hide hck
  clear hd hck hmd hb1 hgw k0 HC
  go_wp2_with (refine wpList_store_row rfl 26 _ _ rfl gm #[.string y.nm, .slice y.ao y.T.length y.cap, .slice y.fo y.F.length y.fc, .slice y.co y.C.length y.cc] rfl rfl 26 #[.string ⟨#[]⟩, .slice none 0 0, .slice none 0 0, .slice none 0 0] (unhide HM1) (by kernel_rfl) rfl (by simp [Value.oneCell']) ?_)
  go_end0
  exact ⟨Or.inl ⟨y, unhide HE, unhide HK, rfl, unhide HMD, unhide HZ⟩, unhide HG⟩
end Go.Proofs.YtibgfdjopikafaaGreatDoor

/-
  module.Decode: what a file is decoded as, or the place of its fault. Conditions: lengths fit.
-/
namespace Go.Proofs.YtibgfdjopikafaaGreatDoor
open Go.RowKit
set_option maxRecDepth 20000
set_option linter.unusedVariables false
set_option linter.unusedSimpArgs false

/-- What Decode answers. -/
def DecR (b : List UInt8) (y : Md) (at_ : Nat) (er : Int) : Prop :=
  (decD b = .ok (mcOf y) ∧ CkR y 0 0 ∧ at_ = 0 ∧ er = 0) ∨
  ((decD b = .error (at_, er) ∨ (at_ = 0 ∧ er ≠ 0 ∧ ∃ (x : Md) (n : Nat), decD b = .ok (mcOf x) ∧ CkR x n er)) ∧ y = ⟨⟨#[]⟩, none, 0, [], none, 0, [], none, 0, []⟩)
theorem results_md {fn : Func} {q u t : Tmp} (h : fn.results = #[.cell q 26, .tmp u, .tmp t]) (tmps : Array Value) (W : World) (g : Nat) (v x : Value) (cs : Array Value) (hp : tmps.getD q undef = .pointer (some ⟨g, 0, none⟩)) (hu : tmps.getD u undef = v) (ht : tmps.getD t undef = x) (hg : Bx W g 26 cs) (hs : cs.size = 4) :
    (results fn tmps).run Tryz.prog W = .ok (.tuple #[.agg cs, v, x]) W := by
  rw [results_cell_tmp2 h, hp, hu, ht, run_addr, Result.andThen_ok, run_loadVar_row W g 26 26 cs (0, 0) _ hg Tryz.underlying26 rfl (by rw [hs]; kernel_rfl), Result.andThen_ok]
theorem md_zero (W : World) (B : Nat) : MdR W B ⟨⟨#[]⟩, none, 0, [], none, 0, [], none, 0, []⟩ :=
  ⟨RowAt.nil _ _ _, RowAt.nil _ _ _, RowAt.nil _ _ _, ⟨fun _ _ e => by (cases e), fun _ h => by (cases h)⟩, ⟨fun _ _ e => by (cases e), fun _ h => by (cases h)⟩, ⟨fun _ _ e => by (cases e), fun _ h => by (cases h)⟩, Nat.le_refl _, Nat.le_refl _, by decide, by decide, by decide, by decide, fun _ _ e => by (cases e), fun _ _ e => by (cases e), ⟨0, ⟨fun _ _ e => by (cases e), fun _ h => by (cases h)⟩, ⟨fun _ _ e => by (cases e), fun _ h => by (cases h)⟩⟩⟩
theorem flt_inj {a e b d : Int} (h : fltV a e = fltV b d) : a = b ∧ e = d := by
  unfold fltV at h
  simpa using h
theorem bx_up {w : World} {g : Nat} {t : TypeId} {cs : Array Value} (h : Bx w g t cs) (o : Obj) : Bx (w.alloc o) g t cs := h.below ((Below.refl _ _).alloc (Nat.le_refl _) _)
set_option maxHeartbeats 8000000 in
theorem Decode16_any (ao : Option Addr) (c : Nat) (b : List UInt8) (w : World) (hb : BAt w ao b) (hc : b.length ≤ c) (hW : WordsAt w) (hE : ErrAt w) :
    Calls Tryz.prog 15 #[.slice ao b.length c] w fun e W => ∃ (y : Md) (at_ : Nat) (er : Int), e = .returned (.tuple #[.agg #[.string y.nm, .slice y.ao y.T.length y.cap, .slice y.fo y.F.length y.fc, .slice y.co y.C.length y.cc], .int .i64 (at_ : Int), .int .i64 er]) ∧ DecR b y at_ er ∧ MdR W w.heap.size y ∧ Below w.heap.size w W := by
  have HX1 : Hid (Bx ((((w.alloc (.cells #[.slice ao b.length c] 28)).alloc (.cells #[.string ⟨#[]⟩, .slice none 0 0, .slice none 0 0, .slice none 0 0] 26)).alloc (.cells #[.string ⟨#[]⟩, .slice none 0 0, .slice none 0 0, .slice none 0 0] 26)).alloc (.cells #[.int .i64 0, .int .i64 0] 70)) w.heap.size 28 #[.slice ao b.length c]) := hide (bx_up (bx_up (bx_up (heap_alloc_new w _) _) _) _)
  have HX2 : Hid (Bx ((((w.alloc (.cells #[.slice ao b.length c] 28)).alloc (.cells #[.string ⟨#[]⟩, .slice none 0 0, .slice none 0 0, .slice none 0 0] 26)).alloc (.cells #[.string ⟨#[]⟩, .slice none 0 0, .slice none 0 0, .slice none 0 0] 26)).alloc (.cells #[.int .i64 0, .int .i64 0] 70)) (w.heap.size + 1) 26 #[.string ⟨#[]⟩, .slice none 0 0, .slice none 0 0, .slice none 0 0]) := hide (by have := heap_alloc_new (w.alloc (.cells #[.slice ao b.length c] 28)) (.cells #[.string ⟨#[]⟩, .slice none 0 0, .slice none 0 0, .slice none 0 0] 26); rw [World.size_alloc] at this; exact bx_up (bx_up this _) _)
  have HX3 : Hid (Bx ((((w.alloc (.cells #[.slice ao b.length c] 28)).alloc (.cells #[.string ⟨#[]⟩, .slice none 0 0, .slice none 0 0, .slice none 0 0] 26)).alloc (.cells #[.string ⟨#[]⟩, .slice none 0 0, .slice none 0 0, .slice none 0 0] 26)).alloc (.cells #[.int .i64 0, .int .i64 0] 70)) (w.heap.size + 2) 26 #[.string ⟨#[]⟩, .slice none 0 0, .slice none 0 0, .slice none 0 0]) := hide (by have := heap_alloc_new ((w.alloc (.cells #[.slice ao b.length c] 28)).alloc (.cells #[.string ⟨#[]⟩, .slice none 0 0, .slice none 0 0, .slice none 0 0] 26)) (.cells #[.string ⟨#[]⟩, .slice none 0 0, .slice none 0 0, .slice none 0 0] 26); rw [World.size_alloc, World.size_alloc] at this; exact bx_up this _)
  have HX4 : Hid (Bx ((((w.alloc (.cells #[.slice ao b.length c] 28)).alloc (.cells #[.string ⟨#[]⟩, .slice none 0 0, .slice none 0 0, .slice none 0 0] 26)).alloc (.cells #[.string ⟨#[]⟩, .slice none 0 0, .slice none 0 0, .slice none 0 0] 26)).alloc (.cells #[.int .i64 0, .int .i64 0] 70)) (w.heap.size + 3) 70 #[.int .i64 0, .int .i64 0]) := hide (by have := heap_alloc_new (((w.alloc (.cells #[.slice ao b.length c] 28)).alloc (.cells #[.string ⟨#[]⟩, .slice none 0 0, .slice none 0 0, .slice none 0 0] 26)).alloc (.cells #[.string ⟨#[]⟩, .slice none 0 0, .slice none 0 0, .slice none 0 0] 26)) (.cells #[.int .i64 0, .int .i64 0] 70); rw [World.size_alloc, World.size_alloc, World.size_alloc] at this; exact this)
  have HB : Hid (Below w.heap.size w ((((w.alloc (.cells #[.slice ao b.length c] 28)).alloc (.cells #[.string ⟨#[]⟩, .slice none 0 0, .slice none 0 0, .slice none 0 0] 26)).alloc (.cells #[.string ⟨#[]⟩, .slice none 0 0, .slice none 0 0, .slice none 0 0] 26)).alloc (.cells #[.int .i64 0, .int .i64 0] 70))) := hide (((((Below.refl _ _).alloc (Nat.le_refl _) _).alloc (by simp) _).alloc (by simp; omega) _).alloc (by simp; omega) _)
  have HS : Hid (((((w.alloc (.cells #[.slice ao b.length c] 28)).alloc (.cells #[.string ⟨#[]⟩, .slice none 0 0, .slice none 0 0, .slice none 0 0] 26)).alloc (.cells #[.string ⟨#[]⟩, .slice none 0 0, .slice none 0 0, .slice none 0 0] 26)).alloc (.cells #[.int .i64 0, .int .i64 0] 70)).heap.size = w.heap.size + 4) := hide (by simp)
  have HD := hide hb
  have HW := hide hW
  have HE := hide hE
  have mixed := mixedT
  clear hb hW hE
  go_enter Tryz.func15, Tryz.ntmps15
  go_upto_region 3 with fail
  generalize ((((w.alloc (.cells #[.slice ao b.length c] 28)).alloc (.cells #[.string ⟨#[]⟩, .slice none 0 0, .slice none 0 0, .slice none 0 0] 26)).alloc (.cells #[.string ⟨#[]⟩, .slice none 0 0, .slice none 0 0, .slice none 0 0] 26)).alloc (.cells #[.int .i64 0, .int .i64 0] 70)) = W4 at HX1 HX2 HX3 HX4 HB HS ⊢
  have hs4 := unhide HS
  have al : Below W4.heap.size W4 (W4.alloc (.cells #[.nilIface] 61)) := (Below.refl _ _).alloc (Nat.le_refl _) _
  have HQB : Hid (Bx (W4.alloc (.cells #[.nilIface] 61)) W4.heap.size 61 #[.nilIface]) := hide (heap_alloc_new W4 _)
  have hBE := (unhide HB).trans (al.mono (unhide HB).size)
  have HBE := hide hBE
  have HY2 := hide ((unhide HX2).below al)
  have HY4 := hide ((unhide HX4).below al)
  have HSE : Hid ((W4.alloc (.cells #[.nilIface] 61)).heap.size = w.heap.size + 5) := hide (by simp; omega)
  have hcl := dec1_any ao c b (W4.alloc (.cells #[.nilIface] 61)) w.heap.size (w.heap.size + 2) #[] ((unhide HD).below' hBE) hc ((unhide HW).below hBE) ((unhide HX1).below al) ((unhide HX3).below al)
  have HCA := hide (Catch_any 34 #[.pointer (some ⟨w.heap.size, 0, none⟩), .pointer (some ⟨w.heap.size + 2, 0, none⟩)] W4 _ ent_dec1 hcl (fun e W hq => by
    obtain ⟨hq, hg⟩ := hq
    refine ⟨?_, (unhide HQB).grown hg (fun e => by injection e with e; omega), (unhide HE).below ((unhide HBE).grown hg (unhide HBE).size (fun q e => by injection e with e; omega))⟩
    rcases hq with ⟨y, _, _, rfl, _⟩ | ⟨a, er, _, rfl⟩
    · exact Or.inl rfl
    · exact Or.inr ⟨a, er, rfl⟩))
  clear hcl hBE al
  go_wp2_with fail
  refine (unhide HCA).mono ?_
  rintro e W5 ⟨e0, W, ⟨hq, hg⟩, hbe, ⟨rfl, rfl, hw5⟩ | ⟨a7, er7, rfl, rfl, hb5⟩⟩
  · rcases hq with ⟨y, hd, hck, _, hmd, hy⟩ | ⟨a, er, _, hh⟩
    rotate_left
    · cases hh
    have hgs := grownBy_set W W4.heap.size 0 .nilIface
    rw [← hw5] at hgs
    have HM5 := hide (hmd.far hgs (by have := unhide HSE; omega))
    have HY5 := hide (hy.grown hgs (fun e => by injection e with e; omega))
    have HO5 := hide (((unhide HY2).grown hg (fun e => by injection e with e; omega)).grown hgs (fun e => by injection e with e; omega))
    have HB5 := hide (((unhide HBE).grown hg (unhide HBE).size (fun q e => by injection e with e; omega)).grown hgs (Nat.le_trans (unhide HBE).size hg.size) (fun q e => by injection e with e; omega))
    have HDR : Hid (DecR b y 0 0) := hide (Or.inl ⟨hd, hck, rfl, rfl⟩)
    have hs5 := unhide HSE
    clear hd hck hmd hy hgs hg hbe hw5 HCA HX1 HX2 HX3 HX4 HY2 HY4 HQB HSE
    go_wp2_with fail
    refine (As_nil _ W5).mono ?_
    rintro e Wn ⟨rfl, hwn⟩
    rw [hwn]
    clear hwn Wn
    have HZ : Hid (Bx (W5.setRow (w.heap.size + 1) #[.string y.nm, .slice y.ao y.T.length y.cap, .slice y.fo y.F.length y.fc, .slice y.co y.C.length y.cc]) (w.heap.size + 1) 26 #[.string y.nm, .slice y.ao y.T.length y.cap, .slice y.fo y.F.length y.fc, .slice y.co y.C.length y.cc]) := hide (setRow_heap _ _ _ _ _ _ (unhide HO5))
    have hgw := grown_row (W := W5) (w.heap.size + 1) #[.string y.nm, .slice y.ao y.T.length y.cap, .slice y.fo y.F.length y.fc, .slice y.co y.C.length y.cc]
    have HMb := hide (((unhide HM5).far hgw (by rw [hs5]; omega)).mono (A := w.heap.size) (by rw [hs5]; omega))
    have HBb := hide ((unhide HB5).grown hgw (unhide HB5).size (fun q e => by injection e with e; omega))
    clear hgw HM5 HB5
    go_wp2_with (first | (refine wpList_load_rowG (by kernel_rfl) 26 (.tmp 5) rfl (w.heap.size + 2) rfl 26 #[.string y.nm, .slice y.ao y.T.length y.cap, .slice y.fo y.F.length y.fc, .slice y.co y.C.length y.cc] (0, 0) _ (unhide HY5) Tryz.underlying26 rfl (by kernel_rfl) ?_) | (refine wpList_store_row rfl 26 _ _ rfl (w.heap.size + 1) #[.string y.nm, .slice y.ao y.T.length y.cap, .slice y.fo y.F.length y.fc, .slice y.co y.C.length y.cc] rfl rfl 26 #[.string ⟨#[]⟩, .slice none 0 0, .slice none 0 0, .slice none 0 0] (unhide HO5) (by kernel_rfl) rfl (by simp [Value.oneCell']) ?_))
    exact bodyPost_ret (v := .tuple #[.agg #[.string y.nm, .slice y.ao y.T.length y.cap, .slice y.fo y.F.length y.fc, .slice y.co y.C.length y.cc], .int .i64 ((0 : Nat) : Int), .int .i64 0]) (results_md rfl _ _ (w.heap.size + 1) _ _ _ rfl rfl rfl (unhide HZ) rfl) rfl ⟨y, 0, 0, rfl, unhide HDR, unhide HMb, unhide HBb⟩
  · rcases hq with ⟨y, _, _, hh, _⟩ | ⟨a, er, hd, hh⟩
    · cases hh
    injection hh with hh
    injection hh with hh _
    injection hh with hh _
    obtain ⟨rfl, he⟩ := flt_inj hh
    subst er7
    have hs5 := unhide HSE
    have hBW := (unhide HBE).grown hg (unhide HBE).size (fun q e => by injection e with e; omega)
    have HB5 := hide (hBW.trans (hb5.mono (by omega)))
    have HO5 : Hid (Bx W5 (w.heap.size + 1) 26 #[.string ⟨#[]⟩, .slice none 0 0, .slice none 0 0, .slice none 0 0]) := hide ((hb5.block (w.heap.size + 1) (by omega)).trans ((unhide HY2).grown hg (fun e => by injection e with e; omega)))
    have HF5 : Hid (Bx W5 (w.heap.size + 3) 70 #[.int .i64 0, .int .i64 0]) := hide ((hb5.block (w.heap.size + 3) (by omega)).trans ((unhide HY4).grown hg (fun e => by injection e with e; omega)))
    have HE5 := hide ((unhide HE).below (unhide HB5))
    have HDR : Hid (DecR b ⟨⟨#[]⟩, none, 0, [], none, 0, [], none, 0, []⟩ a er) := hide (Or.inr ⟨hd, rfl⟩)
    have HAS := hide (As_hit (w.heap.size + 3) (a : Int) er (.int .i64 0) (.int .i64 0) W5 (unhide HE5) (unhide HF5))
    have hsz5 : w.heap.size + 3 ≤ W5.heap.size := Nat.le_of_lt (unhide HF5).lt
    have hb6 := as_bel (w := W5) (g := w.heap.size + 3) (B := w.heap.size + 3) (a := (a : Int)) (e := er) (Nat.le_refl _) hsz5
    have hf6 := as_box (a := (a : Int)) (e := er) (unhide HF5)
    generalize HW6 : (((as4 W5 (w.heap.size + 3) (a : Int) er).setCell ⟨w.heap.size + 3, 0, none⟩ (.int .i64 (a : Int))).setCell ⟨w.heap.size + 3, 1, none⟩ (.int .i64 er)) = W6 at HAS hb6 hf6
    clear HW6
    have HB6 := hide ((unhide HB5).trans (hb6.mono (by omega)))
    have HO6 : Hid (Bx W6 (w.heap.size + 1) 26 #[.string ⟨#[]⟩, .slice none 0 0, .slice none 0 0, .slice none 0 0]) := hide ((hb6.block (w.heap.size + 1) (by omega)).trans (unhide HO5))
    have HF6 := hide hf6
    clear hd hg hbe hb5 hBW hb6 hf6 hh HCA HX1 HX2 HX3 HX4 HY2 HY4 HQB HSE HBE HB5 HO5 HF5 HE5 HB HE
    unfold fltV
    go_wp2_with fail
    refine (unhide HAS).mono ?_
    rintro e Wn ⟨rfl, hwn⟩
    rw [hwn]
    clear hwn Wn HAS
    go_upto_region 5 with fail
    have hd6 : Below W6.heap.size W6 W6.drew := Below.drew (Below.refl _ _)
    have HF7 := hide ((unhide HF6).below hd6)
    have HO7 := hide ((unhide HO6).below hd6)
    have HB7 := hide ((unhide HB6).trans (hd6.mono (unhide HB6).size))
    refine wp_region_held_drew (S := fun w' => Bx w' (w.heap.size + 3) 70 #[.int .i64 (a : Int), .int .i64 er]) mixed (unhide HF7) (fun hS => ?_)
    clear hd6 HF6 HO6 HB6
    generalize W6.drew = Wd at hS HF7 HO7 HB7 ⊢
    refine wpAnyH_take (i := 0) (v := .agg #[.string ⟨#[]⟩, .slice none 0 0, .slice none 0 0, .slice none 0 0]) rfl (by kernel_rfl) (by kernel_rfl) (by kernel_rfl) (fun _ _ _ h => h) (Or.inl ⟨by rfl, fun W _ => by go_simp⟩) hS ?_
    go_simp
    refine wpAnyH_take (i := 1) (v := .pointer (some ⟨w.heap.size + 3, 0, none⟩)) rfl (by kernel_rfl) (by kernel_rfl) (by kernel_rfl) (fun _ _ _ h => h) (Or.inl ⟨by rfl, fun W _ => by go_simp⟩) hS ?_
    go_simp
    refine wpAnyH_take (i := 2) (v := .int .i64 (a : Int)) rfl (by kernel_rfl) (by kernel_rfl) (by kernel_rfl) (fun _ _ _ h => h) (Or.inl ⟨by rfl, fun W h => by have h0 := h.c 0 rfl; have h1 := h.c 1 rfl; go_simp⟩) hS ?_
    go_simp
    refine wpAnyH_take (i := 3) (v := .pointer (some ⟨w.heap.size + 3, 1, none⟩)) rfl (by kernel_rfl) (by kernel_rfl) (by kernel_rfl) (fun _ _ _ h => h) (Or.inl ⟨by rfl, fun W _ => by go_simp⟩) hS ?_
    go_simp
    refine wpAnyH_take (i := 4) (v := .int .i64 er) rfl (by kernel_rfl) (by kernel_rfl) (by kernel_rfl) (fun _ _ _ h => h) (Or.inl ⟨by rfl, fun W h => by have h0 := h.c 0 rfl; have h1 := h.c 1 rfl; go_simp⟩) hS ?_
    go_simp
    have HZ : Hid (Bx (Wd.setRow (w.heap.size + 1) #[.string ⟨#[]⟩, .slice none 0 0, .slice none 0 0, .slice none 0 0]) (w.heap.size + 1) 26 #[.string ⟨#[]⟩, .slice none 0 0, .slice none 0 0, .slice none 0 0]) := hide (setRow_heap _ _ _ _ _ _ (unhide HO7))
    have hgw := grown_row (W := Wd) (w.heap.size + 1) #[.string ⟨#[]⟩, .slice none 0 0, .slice none 0 0, .slice none 0 0]
    have HF8 := hide ((unhide HF7).grown hgw (fun e => by injection e with e; omega))
    have HB8 := hide ((unhide HB7).grown hgw (unhide HB7).size (fun q e => by injection e with e; omega))
    clear hgw
    refine wpAnyH_ready (rs := [5]) (by kernel_rfl) (by simp) ?_
    refine AllReadyH.cons rfl (fun KK hK => ?_) AllReadyH.nil
    rw [if_pos (by rfl)]
    refine wp_store_row 26 _ _ rfl (w.heap.size + 1) #[.string ⟨#[]⟩, .slice none 0 0, .slice none 0 0, .slice none 0 0] rfl rfl 26 #[.string ⟨#[]⟩, .slice none 0 0, .slice none 0 0, .slice none 0 0] (unhide HO7) (by kernel_rfl) rfl (by simp [Value.oneCell']) ?_
    refine hK.out _ _ (unhide HF8) (fun hS => ?_)
    clear hK KK
    refine wpAnyH_ready (rs := [6]) (by kernel_rfl) (by simp) ?_
    refine AllReadyH.cons rfl (fun KK hK => ?_) AllReadyH.nil
    go_simp
    refine hK.out _ _ (unhide HF8) (fun hS => ?_)
    clear hK KK
    refine wpAnyH_ready (rs := [7]) (by kernel_rfl) (by simp) ?_
    refine AllReadyH.cons rfl (fun KK hK => ?_) AllReadyH.nil
    go_simp
    refine hK.out _ _ (unhide HF8) (fun hS => ?_)
    clear hK KK
    refine wpAnyH_done (by kernel_rfl) ?_ _
    go_wp2
    exact bodyPost_ret (v := .tuple #[.agg #[.string ⟨#[]⟩, .slice none 0 0, .slice none 0 0, .slice none 0 0], .int .i64 (a : Int), .int .i64 er]) (results_md rfl _ _ (w.heap.size + 1) _ _ _ rfl rfl rfl (unhide HZ) rfl) rfl ⟨⟨⟨#[]⟩, none, 0, [], none, 0, [], none, 0, []⟩, a, er, rfl, unhide HDR, md_zero _ _, unhide HB8⟩
end Go.Proofs.YtibgfdjopikafaaGreatDoor
