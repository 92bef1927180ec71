/-
  The contract of provisoref03.Rank; the words of a made table are short. Conditions: the table is made and lies there, the frame is of bytes.
-/
import Derived.Test.YtelbajcfdecaoaaDoorTx4
import Derived.Test.YtelbajcfdecaoaaDoorFrR
import Derived.Test.YtelbajcfdecaoaaDoorRefRank
namespace Go.Proofs.YtelbajcfdecaoaaDoor
open Go.RowKit
set_option maxRecDepth 20000

set_option maxHeartbeats 1000000 in
theorem refRankF_any (ao : Option Addr) (cap : Nat) (T : List Cl) (f : Fr) (w : World) (hT : TabAt w ao T) (hz : T.length * 48 ≤ 140737488351232) (hm : madeD T = true) (hf : FrOk f) :
    Calls Tryd.prog 14 #[.slice ao T.length cap, .agg (frA f)] w fun e w' => e = .returned (intTwo (rankF T f)) ∧ Below w.heap.size w w' := by
  have H32 := hide (made_32 hm)
  have HF := hide hf
  have HT := hide hT
  have HZ := hide hz
  have HM := hide hm
  have H1 := hide (FAt.new w f)
  have HB : Hid (Below w.heap.size w (w.alloc (.cells (frA f) 26))) := hide ((Below.refl _ _).alloc (Nat.le_refl _) _)
  clear hf hT hz hm
  go_enter Tryd.func14, Tryd.ntmps14
  go_wp2_with (refine wpList_load_row rfl 26 _ rfl w.heap.size rfl 26 (frA f) (0, 0) _ (unhide H1) Tryd.underlying26 rfl (sizeFr (unhide HF)) ?_)
  generalize (w.alloc (.cells (frA f) 26)) = W at H1 HB ⊢
  refine (refCheckF_any ao cap T.length f _ (unhide HF)).mono ?_
  rintro e W1 ⟨rfl, hB1⟩
  have K1 := hide ((unhide H1).below hB1 (unhide H1).lt)
  have HB1 := hide ((unhide HB).trans (hB1.mono (unhide HB).size))
  clear hB1 H1 HB W
  by_cases ea : chkF T.length f = 0
  rotate_left
  · have HR : Hid (rankF T f = (0, chkF T.length f)) := hide (by unfold rankF; rw [if_pos ea])
    generalize chkF T.length f = er at ea HR ⊢
    have b1 := bne_t ea
    clear ea
    go_wp2
    go_ret2
    exact ⟨by rw [unhide HR]; rfl, unhide HB1⟩
  have HR : Hid (rankF T f = (rankTo T f.sl (nF f), 0)) := hide (by unfold rankF; rw [if_neg (by rw [ea]; simp)])
  have HS := hide (check_good ea).1
  obtain ⟨h0, h1, h2, h3⟩ := shapeD_iff.1 (unhide HS)
  obtain ⟨lo, hlo⟩ : ∃ m : Nat, f.lo = (m : Int) := ⟨f.lo.toNat, by omega⟩
  obtain ⟨he, hhe⟩ : ∃ m : Nat, f.he = (m : Int) := ⟨f.he.toNat, by omega⟩
  have h24 : lo + he ≤ 24 := by omega
  have HN : Hid (nF f = lo + he) := hide (by unfold nF; omega)
  have HLO := hide hlo
  have HHE := hide hhe
  rw [ea]
  clear ea h0 h1 h2 h3 hlo hhe
  go_wp2
  go_loopw [7, 8] (fun s i wr => ∃ k R : Nat, k ≤ lo + he ∧ i = .int .i64 (k : Int) ∧ s = .int .i64 (R : Int) ∧ R ≤ 34 * k ∧ Hid (R = rankTo T f.sl k) ∧ Hid (FAt wr w.heap.size f) ∧ Hid (Below w.heap.size w wr)) (fun _ i _ => lo + he - (intOf i).toNat)
  case atStart => exact ⟨0, 0, by omega, rfl, rfl, by omega, hide rfl, K1, HB1⟩
  case round =>
    clear K1 HB1 W1
    obtain ⟨k, R, hk, rfl, rfl, hR, HRK, F3, HB3⟩ := hrel
    have c0 := (unhide F3).lo
    have c1 := (unhide F3).he
    rw [unhide HLO] at c0
    rw [unhide HHE] at c1
    by_cases hlt : k < lo + he
    · have j1 : ((k : Nat) : Int) < (lo : Int) + (he : Int) := by omega
      have j2 : ((k : Nat) : Int) < 24 := by omega
      have hlen : k < f.sl.length := by rw [(unhide HF).len]; omega
      have hx := List.getElem?_eq_getElem hlen
      have d1 := (unhide F3).slot hx
      have hx256 := (unhide HF).byte _ (List.getElem_mem hlen)
      have HRK2 : Hid (rankTo T f.sl (k + 1) = R + rankD T f.sl[k]) := hide (by
        show rankTo T f.sl k + rankD T (f.sl.getD k 0) = _
        rw [unhide HRK, List.getD_eq_getElem?_getD, hx]
        rfl)
      have hr34 := rank_le (unhide H32) f.sl[k]
      generalize f.sl[k] = x at d1 hx256 HRK2 hr34
      clear hx hlen
      go_wp2_with fail
      refine (refRank_any ao cap T x _ ((unhide HT).below (unhide HB3)) (unhide HZ) (unhide HM) hx256).mono ?_
      rintro e W4 ⟨rfl, hB4⟩
      have F4 := hide ((unhide F3).below hB4 (unhide F3).lt)
      have HB4 := hide ((unhide HB3).trans (hB4.mono (unhide HB3).size))
      clear hB4 F3 HB3 d1 c0 c1
      generalize rankD T x = r at HRK2 hr34 ⊢
      go_wp2
      go_roundw
      case rel => exact ⟨k + 1, R + r, by omega, by go_num, by go_num, by omega, hide (unhide HRK2).symm, F4, HB4⟩
      case measure => simp [intOf]; omega
    · obtain rfl : k = lo + he := by omega
      have j1 : ¬ (((lo + he : Nat) : Nat) : Int) < (lo : Int) + (he : Int) := by omega
      clear hlt
      go_wp2
      go_ret2
      rw [unhide HR, unhide HN, ← unhide HRK]
      exact ⟨rfl, unhide HB3⟩
end Go.Proofs.YtelbajcfdecaoaaDoor
