/-
  The contract of frames.Rank: what the plain function 'rankF' says; nothing old is turned. Conditions: the table lies there and has at most 32 classes.
-/
import Derived.Test.YtelbajcfdecaoaaDoorFrL
import Derived.Test.YtelbajcfdecaoaaDoorFrM
import Derived.Test.YtelbajcfdecaoaaDoorRank
namespace Go.Proofs.YtelbajcfdecaoaaDoor
open Go.RowKit
set_option maxRecDepth 20000

def rankTo (T : List Cl) (l : List Nat) : Nat → Nat
  | 0 => 0
  | k + 1 => rankTo T l k + rankD T (l.getD k 0)
theorem rankTo_le {T : List Cl} (h : T.length ≤ 32) (l : List Nat) : ∀ k, rankTo T l k ≤ 34 * k
  | 0 => Nat.le_refl _
  | k + 1 => by
    have := rankTo_le h l k
    have := rank_le h (l.getD k 0)
    unfold rankTo
    omega
def rankF (T : List Cl) (f : Fr) : Nat × Int := if chkF T.length f ≠ 0 then (0, chkF T.length f) else (rankTo T f.sl (nF f), 0)
def intTwo (p : Nat × Int) : Value := .tuple #[.int .i64 (p.1 : Int), .int .i64 p.2]

set_option maxHeartbeats 2000000 in
theorem RankF_any (ao : Option Addr) (cap : Nat) (T : List Cl) (f : Fr) (w : World) (hT : TabAt w ao T) (hz : T.length * 48 ≤ 140737488351232) (h32 : T.length ≤ 32) (hf : FrOk f) :
    Calls Tryd.prog 13 #[.slice ao T.length cap, .agg (frA f)] w fun e w' => e = .returned (intTwo (rankF T f)) ∧ Below w.heap.size w w' := by
  have HF := hide hf
  have HT := hide hT
  have HZ := hide hz
  have H32 := hide h32
  have H1 := hide (FAt.new w f)
  have HB : Hid (Below w.heap.size w (w.alloc (.cells (frA f) 26))) := hide ((Below.refl _ _).alloc (Nat.le_refl _) _)
  clear hf hT hz h32
  go_enter Tryd.func13, Tryd.ntmps13
  go_wp2_with (refine wpList_load_row rfl 26 _ rfl w.heap.size rfl 26 (frA f) (0, 0) _ (unhide H1) Tryd.underlying26 rfl (sizeFr (unhide HF)) ?_)
  generalize (w.alloc (.cells (frA f) 26)) = W at H1 HB ⊢
  refine (CheckF_any ao cap T.length f _ (unhide HF)).mono ?_
  rintro e W1 ⟨rfl, hB1⟩
  have K1 := hide ((unhide H1).below hB1 (unhide H1).lt)
  have HB1 := hide ((unhide HB).trans (hB1.mono (unhide HB).size))
  clear hB1 H1 HB W
  by_cases ea : chkF T.length f = 0
  rotate_left
  · have HR : Hid (rankF T f = (0, chkF T.length f)) := hide (by unfold rankF; rw [if_pos ea])
    generalize chkF T.length f = er at ea HR ⊢
    have b1 := bne_t ea
    clear ea
    go_wp2
    go_ret2
    exact ⟨by rw [unhide HR]; rfl, unhide HB1⟩
  have HR : Hid (rankF T f = (rankTo T f.sl (nF f), 0)) := hide (by unfold rankF; rw [if_neg (by rw [ea]; simp)])
  have HS := hide (check_good ea).1
  rw [ea]
  clear ea
  go_wp2_with (refine wpList_load_row rfl 26 _ rfl w.heap.size rfl 26 (frA f) (0, 0) _ (unhide K1) Tryd.underlying26 rfl (sizeFr (unhide HF)) ?_)
  refine (size_any f _ (unhide HS)).mono ?_
  rintro e W3 ⟨rfl, hB3⟩
  have F3 := hide ((unhide K1).below hB3 (unhide K1).lt)
  have HB3 := hide ((unhide HB1).trans (hB3.mono (unhide HB1).size))
  clear hB3 K1 HB1 W1
  obtain ⟨h0, h1, h2, h3⟩ := shapeD_iff.1 (unhide HS)
  obtain ⟨m, hm⟩ : ∃ m : Nat, f.lo + f.he = (m : Int) := ⟨nF f, by unfold nF; omega⟩
  have hm24 : m ≤ 24 := by omega
  have HN : Hid (nF f = m) := hide (by unfold nF; omega)
  rw [hm]
  clear hm h0 h1 h2 h3
  go_wp2
  go_loopw [7, 17] (fun s i wr => ∃ k R : Nat, k ≤ m ∧ i = .int .i64 (k : Int) ∧ s = .int .i64 (R : Int) ∧ R ≤ 34 * k ∧ Hid (R = rankTo T f.sl k) ∧ Hid (FAt wr w.heap.size f) ∧ Hid (Below w.heap.size w wr)) (fun _ i _ => m - (intOf i).toNat)
  case atStart => exact ⟨0, 0, by omega, rfl, rfl, by omega, hide rfl, F3, HB3⟩
  case round =>
    clear F3 HB3 W3
    obtain ⟨k, R, hk, rfl, rfl, hR, HRK, F3, HB3⟩ := hrel
    by_cases hlt : k < m
    · have j1 : ((k : Nat) : Int) < ((m : Nat) : Int) := by omega
      have j2 : ((k : Nat) : Int) < 24 := by omega
      have hlen : k < f.sl.length := by rw [(unhide HF).len]; omega
      have hx := List.getElem?_eq_getElem hlen
      have d1 := (unhide F3).slot hx
      have hx256 := (unhide HF).byte _ (List.getElem_mem hlen)
      have HRK2 : Hid (rankTo T f.sl (k + 1) = R + rankD T f.sl[k]) := hide (by
        show rankTo T f.sl k + rankD T (f.sl.getD k 0) = _
        rw [unhide HRK, List.getD_eq_getElem?_getD, hx]
        rfl)
      have hr34 := rank_le (unhide H32) f.sl[k]
      generalize f.sl[k] = x at d1 hx256 HRK2 hr34
      clear hx hlen
      go_wp2_with fail
      refine (Rank_any ao cap T x _ ((unhide HT).below (unhide HB3)) (unhide HZ) hx256).mono ?_
      rintro e W4 ⟨rfl, hB4⟩
      have F4 := hide ((unhide F3).below hB4 (unhide F3).lt)
      have HB4 := hide ((unhide HB3).trans (hB4.mono (unhide HB3).size))
      clear hB4 F3 HB3 d1
      generalize rankD T x = r at HRK2 hr34 ⊢
      go_wp2
      go_roundw
      case rel => exact ⟨k + 1, R + r, by omega, by go_num, by go_num, by omega, hide (unhide HRK2).symm, F4, HB4⟩
      case measure => simp [intOf]; omega
    · have j1 : ¬ ((k : Nat) : Int) < ((m : Nat) : Int) := by omega
      have HR2 : Hid (rankF T f = (R, 0)) := hide (by rw [unhide HR, unhide HRK, unhide HN, show k = m from by omega])
      go_wp2
      go_ret2
      exact ⟨by rw [unhide HR2]; rfl, unhide HB3⟩
end Go.Proofs.YtelbajcfdecaoaaDoor
