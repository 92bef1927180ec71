/-
  The contract of provisoref03.Print. Conditions: the table lies there, the frame is of bytes.
-/
import Derived.Test.YtelbajcfdecaoaaDoorTx2
namespace Go.Proofs.YtelbajcfdecaoaaDoor
open Go.RowKit
set_option maxRecDepth 20000

theorem str_eq {a : ByteArray} {l : List UInt8} (h : a.data.toList = l) : a = ⟨l.toArray⟩ := by
  cases a
  simp only at h
  rw [← h]
/-- What Print answers. -/
def prD (T : List Cl) (f : Fr) : ByteArray × Int := if chkF T.length f = 0 then (⟨(prF T f.lo.toNat f.he.toNat f.sl).toArray⟩, 0) else (⟨#[]⟩, chkF T.length f)

set_option maxHeartbeats 1000000 in
theorem refPrintF_any (ao : Option Addr) (cap : Nat) (T : List Cl) (f : Fr) (w : World) (hT : TabAt w ao T) (hf : FrOk f) (hM : ∀ t, (printD T t).size ≤ 1000) :
    Calls Tryd.prog 16 #[.slice ao T.length cap, .agg (frA f)] w fun e w' => e = .returned (.tuple #[.string (prD T f).1, .int .i64 (prD T f).2]) ∧ Below w.heap.size w w' := by
  have HF := hide hf
  have HT := hide hT
  have H1 := hide (FAt.new w f)
  have HB : Hid (Below w.heap.size w (w.alloc (.cells (frA f) 26))) := hide ((Below.refl _ _).alloc (Nat.le_refl _) _)
  clear hf hT
  go_enter Tryd.func16, Tryd.ntmps16
  go_wp2_with (refine wpList_load_row rfl 26 _ rfl w.heap.size rfl 26 (frA f) (0, 0) _ (unhide H1) Tryd.underlying26 rfl (sizeFr (unhide HF)) ?_)
  generalize (w.alloc (.cells (frA f) 26)) = W at H1 HB ⊢
  refine (refCheckF_any ao cap T.length f _ (unhide HF)).mono ?_
  rintro e W1 ⟨rfl, hB1⟩
  have K1 := hide ((unhide H1).below hB1 (unhide H1).lt)
  have HB1 := hide ((unhide HB).trans (hB1.mono (unhide HB).size))
  clear hB1 H1 HB W
  by_cases ea : chkF T.length f = 0
  rotate_left
  · have HR : Hid (prD T f = (⟨#[]⟩, chkF T.length f)) := hide (by unfold prD; rw [if_neg ea])
    generalize chkF T.length f = er at ea HR ⊢
    have b1 := bne_t ea
    clear ea
    go_wp2
    go_ret2
    exact ⟨by rw [unhide HR]; rfl, unhide HB1⟩
  have HS := hide (check_good ea).1
  obtain ⟨h0, h1, h2, h3⟩ := shapeD_iff.1 (unhide HS)
  obtain ⟨lo, hlo⟩ : ∃ m : Nat, f.lo = (m : Int) := ⟨f.lo.toNat, by omega⟩
  obtain ⟨he, hhe⟩ : ∃ m : Nat, f.he = (m : Int) := ⟨f.he.toNat, by omega⟩
  have HR : Hid (prD T f = (⟨(prF T lo he f.sl).toArray⟩, 0)) := hide (by unfold prD; rw [if_pos ea, hlo, hhe]; rfl)
  have h24 : lo + he ≤ 24 := by omega
  have HLO := hide hlo
  have HHE := hide hhe
  rw [ea]
  clear ea h0 h1 h2 h3 hlo hhe
  go_wp2
  go_loopw [7, 8] (fun s i wr => ∃ (k : Nat) (z : ByteArray), k ≤ lo + he ∧ i = .int .i64 (k : Int) ∧ s = .string z ∧ z.size ≤ 10 + 1003 * k ∧ Hid (z.data.toList = refTo T lo f.sl k) ∧ Hid (FAt wr w.heap.size f) ∧ Hid (Below w.heap.size w wr)) (fun _ i _ => lo + he - (intOf i).toNat)
  case atStart => exact ⟨0, _, by omega, rfl, rfl, by decide, hide (by rw [refTo_zero]), K1, HB1⟩
  case round =>
    clear K1 HB1 W1
    obtain ⟨k, z, hk, rfl, rfl, hzs, HZ, F3, HB3⟩ := hrel
    have c0 := (unhide F3).lo
    have c1 := (unhide F3).he
    rw [unhide HLO] at c0
    rw [unhide HHE] at c1
    by_cases hlt : k < lo + he
    · have j1 : ((k : Nat) : Int) < (lo : Int) + (he : Int) := by omega
      have j2 : ((k : Nat) : Int) < 24 := by omega
      have hlen : k < f.sl.length := by rw [(unhide HF).len]; omega
      have hx := List.getElem?_eq_getElem hlen
      have d1 := (unhide F3).slot hx
      have hx256 := (unhide HF).byte _ (List.getElem_mem hlen)
      by_cases hkl : k = lo
      · have HZ2 := hide (refTo_at T lo f.sl k _ hx hkl)
        have b1 : ((k : Int) == (lo : Int)) = true := beq_t (by omega)
        generalize f.sl[k] = x at d1 hx256 HZ2
        have RP := hide (fun W h => refPrint_any ao cap T x W h hx256)
        have ys := hM x
        generalize printD T x = y at RP HZ2 ys
        have n1 : ¬ 9223372036854775807 < z.size + 3 := by omega
        have n2 : ¬ 9223372036854775807 < z.size + 3 + y.size := by omega
        clear hx hlen hkl
        go_wp2_with (go_at_call 49; with_reducible refine (unhide RP _ ((unhide HT).below (unhide HB3))).mono ?_; rintro e W4 ⟨rfl, hw4⟩; rw [hw4]; clear hw4)
        go_roundw
        case rel => exact ⟨k + 1, _, by omega, by go_num, rfl, by rw [ByteArray.size_append, ByteArray.size_append]; show z.size + 3 + y.size ≤ _; omega, hide (by rw [unhide HZ2, ← unhide HZ]; simp [ByteArray.data_append]), F3, HB3⟩
        case measure => simp [intOf]; omega
      by_cases hk0 : k = 0
      · have HZ2 := hide (refTo_step T lo f.sl k _ hx hkl)
        have b1 : ((k : Int) == (lo : Int)) = false := beq_f (by omega)
        have b2 : ¬ 0 < k := by omega
        rw [if_pos hk0] at HZ2
        generalize f.sl[k] = x at d1 hx256 HZ2
        have RP := hide (fun W h => refPrint_any ao cap T x W h hx256)
        have ys := hM x
        generalize printD T x = y at RP HZ2 ys
        have n2 : ¬ 9223372036854775807 < z.size + y.size := by omega
        clear hx hlen hkl hk0
        go_wp2_with (go_at_call 49; with_reducible refine (unhide RP _ ((unhide HT).below (unhide HB3))).mono ?_; rintro e W4 ⟨rfl, hw4⟩; rw [hw4]; clear hw4)
        go_roundw
        case rel => exact ⟨k + 1, _, by omega, by go_num, rfl, by rw [ByteArray.size_append]; omega, hide (by rw [unhide HZ2, ← unhide HZ]; simp [ByteArray.data_append]), F3, HB3⟩
        case measure => simp [intOf]; omega
      · have HZ2 := hide (refTo_step T lo f.sl k _ hx hkl)
        have b1 : ((k : Int) == (lo : Int)) = false := beq_f (by omega)
        have b2 : 0 < k := by omega
        rw [if_neg hk0] at HZ2
        generalize f.sl[k] = x at d1 hx256 HZ2
        have RP := hide (fun W h => refPrint_any ao cap T x W h hx256)
        have ys := hM x
        generalize printD T x = y at RP HZ2 ys
        have n1 : ¬ 9223372036854775807 < z.size + 1 := by omega
        have n2 : ¬ 9223372036854775807 < z.size + 1 + y.size := by omega
        clear hx hlen hkl hk0
        go_wp2_with (go_at_call 49; with_reducible refine (unhide RP _ ((unhide HT).below (unhide HB3))).mono ?_; rintro e W4 ⟨rfl, hw4⟩; rw [hw4]; clear hw4)
        go_roundw
        case rel => exact ⟨k + 1, _, by omega, by go_num, rfl, by rw [ByteArray.size_append, ByteArray.size_append]; show z.size + 1 + y.size ≤ _; omega, hide (by rw [unhide HZ2, ← unhide HZ]; simp [ByteArray.data_append]), F3, HB3⟩
        case measure => simp [intOf]; omega
    · obtain rfl : k = lo + he := by omega
      have HE := hide (refTo_end T lo he f.sl)
      have j1 : ¬ (((lo + he : Nat) : Nat) : Int) < (lo : Int) + (he : Int) := by omega
      by_cases hh : he = 0
      · have b1 : ((he : Int) == 0) = true := beq_t (by omega)
        rw [if_pos hh] at HE
        have n1 : ¬ 9223372036854775807 < z.size + 3 := by omega
        have n2 : ¬ 9223372036854775807 < z.size + 3 + 1 := by omega
        clear hh hlt
        go_wp2
        go_ret2
        rw [unhide HR]
        refine ⟨?_, unhide HB3⟩
        show Ending.returned (.tuple #[.string (z ++ ⟨#[32, 124, 32]⟩ ++ ⟨#[93]⟩), .int .i64 0]) = _
        rw [str_eq (a := z ++ ⟨#[32, 124, 32]⟩ ++ ⟨#[93]⟩) (l := prF T lo he f.sl) (by rw [unhide HE, ← unhide HZ]; simp [ByteArray.data_append])]
      · have b1 : ((he : Int) == 0) = false := beq_f (by omega)
        rw [if_neg hh] at HE
        have n2 : ¬ 9223372036854775807 < z.size + 1 := by omega
        clear hh hlt
        go_wp2
        go_ret2
        rw [unhide HR]
        refine ⟨?_, unhide HB3⟩
        show Ending.returned (.tuple #[.string (z ++ ⟨#[93]⟩), .int .i64 0]) = _
        rw [str_eq (a := z ++ ⟨#[93]⟩) (l := prF T lo he f.sl) (by rw [unhide HE, ← unhide HZ]; simp [ByteArray.data_append])]
end Go.Proofs.YtelbajcfdecaoaaDoor
