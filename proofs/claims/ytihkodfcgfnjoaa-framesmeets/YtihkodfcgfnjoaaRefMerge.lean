/-
  The contract of provisoref02's Merge: what the plain function says; nothing old is turned. Conditions: types are bytes; the table may be.
-/
import Derived.Test.YtihkodfcgfnjoaaRefMore
namespace Go.Proofs.Ytihkodfcgfnjoaa
open Go.RowKit

set_option maxHeartbeats 4000000 in
theorem refMerge_any (ao : Option Addr) (cap : Nat) (T : List Cl) (a b : Nat) (w : World) (hT : TabAt w ao T) (hz : T.length * 48 ≤ 140737488351232) (hm : madeD T = true) (ha : a < 256) (hb : b < 256) :
    Calls Try.prog 41 #[.slice ao T.length cap, .int .u8 (a : Int), .int .u8 (b : Int)] w fun e w' => e = .returned (.int .u8 ((mergeD T a b : Nat) : Int)) ∧ Below w.heap.size w w' := by
  have HT := hide hT
  have HZ := hide hz
  have HM := hide hm
  have HE := hide (best_eq (T := T) ha hb)
  clear hT hz hm
  go_enter Try.func41, Try.ntmps41
  go_wp2_with fail
  refine (all_any ao cap T.length _).mono ?_
  rintro e w1 ⟨v, rfl, hO, hB1⟩
  have HLt : Hid (∀ x ∈ allD T.length, x < 256) := hide (fun x hx => by unfold allD at hx; exact List.mem_range.1 (List.mem_filter.1 hx).1)
  have hL256 : (allD T.length).length ≤ 256 := allK_length _ 256
  generalize allD T.length = L at hO HE HLt hL256
  obtain ⟨la, lc, rfl, hLc⟩ := hO.slice
  have HLc := hide hLc
  have HB1 := hide hB1
  clear hO hLc hB1
  go_wp2
  go_loopw [7, 9] (fun bv i wr => ∃ (k best : Nat), k ≤ L.length ∧ i = .int .i64 (k : Int) ∧ bv = .int .u8 (best : Int) ∧ best < 256 ∧ Hid ((L.take k).foldl (stepB T a b) 0 = best) ∧ Hid (Below w1.heap.size w1 wr)) (fun _ i _ => L.length - (intOf i).toNat)
  case atStart => exact ⟨0, 0, by omega, rfl, rfl, by omega, hide rfl, hide (Below.refl _ _)⟩
  case round =>
    obtain ⟨k, best, hk, rfl, rfl, hbest, HF, HB⟩ := hrel
    have HTr := hide ((unhide HT).below ((unhide HB1).trans ((unhide HB).mono (unhide HB1).size)))
    by_cases hlt : k < L.length
    · have j1 : ((k : Nat) : Int) < ((L.length : Nat) : Int) := by omega
      obtain ⟨g, rfl, hcj⟩ := unhide HLc k _ (List.getElem?_eq_getElem hlt)
      have hcj' : wr.cell? ⟨g, k, none⟩ = some (.int .u8 ((L[k] : Nat) : Int)) := ((unhide HB).cell (p := ⟨g, k, none⟩) (World.block_lt_of_cell? w1 _ hcj)).trans hcj
      have ht := unhide HLt _ (List.getElem_mem hlt)
      have HF2 : Hid ((L.take (k + 1)).foldl (stepB T a b) 0 = stepB T a b best L[k]) := hide (by rw [← List.take_append_getElem hlt, List.foldl_append, unhide HF]; rfl)
      generalize L[k] = t at hcj' ht HF2
      clear hcj
      have HTa := HTr
      have HBa := HB
      clear HTr HB
      by_cases s1 : subD T a t = true
      · have S1 := hide s1
        by_cases s2 : subD T b t = true
        · have S2 := hide s2
          by_cases s3 : subD T t best = true
          · have S3 := hide s3
            have HF3 : Hid ((L.take (k + 1)).foldl (stepB T a b) 0 = t) := hide (by rw [unhide HF2]; unfold stepB; rw [s1, s2, s3]; rfl)
            clear s1 s2 s3 HF HF2
            go_wp2_with fail
            refine (refSub_any ao cap T a t _ (unhide HTa) (unhide HZ) (unhide HM) ha ht).mono ?_
            rintro e wb ⟨rfl, hB⟩
            have HTb := hide ((unhide HTa).below hB)
            have HBb := hide ((unhide HBa).trans (hB.mono (unhide HBa).size))
            clear hB HTa HBa
            rw [unhide S1]
            go_wp2_with fail
            refine (refSub_any ao cap T b t _ (unhide HTb) (unhide HZ) (unhide HM) hb ht).mono ?_
            rintro e wc ⟨rfl, hB⟩
            have HTc := hide ((unhide HTb).below hB)
            have HBc := hide ((unhide HBb).trans (hB.mono (unhide HBb).size))
            clear hB HTb HBb
            rw [unhide S2]
            go_wp2_with fail
            refine (refSub_any ao cap T t best _ (unhide HTc) (unhide HZ) (unhide HM) ht hbest).mono ?_
            rintro e wd ⟨rfl, hB⟩
            have HTd := hide ((unhide HTc).below hB)
            have HBd := hide ((unhide HBc).trans (hB.mono (unhide HBc).size))
            clear hB HTc HBc
            rw [unhide S3]
            go_wp2
            go_roundw
            case rel => exact ⟨k + 1, t, by omega, by go_num, rfl, by omega, HF3, HBd⟩
            case measure => simp [intOf]; omega
          · have S3 : Hid (subD T t best = false) := hide (by simpa using s3)
            have HF3 : Hid ((L.take (k + 1)).foldl (stepB T a b) 0 = best) := hide (by rw [unhide HF2]; unfold stepB; rw [s1, s2, unhide S3]; rfl)
            clear s1 s2 s3 HF HF2
            go_wp2_with fail
            refine (refSub_any ao cap T a t _ (unhide HTa) (unhide HZ) (unhide HM) ha ht).mono ?_
            rintro e wb ⟨rfl, hB⟩
            have HTb := hide ((unhide HTa).below hB)
            have HBb := hide ((unhide HBa).trans (hB.mono (unhide HBa).size))
            clear hB HTa HBa
            rw [unhide S1]
            go_wp2_with fail
            refine (refSub_any ao cap T b t _ (unhide HTb) (unhide HZ) (unhide HM) hb ht).mono ?_
            rintro e wc ⟨rfl, hB⟩
            have HTc := hide ((unhide HTb).below hB)
            have HBc := hide ((unhide HBb).trans (hB.mono (unhide HBb).size))
            clear hB HTb HBb
            rw [unhide S2]
            go_wp2_with fail
            refine (refSub_any ao cap T t best _ (unhide HTc) (unhide HZ) (unhide HM) ht hbest).mono ?_
            rintro e wd ⟨rfl, hB⟩
            have HTd := hide ((unhide HTc).below hB)
            have HBd := hide ((unhide HBc).trans (hB.mono (unhide HBc).size))
            clear hB HTc HBc
            rw [unhide S3]
            go_wp2
            go_roundw
            case rel => exact ⟨k + 1, best, by omega, by go_num, rfl, by omega, HF3, HBd⟩
            case measure => simp [intOf]; omega
        · have S2 : Hid (subD T b t = false) := hide (by simpa using s2)
          have HF3 : Hid ((L.take (k + 1)).foldl (stepB T a b) 0 = best) := hide (by rw [unhide HF2]; unfold stepB; rw [s1, unhide S2]; rfl)
          clear s1 s2 HF HF2
          go_wp2_with fail
          refine (refSub_any ao cap T a t _ (unhide HTa) (unhide HZ) (unhide HM) ha ht).mono ?_
          rintro e wb ⟨rfl, hB⟩
          have HTb := hide ((unhide HTa).below hB)
          have HBb := hide ((unhide HBa).trans (hB.mono (unhide HBa).size))
          clear hB HTa HBa
          rw [unhide S1]
          go_wp2_with fail
          refine (refSub_any ao cap T b t _ (unhide HTb) (unhide HZ) (unhide HM) hb ht).mono ?_
          rintro e wc ⟨rfl, hB⟩
          have HTc := hide ((unhide HTb).below hB)
          have HBc := hide ((unhide HBb).trans (hB.mono (unhide HBb).size))
          clear hB HTb HBb
          rw [unhide S2]
          go_wp2
          go_roundw
          case rel => exact ⟨k + 1, best, by omega, by go_num, rfl, by omega, HF3, HBc⟩
          case measure => simp [intOf]; omega
      · have S1 : Hid (subD T a t = false) := hide (by simpa using s1)
        have HF3 : Hid ((L.take (k + 1)).foldl (stepB T a b) 0 = best) := hide (by rw [unhide HF2]; unfold stepB; rw [unhide S1]; rfl)
        clear s1 HF HF2
        go_wp2_with fail
        refine (refSub_any ao cap T a t _ (unhide HTa) (unhide HZ) (unhide HM) ha ht).mono ?_
        rintro e wb ⟨rfl, hB⟩
        have HTb := hide ((unhide HTa).below hB)
        have HBb := hide ((unhide HBa).trans (hB.mono (unhide HBa).size))
        clear hB HTa HBa
        rw [unhide S1]
        go_wp2
        go_roundw
        case rel => exact ⟨k + 1, best, by omega, by go_num, rfl, by omega, HF3, HBb⟩
        case measure => simp [intOf]; omega
    · have j1 : ¬ ((k : Nat) : Int) < ((L.length : Nat) : Int) := by omega
      have HR : Hid (mergeD T a b = best) := hide (by rw [← unhide HE, ← unhide HF, List.take_of_length_le (by omega)])
      go_wp2
      go_ret
      exact ⟨by rw [unhide HR]; rfl, (unhide HB1).trans ((unhide HB).mono (unhide HB1).size)⟩
end Go.Proofs.Ytihkodfcgfnjoaa
