/-
  The contract of types.Check: the first class at fault, or none. All that lay lies unturned.
-/
import Derived.Test.YtnkhkppddlpcmaaDoorKChkC
namespace Go.Proofs.YtnkhkppddlpcmaaDoor
open Go.RowKit
set_option maxRecDepth 20000

set_option maxHeartbeats 2000000 in
theorem Check_any (ao : Option Addr) (cap : Nat) (T : List Cl) (w : World) (h : TabAt w ao T) (hcap : T.length ≤ cap) (hW : WordsAt w) (hT : T.length * 48 ≤ 140737488351232) :
    Calls Tryd.prog 36 #[.slice ao T.length cap] w fun e w' => (∃ (n : Nat) (er : Int), e = .returned (.tuple #[.int .i64 (n : Int), .int .i64 er]) ∧ ((n = 0 ∧ er = 0 ∧ madeD T = true) ∨ IsFirst T n er)) ∧ Below w.heap.size w w' := by
  have H := hide h
  have HW := hide hW
  have HT := hide hT
  have hT2 : T.length < 9223372036854775800 := by omega
  clear h hT hW
  go_enter Tryd.func36, Tryd.ntmps36
  go_wp2
  go_loopw [8] (fun i wr => ∃ k : Nat, k ≤ T.length ∧ i = .int .i64 (k : Int) ∧ Hid (∀ j, j < k → faultD T j = 0) ∧ Hid (Below w.heap.size w wr)) (fun i _ => T.length - (intOf i).toNat)
  case atStart => exact ⟨0, by omega, rfl, hide (fun j h => by omega), hide (Below.refl _ _)⟩
  case round =>
    obtain ⟨k, hk, rfl, HK, HB⟩ := hrel
    by_cases hlt : k < T.length
    · have i1 : ((k : Nat) : Int) < ((T.length : Nat) : Int) := by omega
      go_wp2_with fail
      refine (checkClass_any ao cap T k _ _ ((unhide H).below (unhide HB)) hcap ((unhide HW).below (unhide HB)) (unhide HT) (List.getElem?_eq_getElem hlt) (unhide HK)).mono ?_
      rintro e w2 ⟨rfl, hB2⟩
      have HB2 := hide ((unhide HB).trans (hB2.mono (unhide HB).size))
      obtain ⟨er, HE⟩ : ∃ er, Hid (faultD T k = er) := ⟨_, hide rfl⟩
      rw [unhide HE]
      clear hB2 HB
      by_cases h0 : er = 0
      · have h0' := bne_f h0
        have HK2 : Hid (∀ j, j < k + 1 → faultD T j = 0) := hide (fun j hj => by
          by_cases e : j = k
          · rw [e, unhide HE]; exact h0
          · exact unhide HK j (by omega))
        clear h0 HK HE
        go_wp2
        go_roundw
        case rel => exact ⟨k + 1, by omega, by go_num, HK2, HB2⟩
        case measure => simp [intOf]; omega
      · have h0' := bne_t h0
        have HF : Hid (IsFirst T k er) := hide ⟨unhide HK, hlt, h0, unhide HE⟩
        clear h0 HK HE
        go_wp2
        go_ret2
        exact ⟨⟨k, er, rfl, .inr (unhide HF)⟩, unhide HB2⟩
    · have i1 : ¬ ((k : Nat) : Int) < ((T.length : Nat) : Int) := by omega
      have HM : Hid (madeD T = true) := hide (madeD_yes (fun j hj => unhide HK j (by omega)))
      go_wp2
      go_ret2
      exact ⟨⟨0, 0, rfl, .inl ⟨rfl, rfl, unhide HM⟩⟩, unhide HB⟩
end Go.Proofs.YtnkhkppddlpcmaaDoor
