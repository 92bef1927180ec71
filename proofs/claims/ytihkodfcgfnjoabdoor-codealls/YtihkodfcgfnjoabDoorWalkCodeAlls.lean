/-
  The walk of the law CodeAlls: it returns true for every row of instructions, and writes nothing that was there.
-/
import Derived.Test.YtihkodfcgfnjoabDoorAl2
namespace Go.Proofs.YtihkodfcgfnjoabDoor
open Go.RowKit

theorem alD_len : ∀ (l : List Ix) (i : Nat) (acc : List UInt8), acc.length ≤ 4096 → (alD l i acc).1.length ≤ 4096
  | [], _, acc, h => by rw [alD]; exact h
  | x :: t, i, acc, h => by
    rw [alD]
    by_cases h0 : eE x.op x.a x.b = 0
    · rw [if_pos h0]
      by_cases h1 : acc.length + (eL x.op x.a x.b).length ≤ 4096
      · rw [if_pos h1]
        exact alD_len t (i + 1) _ (by rw [List.length_append]; exact h1)
      · rw [if_neg h1]; simp
    · rw [if_neg h0]; simp

set_option maxHeartbeats 1000000 in
theorem walkCodeAlls {w : World} (hW : WidAt w) (ao : Option Addr) (c : Nat) (l : List Ix) (hl : XsAt w ao l) (hn : ao = none → l = []) (hz : l.length * 32 ≤ 140737488351232) :
    Calls Tryd.prog 6 #[.slice ao l.length c] w fun e w' => e = .returned (.bool true) ∧ Below w.heap.size w w' := by
  have hok := hl.ok
  have HOK := hide hok
  have HL := hide hl
  have HW := hide hW
  have hlen := alD_len l 0 [] (by simp)
  clear hl hW hok
  go_enter Tryd.func6, Tryd.ntmps6
  go_wp2_with fail
  with_reducible refine (CloneX_any ao c l _ (unhide HL) hn (by omega)).mono ?_
  rintro e w1 ⟨v, rfl, hO, hB⟩
  obtain ⟨bo, c1, rfl, hX⟩ := hO.at (unhide HOK)
  have HX := hide hX
  have HL1 := hide ((unhide HL).below hB)
  have HW1 := hide ((unhide HW).below hB)
  have HB1 := hide hB
  clear hO hX hB HL HW
  go_wp2_with fail
  with_reducible refine (All_any bo c1 l _ (unhide HX) (unhide HW1) (by omega)).mono ?_
  rintro e w2 ⟨v1, rfl, hO1, hB2⟩
  have HX2 := hide ((unhide HX).below hB2)
  have HL2 := hide ((unhide HL1).below hB2)
  have HB2 := hide ((unhide HB1).trans (hB2.mono (unhide HB1).size))
  have HO1 := hide hO1
  clear hO1 hB2 HX HL1 HB1 HW1
  go_wp2_with fail
  with_reducible refine (refAll_any ao c l _ (unhide HL2) (by omega)).mono ?_
  rintro e w3 ⟨v2, rfl, hO2, hB3⟩
  have HX3 := hide ((unhide HX2).below hB3)
  have HL3 := hide ((unhide HL2).below hB3)
  have HB3 := hide ((unhide HB2).trans (hB3.mono (unhide HB2).size))
  obtain ⟨a1, p1, rfl, hb1⟩ := ((unhide HO1).below hB3).at
  obtain ⟨a2, p2, rfl, hb2⟩ := hO2.at
  have HE := hide (Equal_any a1 a2 p1 p2 (alD l 0 []).1 (alD l 0 []).1 w3 hb1 hb2 (by unfold maxLen; omega) (by unfold maxLen; omega))
  have HF := hide (fun k => EqualX_same bo ao c1 c l (w3.drewN k) ((unhide HX3).below (belowD (Below.refl _ _) k)) ((unhide HL3).below (belowD (Below.refl _ _) k)) (by omega))
  clear hO2 hB3 hb1 hb2 HO1 HX2 HL2 HB2 hlen
  clear HX3 HL3
  generalize (alD l 0 []).1 = m at HE ⊢
  generalize (alD l 0 []).2.1 = n
  generalize (alD l 0 []).2.2 = er
  have hmm : (m == m) = true := by simp
  go_wp2_with (first | (go_at_call 19; with_reducible refine (unhide HE).mono ?_; rintro e w4 ⟨rfl, k, rfl⟩) | (go_at_call 27; with_reducible refine (unhide HF _).mono ?_; rintro e w5 ⟨rfl, k2, rfl⟩))
  go_ret
  exact ⟨ret_bool (by simp), by simpa using belowD (unhide HB3) _⟩
end Go.Proofs.YtihkodfcgfnjoabDoor
