/-
  The walk of the law AsmBack: it returns true for all bytes, and writes nothing that was there.
-/
import Derived.Test.YthdgbdjagjagpaaGreatDoorJRC
import Derived.Test.YthdgbdjagjagpaaGreatDoorJRB
import Derived.Test.YthdgbdjagjagpaaGreatDoorKOpenedAn
namespace Go.Proofs.YthdgbdjagjagpaaGreatDoor
open Go.RowKit
set_option maxRecDepth 20000
set_option linter.unusedVariables false
set_option linter.unusedSimpArgs false

set_option maxHeartbeats 4000000 in
theorem walkAsmBack {w : World} (hW : LdN w) (ao : Option Addr) (c : Nat) (l : List UInt8) (hl : BAt w ao l) (hn : ao = none → l = []) (hb : l.length ≤ 140737488351232) (hc : l.length ≤ c) :
    Calls Tryz.prog 4 #[.slice ao l.length c] w fun e w' => e = .returned (.bool true) ∧ Below w.heap.size w w' := by
  have HL := hide hl
  have HW := hide hW
  have HG := hide hW.g
  obtain ⟨r, HR⟩ : ∃ r, Hid (prR l = r) := ⟨_, hide rfl⟩
  have HC := hide (Clone_any ao c l w hl hn (by omega))
  clear hl hW
  go_enter Tryz.func4, Tryz.ntmps4
  go_wp2_with fail
  with_reducible refine (unhide HC).mono ?_
  rintro e' w1 ⟨v, rfl, hob, hb1, _⟩
  obtain ⟨ca, cc, rfl, hcc, hcb⟩ := hob.atc
  have HB1 := hide hb1
  have HL1 := hide ((unhide HL).below' hb1)
  have HW1 := hide ((unhide HW).below hb1)
  have HP1 := hide (asmPrint_any ca cc l w1 hcb (unhide HW1).a.w (unhide HW1).a.c (unhide HW1).a.p (by omega) hcc)
  rw [unhide HR] at HP1
  obtain ⟨t, p, e⟩ := r
  clear hob hcb hb1 HL HW HC hcc
  go_wp2_with fail
  with_reducible refine (unhide HP1).mono ?_
  rintro e' w2 ⟨rfl, hb2⟩
  have HB2 := hide ((unhide HB1).trans (hb2.mono (unhide HB1).size))
  have HL2 := hide ((unhide HL1).below' hb2)
  have HW2 := hide ((unhide HW1).below hb2)
  have HP2 := hide (refPrint_any ao c l w2 (unhide HL2) (unhide HW2).a.p (by omega) hc)
  rw [unhide HR] at HP2
  clear hb2 HB1 HL1 HW1 HP1
  go_wp2_with fail
  with_reducible refine (unhide HP2).mono ?_
  rintro e' w3 ⟨rfl, hb3⟩
  have HB3 := hide ((unhide HB2).trans (hb3.mono (unhide HB2).size))
  have HL3 := hide ((unhide HL2).below' hb3)
  have HW3 := hide ((unhide HW2).below hb3)
  clear hb3 HB2 HL2 HW2 HP2
  by_cases he : e = 0
  · subst he
    obtain ⟨S, HS⟩ : ∃ S : ByteArray, Hid ((⟨t.toArray⟩ : ByteArray) = S) := ⟨_, hide rfl⟩
    have e1 : tx t = .string S := by unfold tx; rw [unhide HS]
    rw [e1]
    clear e1
    by_cases hz : 65536 < S.size
    · have j1 : (S.size : Int) > 65536 := by omega
      clear hz
      go_wp2
      go_ret
      exact ⟨rfl, unhide HB3⟩
    · have j1 : ¬ (S.size : Int) > 65536 := by omega
      have hp : parS S = (l, 0, 0) := parS_prt (by rw [unhide HR]) (by rw [unhide HR]; exact unhide HS) (by omega)
      have HPA := hide (parse_as hp w3 (unhide HW3).a.w (unhide HW3).a.c (unhide HW3).r (unhide HW3).m (by have := (unhide HB3).size; have := unhide HG; omega) (by omega))
      clear hz hp
      go_wp2_with fail
      refine (unhide HPA).mono ?_
      rintro e' w4 ⟨bo, bc, rfl, hbc, hba, _, hb4⟩
      have HB4 := hide ((unhide HB3).trans (hb4.mono (unhide HB3).size))
      have HE := hide (Equal_any bo ao bc c l l w4 hba ((unhide HL3).below' hb4) (by unfold maxLen; omega) (by unfold maxLen; omega))
      clear hba hb4 HPA HB3 HL3 HW3
      go_wp2_with (go_at_call 9; refine (unhide HE).mono ?_; rintro e w7 ⟨rfl, k, rfl⟩)
      go_ret
      exact ⟨ret_bool (by simp), belowD (unhide HB4) _⟩
  · have t0 : (e != 0) = true := bne_t he
    have h0 : t = [] := by have := prR_none (L := l) (by rw [unhide HR]; exact he); rw [unhide HR] at this; exact this
    have t1 : (e == e) = true := beq_t rfl
    subst h0
    clear he
    go_wp2
    go_ret
    exact ⟨ret_bool (by simp), unhide HB3⟩
end Go.Proofs.YthdgbdjagjagpaaGreatDoor
