/-
  The walk of the law AsmPrints: it returns true for all bytes, and writes nothing that was there.
-/
import Derived.Test.YthdgbdjagjagpaaDoorJPR
import Derived.Test.YthdgbdjagjagpaaDoorRoom
namespace Go.Proofs.YthdgbdjagjagpaaDoor
open Go.RowKit
set_option maxRecDepth 20000
set_option linter.unusedVariables false

structure LdA (W : World) : Prop where
  w : WidAt W
  c : WordsC W
  p : PwT W
theorem LdA.below {w w' : World} (h : LdA w) (hb : Below w.heap.size w w') : LdA w' := ⟨h.w.below hb, h.c.below hb, h.p.below hb⟩
set_option maxHeartbeats 2000000 in
theorem walkAsmPrints {w : World} (hW : LdA w) (ao : Option Addr) (c : Nat) (l : List UInt8) (hl : BAt w ao l) (hn : ao = none → l = []) (hb : l.length ≤ 140737488351232) (hc : l.length ≤ c) :
    Calls Tryd.prog 3 #[.slice ao l.length c] w fun e w' => e = .returned (.bool true) ∧ Below w.heap.size w w' := by
  have HL := hide hl
  have HW := hide hW
  clear hl hW
  obtain ⟨r, HR⟩ : ∃ r, Hid (prR l = r) := ⟨_, hide rfl⟩
  go_enter Tryd.func3, Tryd.ntmps3
  go_wp2_with fail
  with_reducible refine (Roomy_any ao c l _ (unhide HL) hn hb).mono ?_
  rintro e w1 ⟨g, cap, rfl, hg, hO, hB⟩
  have HB := hide hB
  have HL1 := hide ((unhide HL).below' hB)
  have HW1 := hide ((unhide HW).below hB)
  obtain ⟨hcap, HRM⟩ : l.length + 4 ≤ cap ∧ Hid (BAt w1 (some ⟨g, 0, none⟩) (roomy l)) := by
    rcases hO.shape with ⟨h1, _⟩ | ⟨g', cap', h1, _, _, h4, _, h6⟩
    · injection h1 with h1
      cases h1
    · injection h1 with h1 h2 h3
      injection h1 with h1
      injection h1 with h1
      subst h1 h3
      rw [roomy_length] at h4
      exact ⟨h4, hide h6⟩
  clear hO hB HL HW
  have tk : ∀ {W : World}, BAt W (some ⟨g, 0, none⟩) (roomy l) → BAt W (some ⟨g, 0, none⟩) l := fun {W} h => by unfold roomy at h; exact h.take
  have HP1 := hide (asmPrint_any (some ⟨g, 0, none⟩) cap l w1 (tk (unhide HRM)) (unhide HW1).w (unhide HW1).c (unhide HW1).p (by omega) (by omega))
  rw [unhide HR] at HP1
  go_wp2_with fail
  with_reducible refine (unhide HP1).mono ?_
  rintro e' w2 ⟨rfl, hB2⟩
  have HB2 := hide ((unhide HB).trans (hB2.mono (unhide HB).size))
  have HL2 := hide ((unhide HL1).below' hB2)
  have HR2 := hide ((unhide HRM).below' hB2)
  have HW2 := hide ((unhide HW1).below hB2)
  have HP2 := hide (refPrint_any ao c l w2 (unhide HL2) (unhide HW2).p (by omega) hc)
  rw [unhide HR] at HP2
  clear hB2 HB HL1 HW1 HRM HP1
  go_wp2_with fail
  with_reducible refine (unhide HP2).mono ?_
  rintro e' w3 ⟨rfl, hB3⟩
  have HB3 := hide ((unhide HB2).trans (hB3.mono (unhide HB2).size))
  have HL3 := hide ((unhide HL2).below' hB3)
  have HR3 := hide ((unhide HR2).below' hB3)
  clear hB3 HB2 HL2 HR2 HW2 HP2
  have U := hide (fun W h1 h2 => Untouched_yes g cap ao c l W h1 h2 hcap (by omega))
  obtain ⟨s, at', e'⟩ := r
  go_wp2_with (go_at_call 8; with_reducible refine (unhide U _ (unhide HR3) (unhide HL3)).mono ?_; rintro e w7 ⟨rfl, k, rfl⟩)
  go_ret
  exact ⟨ret_bool (by simp), belowD (unhide HB3) _⟩
end Go.Proofs.YthdgbdjagjagpaaDoor
