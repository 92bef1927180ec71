/-
  The walk of the law AsmParses: it returns true for all texts, and writes nothing that was there.
-/
import Derived.Test.YthdgbdjagjagpaaGreatDoorJRE
import Derived.Test.YthdgbdjagjagpaaGreatDoorJRC
import Derived.Test.YthdgbdjagjagpaaGreatDoorJRD
import Derived.Test.YthdgbdjagjagpaaGreatDoorKOpenedAn
namespace Go.Proofs.YthdgbdjagjagpaaGreatDoor
open Go.RowKit
set_option maxRecDepth 20000
set_option linter.unusedVariables false
set_option linter.unusedSimpArgs false

theorem refParse_as {s : ByteArray} {L : List UInt8} {i : Nat} {er : Int} (h : parS s = (L, i, er)) (w : World) (hs : s.size ≤ 140737488355328) :
    Calls Tryz.prog 8 #[.string s] w fun e w' => ∃ bo bc, e = .returned (.tuple #[.slice bo L.length bc, .int .i64 (i : Int), .int .i64 er]) ∧ L.length ≤ bc ∧ BAt w' bo L ∧ OwnB w' w.heap.size (.slice bo L.length bc) L ∧ Below w.heap.size w w' := by
  refine (refParse_any s w hs).mono ?_
  rintro e w' ⟨v, rfl, hob, hb⟩
  rw [h] at hob ⊢
  obtain ⟨bo, bc, rfl, h1, h2⟩ := hob.atc
  exact ⟨bo, bc, rfl, h1, h2, hob, hb⟩
theorem parS_len (s : ByteArray) : (parS s).1.length ≤ 4096 := by
  by_cases h : (parS s).2.2 = 0
  · obtain ⟨L, h1, h2, _⟩ := read_prints h
    rw [h1]; exact h2
  · rw [parS_bad_nil h]; simp
set_option maxHeartbeats 4000000 in
theorem walkAsmParses {w : World} (hW : LdN w) (s : ByteArray) (_hs : s.size ≤ maxLen) (hz : s.size ≤ 140737488351232) :
    Calls Tryz.prog 3 #[.string s] w fun e w' => e = .returned (.bool true) ∧ Below w.heap.size w w' := by
  have hlen := parS_len s
  obtain ⟨r, HR⟩ : ∃ r, parS s = r := ⟨_, rfl⟩
  rw [HR] at hlen
  obtain ⟨L, i, er⟩ := r
  simp only [] at hlen
  have HP1 := hide (parse_as HR w hW.a.w hW.a.c hW.r hW.m hW.g (by omega))
  have HP2 := hide (fun W => refParse_as HR W (by omega))
  clear HR hW
  go_enter Tryz.func3, Tryz.ntmps3
  go_wp2_with fail
  refine (unhide HP1).mono ?_
  rintro e' w1 ⟨bo, bc, rfl, hbc, hba, _, hb1⟩
  have HB1 := hide hb1
  have HA1 := hide hba
  clear hb1 hba HP1
  go_wp2_with fail
  refine (unhide HP2 w1).mono ?_
  rintro e' w2 ⟨co, cc, rfl, hcc, hca, _, hb2⟩
  have HB2 := hide ((unhide HB1).trans (hb2.mono (unhide HB1).size))
  have HE := hide (Equal_any bo co bc cc L L w2 ((unhide HA1).below' hb2) hca (by unfold maxLen; omega) (by unfold maxLen; omega))
  have t1 : ((i : Int) == (i : Int)) = true := beq_t rfl
  have t2 : (er == er) = true := beq_t rfl
  have t3 : (L == L) = true := by simp
  clear hb2 hca HA1 HB1 HP2
  go_wp2_with (go_at_call 9; refine (unhide HE).mono ?_; rintro e w7 ⟨rfl, k, rfl⟩)
  go_ret
  exact ⟨ret_bool (by simp), belowD (unhide HB2) _⟩
end Go.Proofs.YthdgbdjagjagpaaGreatDoor
