/-
  The walk of the law AsmAgain: it returns true for all texts, and writes nothing that was there.
-/
import Derived.Test.YthdgbdjagjagpaaGreatDoorKWalkAsmParses
namespace Go.Proofs.YthdgbdjagjagpaaGreatDoor
open Go.RowKit
set_option maxRecDepth 20000
set_option linter.unusedVariables false
set_option linter.unusedSimpArgs false

set_option maxHeartbeats 4000000 in
theorem walkAsmAgain {w : World} (hW : LdN w) (s : ByteArray) (_hs : s.size ≤ maxLen) (hz : s.size ≤ 140737488351232) :
    Calls Tryz.prog 5 #[.string s] w fun e w' => e = .returned (.bool true) ∧ Below w.heap.size w w' := by
  have hlen := parS_len s
  have hrp := fun h => read_prints (s := s) h
  have hbn := fun h => parS_bad_nil (s := s) h
  obtain ⟨r, HR⟩ : ∃ r, parS s = r := ⟨_, rfl⟩
  rw [HR] at hlen hrp hbn
  obtain ⟨L, i, er⟩ := r
  simp only [] at hlen hrp hbn
  have HP1 := hide (parse_as HR w hW.a.w hW.a.c hW.r hW.m hW.g (by omega))
  have HP2 := hide (fun W => refParse_as HR W (by omega))
  have HW := hide hW
  have t1 : ((i : Int) != (i : Int)) = false := bne_f rfl
  have t2 : (er != er) = false := bne_f rfl
  have t3 : (L == L) = true := by simp
  clear HR hW
  go_enter Tryz.func5, Tryz.ntmps5
  go_wp2_with fail
  refine (unhide HP1).mono ?_
  rintro e' w1 ⟨bo, bc, rfl, hbc, hba, hob, hb1⟩
  have HB1 := hide hb1
  have HA1 := hide hba
  have HN1 : Hid (bo = none → L = []) := hide (fun e => by subst e; exact nil_of_none hba)
  have HW1 := hide ((unhide HW).below hb1)
  clear hb1 hba HP1 HW hob
  go_wp2_with fail
  refine (unhide HP2 w1).mono ?_
  rintro e' w2 ⟨co, cc, rfl, hcc, hca, _, hb2⟩
  have HB2 := hide ((unhide HB1).trans (hb2.mono (unhide HB1).size))
  have HA2 := hide ((unhide HA1).below' hb2)
  have HW2 := hide ((unhide HW1).below hb2)
  have HE := hide (Equal_any bo co bc cc L L w2 (unhide HA2) hca (by unfold maxLen; omega) (by unfold maxLen; omega))
  clear hb2 hca HA1 HB1 HP2 HW1
  rw [t3] at HE
  clear t3
  by_cases he : er = 0
  · subst he
    obtain ⟨L', hL', _, hp1, _, _⟩ := hrp rfl
    have hL : L' = L := by injection hL' with h1 _; exact h1.symm
    subst hL
    have HPR := hide hp1
    clear hrp hbn hL' hp1
    obtain ⟨pr, HPE⟩ : ∃ pr, Hid (prR L' = pr) := ⟨_, hide rfl⟩
    have hprs : (prR L').2.2 = 0 := unhide HPR
    go_upto_region 5 with (go_at_call 9; refine (unhide HE).mono ?_; rintro e w7 ⟨rfl, kk, rfl⟩)
    have HB3 : Hid (Below w.heap.size w (w2.drewN kk)) := hide (belowD (unhide HB2) kk)
    have HA3 : Hid (BAt (w2.drewN kk) bo L') := hide ((unhide HA2).drewN kk)
    have HW3 : Hid (LdN (w2.drewN kk)) := hide ((unhide HW2).below (below_dL _ _))
    clear HB2 HA2 HW2 HE hprs
    generalize w2.drewN kk = w3 at HB3 HA3 HW3 ⊢
    have HC := hide (Clone_any bo bc L' w3 (unhide HA3) (unhide HN1) (by omega))
    go_wp2_with fail
    with_reducible refine (unhide HC).mono ?_
    rintro e' w4 ⟨v, rfl, hob, hb4, _⟩
    obtain ⟨ca, ccc, rfl, hccc, hcb⟩ := hob.atc
    have HB4 := hide ((unhide HB3).trans (hb4.mono (unhide HB3).size))
    have HA4 := hide ((unhide HA3).below' hb4)
    have HW4 := hide ((unhide HW3).below hb4)
    have HPP := hide (asmPrint_any ca ccc L' w4 hcb (unhide HW4).a.w (unhide HW4).a.c (unhide HW4).a.p (by omega) hccc)
    have hpe := unhide HPR
    rw [unhide HPE] at HPP hpe
    obtain ⟨t, p, e⟩ := pr
    simp only [] at hpe
    subst hpe
    have HPS : Hid (∀ S, (⟨t.toArray⟩ : ByteArray) = S → S.size ≤ 65536 → parS S = (L', 0, 0)) := hide (fun S h1 h2 => parS_prt (unhide HPR) (by rw [unhide HPE]; exact h1) h2)
    clear hob hcb hb4 HB3 HA3 HW3 HC
    go_wp2_with fail
    with_reducible refine (unhide HPP).mono ?_
    rintro e' w5 ⟨rfl, hb5⟩
    have HB5 := hide ((unhide HB4).trans (hb5.mono (unhide HB4).size))
    have HA5 := hide ((unhide HA4).below' hb5)
    have HW5 := hide ((unhide HW4).below hb5)
    clear hb5 HB4 HA4 HW4 HPP
    obtain ⟨S, HS⟩ : ∃ S : ByteArray, Hid ((⟨t.toArray⟩ : ByteArray) = S) := ⟨_, hide rfl⟩
    have e1 : tx t = .string S := by unfold tx; rw [unhide HS]
    rw [e1]
    clear e1
    by_cases hzz : 65536 < S.size
    · have j1 : (S.size : Int) > 65536 := by omega
      clear hzz
      go_wp2
      go_ret
      exact ⟨rfl, unhide HB5⟩
    · have j1 : ¬ (S.size : Int) > 65536 := by omega
      have hp : parS S = (L', 0, 0) := unhide HPS S (unhide HS) (by omega)
      have HPA := hide (parse_as hp w5 (unhide HW5).a.w (unhide HW5).a.c (unhide HW5).r (unhide HW5).m (unhide HW5).g (by omega))
      clear hzz hp
      go_wp2_with fail
      refine (unhide HPA).mono ?_
      rintro e' w6 ⟨po, pc, rfl, hpc, hpa, _, hb6⟩
      have HB6 := hide ((unhide HB5).trans (hb6.mono (unhide HB5).size))
      have HE := hide (Equal_any po bo pc bc L' L' w6 hpa ((unhide HA5).below' hb6) (by unfold maxLen; omega) (by unfold maxLen; omega))
      clear hpa hb6 HPA HB5 HA5 HW5 HPS HS
      go_wp2_with (go_at_call 9; refine (unhide HE).mono ?_; rintro e w7 ⟨rfl, k, rfl⟩)
      go_ret
      exact ⟨ret_bool (by simp), belowD (unhide HB6) _⟩
  · have t4 : (er != 0) = true := bne_t he
    obtain rfl : L = [] := hbn he
    clear hrp hbn he HA2 HW2
    go_wp2_with (go_at_call 9; refine (unhide HE).mono ?_; rintro e w7 ⟨rfl, k, rfl⟩)
    go_ret
    exact ⟨ret_bool (by simp), belowD (unhide HB2) _⟩
end Go.Proofs.YthdgbdjagjagpaaGreatDoor
