/-
  The walk of the law FlowScans: it returns true for all bytes, and writes nothing that was there.
-/
import Derived.Test.YtlanmcmhgohooaaDoorSc4
import Derived.Test.YtlanmcmhgohooaaDoorRoom
namespace Go.Proofs.YtlanmcmhgohooaaDoor
open Go.RowKit
set_option maxRecDepth 20000

set_option maxHeartbeats 2000000 in
theorem walkFlowScans {w : World} (hW : WidAt w) (ao : Option Addr) (c : Nat) (l : List UInt8) (hl : BAt w ao l) (hn : ao = none → l = []) (hb : l.length ≤ 140737488351232) (hc : l.length ≤ c) :
    Calls Tryd.prog 3 #[.slice ao l.length c] w fun e w' => e = .returned (.bool true) ∧ Below w.heap.size w w' := by
  have HL := hide hl
  have HW := hide hW
  clear hl hW
  go_enter Tryd.func3, Tryd.ntmps3
  go_wp2_with fail
  with_reducible refine (Roomy_any ao c l _ (unhide HL) hn hb).mono ?_
  rintro e w1 ⟨g, cap, rfl, hg, hO, hB⟩
  have HB := hide hB
  have HL1 := hide ((unhide HL).below' hB)
  have HW1 := hide ((unhide HW).below hB)
  obtain ⟨hcap, HR⟩ : l.length + 4 ≤ cap ∧ Hid (BAt w1 (some ⟨g, 0, none⟩) (roomy l)) := by
    rcases hO.shape with ⟨h1, _⟩ | ⟨g', cap', h1, _, _, h4, _, h6⟩
    · injection h1 with h1
      cases h1
    · injection h1 with h1 h2 h3
      injection h1 with h1
      injection h1 with h1
      subst h1 h3
      rw [roomy_length] at h4
      exact ⟨h4, hide h6⟩
  clear hO hB HL HW
  have tk : ∀ {W : World}, BAt W (some ⟨g, 0, none⟩) (roomy l) → BAt W (some ⟨g, 0, none⟩) l := fun {W} h => by unfold roomy at h; exact h.take
  have HS1 := hide (fun W h1 h2 => Scan_any (some ⟨g, 0, none⟩) cap l W h1 h2 (by omega) (by omega))
  have HS2 := hide (fun W h1 => refScan_any ao c l W h1 (by omega) hc)
  have HC1 := hide (fun W h1 h2 => Check_any (some ⟨g, 0, none⟩) cap l W h1 h2 (by omega) (by omega))
  have HC2 := hide (fun W h1 => refCheck_any ao c l W h1 (by omega) hc)
  have hlen := scR_len l
  generalize scR l = R at HS1 HS2 hlen
  generalize ckR l = C at HC1 HC2
  obtain ⟨m, p, e⟩ := R
  obtain ⟨ca, ce⟩ := C
  simp only [] at HS1 HS2 HC1 HC2 hlen
  go_wp2_with fail
  with_reducible refine (unhide HS1 _ (tk (unhide HR)) (unhide HW1)).mono ?_
  rintro e' w2 ⟨v, rfl, hO, hK, hB2⟩
  obtain ⟨oa, oc, rfl, hX⟩ := hO.at (fun f hf => by have := (hK f hf).1; omega)
  have HX := hide hX
  have HB2 := hide ((unhide HB).trans (hB2.mono (unhide HB).size))
  have HL2 := hide ((unhide HL1).below' hB2)
  have HR2 := hide ((unhide HR).below' hB2)
  have HW2 := hide ((unhide HW1).below hB2)
  clear hB2 HB HL1 HW1 HR hO hK hX HS1
  go_wp2_with fail
  with_reducible refine (unhide HS2 _ (unhide HL2)).mono ?_
  rintro e' w3 ⟨v, rfl, hO, hK, hB3⟩
  obtain ⟨oa2, oc2, rfl, hX2⟩ := hO.at (fun f hf => by have := (hK f hf).1; omega)
  have HE := hide (EqualX_same oa oa2 oc oc2 m w3 ((unhide HX).below hB3) hX2 (by omega))
  have HB3 := hide ((unhide HB2).trans (hB3.mono (unhide HB2).size))
  have HL3 := hide ((unhide HL2).below' hB3)
  have HR3 := hide ((unhide HR2).below' hB3)
  have HW3 := hide ((unhide HW2).below hB3)
  clear hB3 HB2 HL2 HW2 HR2 hO hK hX2 HX HS2
  go_wp2_with fail
  with_reducible refine (unhide HE).mono ?_
  rintro e' w4 ⟨rfl, q, rfl⟩
  have HB4 : Hid (Below w.heap.size w (w3.drewN q)) := hide (belowD (unhide HB3) _)
  have HL4 : Hid (BAt (w3.drewN q) ao l) := hide (unhide HL3)
  have HR4 : Hid (BAt (w3.drewN q) (some ⟨g, 0, none⟩) (roomy l)) := hide (unhide HR3)
  have HW4 : Hid (WidAt (w3.drewN q)) := hide (unhide HW3)
  clear HB3 HL3 HR3 HW3 HE
  generalize w3.drewN q = w4 at HB4 HL4 HR4 HW4 ⊢
  have n1 : (((p : Nat) : Int) != ((p : Nat) : Int)) = false := bne_f rfl
  have n2 : (e != e) = false := bne_f rfl
  go_wp2_with fail
  with_reducible refine (unhide HC1 _ (tk (unhide HR4)) (unhide HW4)).mono ?_
  rintro e' w5 ⟨rfl, hB5⟩
  have HB5 := hide ((unhide HB4).trans (hB5.mono (unhide HB4).size))
  have HL5 := hide ((unhide HL4).below' hB5)
  have HR5 := hide ((unhide HR4).below' hB5)
  clear hB5 HB4 HL4 HW4 HR4 HC1
  go_wp2_with fail
  with_reducible refine (unhide HC2 _ (unhide HL5)).mono ?_
  rintro e' w6 ⟨rfl, hB6⟩
  have HB6 := hide ((unhide HB5).trans (hB6.mono (unhide HB5).size))
  have HL6 := hide ((unhide HL5).below' hB6)
  have HR6 := hide ((unhide HR5).below' hB6)
  clear hB6 HB5 HL5 HR5 HC2
  have U := hide (fun W h1 h2 => Untouched_yes g cap ao c l W h1 h2 hcap (by omega))
  go_wp2_with (go_at_call 14; with_reducible refine (unhide U _ (unhide HR6) (unhide HL6)).mono ?_; rintro e w7 ⟨rfl, k, rfl⟩)
  go_ret
  exact ⟨ret_bool (by simp), belowD (unhide HB6) _⟩
end Go.Proofs.YtlanmcmhgohooaaDoor
