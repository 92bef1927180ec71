/-
  The walk of the law TalkFrames: Pack and Told answer as the document has it, and what is handed in stays.
-/
import Derived.Test.YtghdefhbncejjaaTk2
import Derived.Test.YtghdefhbncejjaaRoom
namespace Go.Proofs.Ytghdefhbncejjaa
open Go.RowKit

theorem BAt.takeT {w : World} {ao : Option Addr} {l m : List UInt8} (h : BAt w ao (l ++ m)) : BAt w ao l := fun i hi => by
  obtain ⟨b, off, e, hc⟩ := h i (by rw [List.length_append]; omega)
  refine ⟨b, off, e, ?_⟩
  rw [hc]
  unfold at8
  rw [List.getD_eq_getElem?_getD, List.getD_eq_getElem?_getD, List.getElem?_append_left hi]
theorem rqE_len {c n : Int} {m : List UInt8} (h : rqE c n m = 0) : ¬ (c < 0 ∨ 255 < c) ∧ ¬ (n < 0 ∨ 65535 < n) ∧ m.length ≤ 255 := by
  unfold rqE at h
  split at h
  · omega
  · split at h
    · omega
    · split at h
      · omega
      · exact ⟨by assumption, by assumption, by omega⟩
theorem rqL_len (c n : Int) (m : List UInt8) : (rqL c n m).length ≤ 1000 := by
  unfold rqL
  by_cases h : rqE c n m = 0
  · rw [if_pos h, frT_len, rqH_len]
    have := (rqE_len h).2.2
    omega
  · rw [if_neg h]; simp
theorem anE_len {s : Int} {m : List UInt8} (h : anE s m = 0) : ¬ (s < 0 ∨ 65535 < s) ∧ m.length ≤ 255 := by
  unfold anE at h
  split at h
  · omega
  · split at h
    · omega
    · exact ⟨by assumption, by omega⟩
theorem anL_len (s : Int) (m : List UInt8) : (anL s m).length ≤ 1000 := by
  unfold anL
  by_cases h : anE s m = 0
  · rw [if_pos h, frT_len, anH_len]
    have := (anE_len h).2
    omega
  · rw [if_neg h]; simp
/-- What Roomy gives, taken apart. -/
theorem roomy_parts {W : World} {B g cp : Nat} {l : List UInt8} (hO : OwnB W B (.slice (some ⟨g, 0, none⟩) (l.length + 4) cp) (roomy l)) : l.length + 4 ≤ cp ∧ BAt W (some ⟨g, 0, none⟩) (roomy l) ∧ BAt W (some ⟨g, 0, none⟩) l := by
  have hgb : BAt W (some ⟨g, 0, none⟩) (roomy l) := by
    obtain ⟨a', c', e', h'⟩ := hO.at
    injection e' with e' _ _
    rw [e']
    exact h'
  refine ⟨?_, hgb, BAt.takeT (m := [165, 90, 195, 60]) hgb⟩
  rcases hO.2 with ⟨h, _⟩ | ⟨g', cap', cur, hv, _, _, hn', _⟩
  · cases h
  · injection hv with _ _ hv
    rw [roomy_length] at hn'
    omega
set_option maxHeartbeats 8000000 in
theorem walkTalkFrames {w : World} (cm nu : Int) (ao : Option Addr) (c : Nat) (l : List UInt8) (hd : BAt w ao l) (hn : ao = none → l = [] ∧ c = 0) (hz : l.length ≤ 140737488351232)
    (st : Int) (bo : Option Addr) (d : Nat) (m : List UInt8) (gd : BAt w bo m) (gn : bo = none → m = [] ∧ d = 0) (gz : m.length ≤ 140737488351232) :
    Calls Try.prog 3 #[.agg #[.int .i64 cm, .int .i64 nu, .slice ao l.length c], .agg #[.int .i64 st, .slice bo m.length d]] w fun e w' => e = .returned (.bool true) ∧ Below w.heap.size w w' := by
  have al1 := (Below.refl w.heap.size w).alloc (Nat.le_refl _) (.cells #[.int .i64 cm, .int .i64 nu, .slice ao l.length c] 24)
  have HA : Hid (Below w.heap.size w ((w.alloc (.cells #[.int .i64 cm, .int .i64 nu, .slice ao l.length c] 24)).alloc (.cells #[.int .i64 st, .slice bo m.length d] 26))) := hide (al1.alloc (by simp) _)
  have HR : Hid (Bx ((w.alloc (.cells #[.int .i64 cm, .int .i64 nu, .slice ao l.length c] 24)).alloc (.cells #[.int .i64 st, .slice bo m.length d] 26)) w.heap.size 24 #[.int .i64 cm, .int .i64 nu, .slice ao l.length c]) := hide (by
    have h1 : Bx (w.alloc (.cells #[.int .i64 cm, .int .i64 nu, .slice ao l.length c] 24)) w.heap.size 24 #[.int .i64 cm, .int .i64 nu, .slice ao l.length c] := heap_alloc_new w _
    exact h1.below ((Below.refl _ _).alloc (Nat.le_refl _) _))
  have HS : Hid (Bx ((w.alloc (.cells #[.int .i64 cm, .int .i64 nu, .slice ao l.length c] 24)).alloc (.cells #[.int .i64 st, .slice bo m.length d] 26)) (w.heap.size + 1) 26 #[.int .i64 st, .slice bo m.length d]) := hide (by
    have h1 := heap_alloc_new (w.alloc (.cells #[.int .i64 cm, .int .i64 nu, .slice ao l.length c] 24)) (.cells #[.int .i64 st, .slice bo m.length d] 26)
    rw [World.size_alloc] at h1
    exact h1)
  have HD := hide (hd.below' (unhide HA))
  have HE := hide (gd.below' (unhide HA))
  have HN := hide hn
  have GN := hide gn
  clear hd gd hn gn al1
  go_enter Try.func3, Try.ntmps3
  go_upto_region 1 with fail
  generalize ((w.alloc (.cells #[.int .i64 cm, .int .i64 nu, .slice ao l.length c] 24)).alloc (.cells #[.int .i64 st, .slice bo m.length d] 26)) = W0 at HA HR HS HD HE ⊢
  have HRm := hide (Roomy_any ao c l W0 ((unhide HD).below' (Below.refl W0.heap.size W0)) (fun e => (unhide HN e).1) (by omega))
  have k0 := ((unhide HR).below (Below.refl W0.heap.size W0)).c 2 rfl
  go_wp2_with fail
  refine (unhide HRm).mono ?_
  rintro e W1 ⟨g1, cp1, rfl, hg, hO1, hb1⟩
  have HB1 := hide ((Below.refl W0.heap.size W0).trans (hb1.mono (Below.refl W0.heap.size W0).size))
  obtain ⟨hcp1, hgb, hgl⟩ := roomy_parts hO1
  have HG1 := hide hgb
  have HP := hide (Pack_any cm nu (some ⟨g1, 0, none⟩) cp1 l W1 hgl (fun e => by cases e) (by omega))
  clear hO1 hb1 HRm hgb hgl hg k0
  have k0 := ((unhide HR).below (unhide HB1)).c 0 rfl
  have k1 := ((unhide HR).below (unhide HB1)).c 1 rfl
  go_wp2_with fail
  refine (unhide HP).mono ?_
  rintro e W2 ⟨v2, rfl, hO2, hb2⟩
  have HB2 := hide ((unhide HB1).trans (hb2.mono (unhide HB1).size))
  have HO2 := hide hO2
  have HGa1 := hide ((unhide HG1).below' hb2)
  obtain ⟨L1, hL1⟩ : ∃ L, L = rqL cm nu l := ⟨_, rfl⟩
  obtain ⟨E1, hE1⟩ : ∃ E, E = rqE cm nu l := ⟨_, rfl⟩
  rw [← hL1] at HO2
  rw [← hE1]
  have HLe1 := hide hL1
  have HEe1 := hide hE1
  have hLl1 : L1.length ≤ 1000 := by rw [hL1]; exact rqL_len _ _ _
  obtain ⟨aa1, ac1, hv, hbb⟩ := (unhide HO2).at
  subst hv
  have HBB1 := hide hbb
  have HQ := hide (refPack_any cm nu ao c l W2 ((unhide HD).below' (unhide HB2)) (unhide HN) (by omega))
  rw [← hL1, ← hE1] at HQ
  clear hO2 hb2 HP k0 k1 hL1 hE1 hbb
  have k0 := ((unhide HR).below (unhide HB2)).c 0 rfl
  have k1 := ((unhide HR).below (unhide HB2)).c 1 rfl
  have k2 := ((unhide HR).below (unhide HB2)).c 2 rfl
  go_wp2_with fail
  refine (unhide HQ).mono ?_
  rintro e W3 ⟨v3, rfl, hO3, hb3⟩
  have HB3 := hide ((unhide HB2).trans (hb3.mono (unhide HB2).size))
  obtain ⟨ba1, bc1, hv, hbb⟩ := hO3.at
  subst hv
  have HEq := hide (Equal_any aa1 ba1 ac1 bc1 L1 L1 W3 ((unhide HBB1).below' hb3) hbb (by unfold maxLen; omega) (by unfold maxLen; omega))
  have HGb1 := hide ((unhide HGa1).below' hb3)
  have hbl : (L1 == L1) = true := by rw [beq_iff_eq]
  rw [hbl] at HEq
  clear hO3 hb3 HQ k0 k1 k2 hbb hbl
  go_wp2_with fail
  refine (unhide HEq).mono ?_
  rintro e W4 ⟨rfl, j, hw⟩
  have hdr : Below W3.heap.size W3 W4 := by rw [hw]; exact ⟨rfl, rfl, rfl, Nat.le_refl _, fun _ _ => rfl⟩
  have HB4 := hide ((unhide HB3).trans (hdr.mono (unhide HB3).size))
  have HUn := hide (Untouched_yes g1 cp1 ao c l W4 ((unhide HGb1).below' hdr) ((unhide HD).below' (unhide HB4)) hcp1 (by omega))
  have k0 := ((unhide HR).below (unhide HB4)).c 2 rfl
  clear hw hdr HEq
  go_wp2_with fail
  refine (unhide HUn).mono ?_
  rintro e W5 ⟨rfl, j, hw⟩
  have hdr : Below W4.heap.size W4 W5 := by rw [hw]; exact ⟨rfl, rfl, rfl, Nat.le_refl _, fun _ _ => rfl⟩
  have HB5 := hide ((unhide HB4).trans (hdr.mono (unhide HB4).size))
  clear hw hdr HUn k0
  have HRm := hide (Roomy_any bo d m W5 ((unhide HE).below' (unhide HB5)) (fun e => (unhide GN e).1) (by omega))
  have k0 := ((unhide HS).below (unhide HB5)).c 1 rfl
  go_wp2_with fail
  refine (unhide HRm).mono ?_
  rintro e W6 ⟨g6, cp6, rfl, hg, hO1, hb1⟩
  have HB6 := hide ((unhide HB5).trans (hb1.mono (unhide HB5).size))
  obtain ⟨hcp6, hgb, hgl⟩ := roomy_parts hO1
  have HG6 := hide hgb
  have HP := hide (Told_any st (some ⟨g6, 0, none⟩) cp6 m W6 hgl (fun e => by cases e) (by omega))
  clear hO1 hb1 HRm hgb hgl hg k0
  have k0 := ((unhide HS).below (unhide HB6)).c 0 rfl
  have k1 := ((unhide HS).below (unhide HB6)).c 1 rfl
  go_wp2_with fail
  refine (unhide HP).mono ?_
  rintro e W7 ⟨v7, rfl, hO2, hb2⟩
  have HB7 := hide ((unhide HB6).trans (hb2.mono (unhide HB6).size))
  have HO7 := hide hO2
  have HGa6 := hide ((unhide HG6).below' hb2)
  obtain ⟨L6, hL6⟩ : ∃ L, L = anL st m := ⟨_, rfl⟩
  obtain ⟨E6, hE6⟩ : ∃ E, E = anE st m := ⟨_, rfl⟩
  rw [← hL6] at HO7
  rw [← hE6]
  have HLe6 := hide hL6
  have HEe6 := hide hE6
  have hLl6 : L6.length ≤ 1000 := by rw [hL6]; exact anL_len _ _
  obtain ⟨aa6, ac6, hv, hbb⟩ := (unhide HO7).at
  subst hv
  have HBB6 := hide hbb
  have HQ := hide (refTold_any st bo d m W7 ((unhide HE).below' (unhide HB7)) (unhide GN) (by omega))
  rw [← hL6, ← hE6] at HQ
  clear hO2 hb2 HP k0 k1 hL6 hE6 hbb
  have k0 := ((unhide HS).below (unhide HB7)).c 0 rfl
  have k1 := ((unhide HS).below (unhide HB7)).c 1 rfl
  
  go_wp2_with fail
  refine (unhide HQ).mono ?_
  rintro e W8 ⟨v8, rfl, hO3, hb3⟩
  have HB8 := hide ((unhide HB7).trans (hb3.mono (unhide HB7).size))
  obtain ⟨ba6, bc6, hv, hbb⟩ := hO3.at
  subst hv
  have HEq := hide (Equal_any aa6 ba6 ac6 bc6 L6 L6 W8 ((unhide HBB6).below' hb3) hbb (by unfold maxLen; omega) (by unfold maxLen; omega))
  have HGb6 := hide ((unhide HGa6).below' hb3)
  have hbl : (L6 == L6) = true := by rw [beq_iff_eq]
  rw [hbl] at HEq
  clear hO3 hb3 HQ k0 k1  hbb hbl
  go_wp2_with fail
  refine (unhide HEq).mono ?_
  rintro e W9 ⟨rfl, j, hw⟩
  have hdr : Below W8.heap.size W8 W9 := by rw [hw]; exact ⟨rfl, rfl, rfl, Nat.le_refl _, fun _ _ => rfl⟩
  have HB9 := hide ((unhide HB8).trans (hdr.mono (unhide HB8).size))
  have HUn := hide (Untouched_yes g6 cp6 bo d m W9 ((unhide HGb6).below' hdr) ((unhide HE).below' (unhide HB9)) hcp6 (by omega))
  have k0 := ((unhide HS).below (unhide HB9)).c 1 rfl
  clear hw hdr HEq
  go_wp2_with fail
  refine (unhide HUn).mono ?_
  rintro e W10 ⟨rfl, j, hw⟩
  have hdr : Below W9.heap.size W9 W10 := by rw [hw]; exact ⟨rfl, rfl, rfl, Nat.le_refl _, fun _ _ => rfl⟩
  have HB10 := hide ((unhide HB9).trans (hdr.mono (unhide HB9).size))
  clear hw hdr HUn k0
  go_wp2
  go_ret
  exact ⟨rfl, (unhide HA).trans ((unhide HB10).mono (unhide HA).size)⟩
end Go.Proofs.Ytghdefhbncejjaa
