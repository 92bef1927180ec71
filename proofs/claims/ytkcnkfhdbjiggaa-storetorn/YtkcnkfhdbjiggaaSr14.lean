/-
  Contracts of the document's with and without: the list with a name's bytes in their place, without a name. What is answered is new memory; nothing that lay is turned.
-/
import Derived.Test.YtkcnkfhdbjiggaaSr13
namespace Go.Proofs.Ytkcnkfhdbjiggaa
open Go.RowKit
set_option maxRecDepth 20000

theorem srcR_take {w : World} {B : Nat} {a : Option Addr} {cap : Nat} {L : List Rk} {p : Nat} (h : OwnR w B (.slice a L.length cap) L) (hp : p ≤ L.length) : SrcR w (.slice a p cap) (L.take p) := by
  obtain ⟨a', cap', e, hnil, hc1, hc2, hat⟩ := h.at
  injection e with e1 _ e2
  subst e1 e2
  have hl : (L.take p).length = p := by rw [List.length_take]; omega
  cases a with
  | none =>
    have := hnil rfl
    subst this
    have hp0 : p = 0 := by simpa using hp
    subst hp0
    refine Or.inl ⟨?_, by simp⟩
    rcases h.2 with ⟨h1, _⟩ | ⟨g, cap', cur, h1, _⟩
    · exact h1
    · cases h1
  | some ad =>
    obtain ⟨g, rfl, hc⟩ := hat ad rfl
    refine Or.inr ⟨_, cap, by rw [hl], fun j u hu => ?_⟩
    rw [Addr.add_lit, Nat.zero_add]
    have hj := (List.getElem?_eq_some_iff.1 hu).1
    rw [rkV_take, List.getElem?_take] at hu
    split at hu
    · exact hc j u hu
    · cases hu
theorem srcR_drop {w : World} {B g : Nat} {cap : Nat} {L : List Rk} {p : Nat} (h : OwnR w B (.slice (some ⟨g, 0, none⟩) L.length cap) L) (hc1 : L.length ≤ cap) (hp : p ≤ L.length) : ∃ A : Addr, (if cap = p then some (⟨g, 0, none⟩ : Addr) else some ⟨g, p * 2, none⟩) = some A ∧ SrcR w (.slice (some A) (L.length - p) (cap - p)) (L.drop p) := by
  obtain ⟨a', cap', e, hnil, _, hc2, hat⟩ := h.at
  injection e with e1 _ e2
  subst e1 e2
  have hl : (L.drop p).length = L.length - p := List.length_drop ..
  obtain ⟨g', e, hc⟩ := hat _ rfl
  injection e with e
  subst e
  by_cases hq : cap = p
  · refine ⟨⟨g, 0, none⟩, by rw [if_pos hq], Or.inr ⟨_, cap - p, by rw [hl], fun j u hu => ?_⟩⟩
    have hj := (List.getElem?_eq_some_iff.1 hu).1
    rw [rkV_len, hl] at hj
    omega
  · refine ⟨⟨g, p * 2, none⟩, by rw [if_neg hq], Or.inr ⟨_, cap - p, by rw [hl], fun j u hu => ?_⟩⟩
    rw [Addr.add_lit]
    rw [rkV_drop, List.getElem?_drop] at hu
    exact hc _ u hu
theorem own_moreR {w : World} {B B' : Nat} {v : Value} {L : List Rk} (h : OwnR w B v L) (hb : B' ≤ B) : OwnR w B' v L := by
  refine ⟨h.1, ?_⟩
  rcases h.2 with h1 | ⟨g, cap, cur, hv, hbg, r⟩
  · exact Or.inl h1
  · exact Or.inr ⟨g, cap, cur, hv, by omega, r⟩
set_option maxHeartbeats 4000000 in
theorem without_any {w : World} {B : Nat} {a : Option Addr} {cap : Nat} {L : List Rk} (s : ByteArray) (H : OwnR w B (.slice a L.length cap) L) (hlen : L.length ≤ 1024) :
    Calls Try.prog 55 #[.slice a L.length cap, .string s] w fun e w' => ∃ v', e = .returned v' ∧ OwnR w' w.heap.size v' (cutN (posN (rNm L) s) (hasN (rNm L) s) L) ∧ Below w.heap.size w w' := by
  obtain ⟨p, hp⟩ : ∃ p, p = posN (rNm L) s := ⟨_, rfl⟩
  obtain ⟨bb, hbb⟩ : ∃ bb, bb = hasN (rNm L) s := ⟨_, rfl⟩
  have HPl := hide (place_any s H (by omega))
  have hpl : p ≤ L.length := by rw [hp]; have := pos_le (rNm L) s; rwa [rNm_len] at this
  have hbl : bb = true → p < L.length := fun e => by rw [hbb] at e; have := has_lt e; rw [rNm_len, ← hp] at this; exact this
  rw [← hp, ← hbb] at HPl
  rw [← hp, ← hbb]
  clear hp hbb
  obtain ⟨a', cap', e, hnil, hc1, hc2, hat⟩ := H.at
  injection e with e1 _ e2
  subst e1 e2
  have hc3 : cap ≤ 9223372036854775807 := by unfold maxLen at hc2; omega
  have HH := hide H
  clear hat hc2
  cases a with
  | none =>
    obtain rfl := hnil rfl
    obtain ⟨rfl⟩ : p = 0 := by simpa using hpl
    obtain rfl : bb = false := by cases bb with | false => rfl | true => have := hbl rfl; simp at this
    obtain rfl : cap = 0 := by
      rcases H.2 with ⟨h1, _⟩ | ⟨g, cap', cur, h1, _⟩
      · injection h1
      · cases h1
    clear H hnil hbl hpl hlen hc1 hc3
    go_enter Try.func55, Try.ntmps55
    go_wp2_with fail
    refine (unhide HPl).mono ?_
    rintro e W ⟨rfl, hb⟩
    have HB := hide hb
    have HO := hide ((unhide HH).below hb)
    clear hb HPl HH
    have hal : Below W.heap.size W (W.alloc (.cells #[] 73)) := (Below.refl _ _).alloc (Nat.le_refl _) _
    have HO1 := hide ((unhide HO).below hal)
    have HM1 : Hid (OwnR (W.alloc (.cells #[] 73)) W.heap.size (.slice (some ⟨W.heap.size, 0, none⟩) 0 0) []) := hide (World.ownsRow_made W #[] 0 (Nat.le_refl _) (by decide) rfl)
    have HS1 : Hid (SrcR (W.alloc (.cells #[] 73)) (.slice none 0 0) (([] : List Rk))) := hide (Or.inl ⟨rfl, rfl⟩)
    have HBa := hide ((unhide HB).trans (hal.mono (unhide HB).size))
    clear hal
    go_wp2_with (at_builtin; refine wpList_appendR rfl (.tmp 14) (.tmp 17) rfl W.heap.size _ [] rfl (unhide HM1) _ (([] : List Rk)) rfl (unhide HS1) (by simp) (by simp) ?_)
    intro v1 w1 hO1 hG1
    have HB1 := hide ((unhide HBa).grown hG1 (by have := (unhide HB).size; simp; omega) (fun q e => by have := (World.ownsRow.lt (unhide HM1) q e).1; have := (unhide HB).size; omega))
    have HV1 : Hid (OwnR w1 W.heap.size v1 (([] : List Rk))) := hide (by simpa using hO1)
    have HL1 : Hid (OwnR w1 B (.slice none 0 0) []) := hide ((unhide HO1).keep (Kept.of_grown hG1) (fun q e e2 => by
      have h1 := (World.ownsRow.lt (unhide HO) q e).2
      have h2 := (World.ownsRow.lt (unhide HM1) q e2.symm).1
      omega))
    have hw1 : W.heap.size ≤ w1.heap.size := by have := hG1.size; simp at this; omega
    have HLW := HO
    clear hO1 hG1 HBa HM1 HS1 HO1 HO
    obtain ⟨a1, c1, hv1, _⟩ := (unhide HV1).at
    subst hv1
    have hS : SrcR w1 (.slice none 0 0) [] := Or.inl ⟨rfl, rfl⟩
    have HS3 := hide hS
    clear hS
    go_wp2_with (at_builtin; refine wpList_appendR rfl (.tmp 22) (.tmp 25) rfl W.heap.size _ (([] : List Rk)) rfl (unhide HV1) _ ([] : List Rk) rfl (unhide HS3) (by simp) (by omega) ?_)
    intro v9 w9 hO9 hG9
    have HB9 := hide ((unhide HB1).grown hG9 (by have := (unhide HB).size; omega) (fun q e => by have := (World.ownsRow.lt (unhide HV1) q e).1; have := (unhide HB).size; omega))
    have HV9 := hide (own_moreR hO9 (unhide HB).size)
    clear hO9 hG9
    go_wp2
    go_ret
    exact ⟨v9, rfl, by unfold cutN; simpa using unhide HV9, unhide HB9⟩
  | some ad =>
    obtain ⟨g, rfl⟩ : ∃ g, ad = ⟨g, 0, none⟩ := by
      rcases H.2 with ⟨h1, _⟩ | ⟨g, cap', cur, h1, _⟩
      · cases h1
      · injection h1 with h1 _ _
        injection h1 with h1
        exact ⟨g, h1⟩
    clear H hnil
    cases bb
    · go_enter Try.func55, Try.ntmps55
      go_wp2_with fail
      refine (unhide HPl).mono ?_
      rintro e W ⟨rfl, hb⟩
      have HB := hide hb
      have HO := hide ((unhide HH).below hb)
      clear hb HPl HH
      have hal : Below W.heap.size W (W.alloc (.cells #[] 73)) := (Below.refl _ _).alloc (Nat.le_refl _) _
      have HO1 := hide ((unhide HO).below hal)
      have HM1 : Hid (OwnR (W.alloc (.cells #[] 73)) W.heap.size (.slice (some ⟨W.heap.size, 0, none⟩) 0 0) []) := hide (World.ownsRow_made W #[] 0 (Nat.le_refl _) (by decide) rfl)
      have HS1 : Hid (SrcR (W.alloc (.cells #[] 73)) (.slice (some ⟨g, 0, none⟩) p cap) (L.take p)) := hide (srcR_take (unhide HO1) hpl)
      have HBa := hide ((unhide HB).trans (hal.mono (unhide HB).size))
      have hpi : ((p : Nat) : Int) ≤ ((L.length : Nat) : Int) := by omega
      have hpc : ((p : Nat) : Int) ≤ ((cap : Nat) : Int) := by omega
      have hpc2 : p ≤ cap := by omega
      have htl : (L.take p).length = p := by rw [List.length_take]; omega
      clear hal
      go_wp2_with (at_builtin; refine wpList_appendR rfl (.tmp 14) (.tmp 17) rfl W.heap.size _ [] rfl (unhide HM1) _ (L.take p) rfl (unhide HS1) (by rw [htl]; simp; omega) (by simp) ?_)
      intro v1 w1 hO1 hG1
      have HB1 := hide ((unhide HBa).grown hG1 (by have := (unhide HB).size; simp; omega) (fun q e => by have := (World.ownsRow.lt (unhide HM1) q e).1; have := (unhide HB).size; omega))
      have HV1 : Hid (OwnR w1 W.heap.size v1 (L.take p)) := hide (by simpa using hO1)
      have HL1 : Hid (OwnR w1 B (.slice (some ⟨g, 0, none⟩) L.length cap) L) := hide ((unhide HO1).keep (Kept.of_grown hG1) (fun q e e2 => by
        have h1 := (World.ownsRow.lt (unhide HO) q e).2
        have h2 := (World.ownsRow.lt (unhide HM1) q e2.symm).1
        omega))
      have hw1 : W.heap.size ≤ w1.heap.size := by have := hG1.size; simp at this; omega
      have HLW := HO
      clear hO1 hG1 HBa HM1 HS1 HO1 HO
      obtain ⟨a1, c1, hv1, _⟩ := (unhide HV1).at
      rw [htl] at hv1
      subst hv1
      have hq : ((p : Nat) : Int) ≤ ((L.length : Nat) : Int) := by omega
      have hqc : ((p : Nat) : Int) ≤ ((cap : Nat) : Int) := by omega
      obtain ⟨A, hA, hS⟩ := srcR_drop (unhide HL1) hc1 (show p ≤ L.length by omega)
      have HS3 := hide hS
      clear hS
      go_wp2_with (at_builtin; refine wpList_appendR rfl (.tmp 22) (.tmp 25) rfl W.heap.size _ (L.take p) rfl (unhide HV1) _ (L.drop (p)) rfl (unhide HS3) (by simp; omega) (by omega) ?_)
      intro v9 w9 hO9 hG9
      have HB9 := hide ((unhide HB1).grown hG9 (by have := (unhide HB).size; omega) (fun q e => by have := (World.ownsRow.lt (unhide HV1) q e).1; have := (unhide HB).size; omega))
      have HV9 := hide (own_moreR hO9 (unhide HB).size)
      clear hO9 hG9
      go_wp2
      go_ret
      exact ⟨v9, rfl, by unfold cutN; rw [if_neg (by simp)]; simpa using unhide HV9, unhide HB9⟩
    · have hlt := hbl rfl
      go_enter Try.func55, Try.ntmps55
      go_wp2_with fail
      refine (unhide HPl).mono ?_
      rintro e W ⟨rfl, hb⟩
      have HB := hide hb
      have HO := hide ((unhide HH).below hb)
      clear hb HPl HH
      have hal : Below W.heap.size W (W.alloc (.cells #[] 73)) := (Below.refl _ _).alloc (Nat.le_refl _) _
      have HO1 := hide ((unhide HO).below hal)
      have HM1 : Hid (OwnR (W.alloc (.cells #[] 73)) W.heap.size (.slice (some ⟨W.heap.size, 0, none⟩) 0 0) []) := hide (World.ownsRow_made W #[] 0 (Nat.le_refl _) (by decide) rfl)
      have HS1 : Hid (SrcR (W.alloc (.cells #[] 73)) (.slice (some ⟨g, 0, none⟩) p cap) (L.take p)) := hide (srcR_take (unhide HO1) hpl)
      have HBa := hide ((unhide HB).trans (hal.mono (unhide HB).size))
      have hpi : ((p : Nat) : Int) ≤ ((L.length : Nat) : Int) := by omega
      have hpc : ((p : Nat) : Int) ≤ ((cap : Nat) : Int) := by omega
      have hpc2 : p ≤ cap := by omega
      have htl : (L.take p).length = p := by rw [List.length_take]; omega
      clear hal
      go_wp2_with (at_builtin; refine wpList_appendR rfl (.tmp 14) (.tmp 17) rfl W.heap.size _ [] rfl (unhide HM1) _ (L.take p) rfl (unhide HS1) (by rw [htl]; simp; omega) (by simp) ?_)
      intro v1 w1 hO1 hG1
      have HB1 := hide ((unhide HBa).grown hG1 (by have := (unhide HB).size; simp; omega) (fun q e => by have := (World.ownsRow.lt (unhide HM1) q e).1; have := (unhide HB).size; omega))
      have HV1 : Hid (OwnR w1 W.heap.size v1 (L.take p)) := hide (by simpa using hO1)
      have HL1 : Hid (OwnR w1 B (.slice (some ⟨g, 0, none⟩) L.length cap) L) := hide ((unhide HO1).keep (Kept.of_grown hG1) (fun q e e2 => by
        have h1 := (World.ownsRow.lt (unhide HO) q e).2
        have h2 := (World.ownsRow.lt (unhide HM1) q e2.symm).1
        omega))
      have hw1 : W.heap.size ≤ w1.heap.size := by have := hG1.size; simp at this; omega
      have HLW := HO
      clear hO1 hG1 HBa HM1 HS1 HO1 HO
      obtain ⟨a1, c1, hv1, _⟩ := (unhide HV1).at
      rw [htl] at hv1
      subst hv1
      have hq : ((p + 1 : Nat) : Int) ≤ ((L.length : Nat) : Int) := by omega
      have hqc : ((p + 1 : Nat) : Int) ≤ ((cap : Nat) : Int) := by omega
      have hq2 : ((p : Int) + 1).toNat = p + 1 := by omega
      have hq3 : ((p : Nat) : Int) + 1 ≤ ((L.length : Nat) : Int) := by omega
      have hq4 : (0 : Int) ≤ ((p : Nat) : Int) + 1 := by omega
      obtain ⟨A, hA, hS⟩ := srcR_drop (unhide HL1) hc1 (show p + 1 ≤ L.length by omega)
      have HS3 := hide hS
      clear hS
      go_wp2_with (at_builtin; refine wpList_appendR rfl (.tmp 22) (.tmp 25) rfl W.heap.size _ (L.take p) rfl (unhide HV1) _ (L.drop (p + 1)) rfl (unhide HS3) (by simp; omega) (by omega) ?_)
      intro v9 w9 hO9 hG9
      have HB9 := hide ((unhide HB1).grown hG9 (by have := (unhide HB).size; omega) (fun q e => by have := (World.ownsRow.lt (unhide HV1) q e).1; have := (unhide HB).size; omega))
      have HV9 := hide (own_moreR hO9 (unhide HB).size)
      clear hO9 hG9
      go_wp2
      go_ret
      exact ⟨v9, rfl, by unfold cutN; rw [if_pos rfl]; simpa using unhide HV9, unhide HB9⟩
set_option maxHeartbeats 4000000 in
theorem with_any {w : World} {B : Nat} {a : Option Addr} {cap : Nat} {L : List Rk} (s : ByteArray) (ba : Option Addr) (bc : Nat) (bs : List UInt8) (H : OwnR w B (.slice a L.length cap) L) (hlen : L.length ≤ 1024) :
    Calls Try.prog 49 #[.slice a L.length cap, .string s, .slice ba bs.length bc] w fun e w' => ∃ v', e = .returned v' ∧ OwnR w' w.heap.size v' (putN (posN (rNm L) s) (hasN (rNm L) s) L ⟨s, ba, bc, bs⟩) ∧ Below w.heap.size w w' := by
  obtain ⟨p, hp⟩ : ∃ p, p = posN (rNm L) s := ⟨_, rfl⟩
  obtain ⟨bb, hbb⟩ : ∃ bb, bb = hasN (rNm L) s := ⟨_, rfl⟩
  have HPl := hide (place_any s H (by omega))
  have hpl : p ≤ L.length := by rw [hp]; have := pos_le (rNm L) s; rwa [rNm_len] at this
  have hbl : bb = true → p < L.length := fun e => by rw [hbb] at e; have := has_lt e; rw [rNm_len, ← hp] at this; exact this
  rw [← hp, ← hbb] at HPl
  rw [← hp, ← hbb]
  clear hp hbb
  obtain ⟨a', cap', e, hnil, hc1, hc2, hat⟩ := H.at
  injection e with e1 _ e2
  subst e1 e2
  have hc3 : cap ≤ 9223372036854775807 := by unfold maxLen at hc2; omega
  have HH := hide H
  clear hat hc2
  cases a with
  | none =>
    obtain rfl := hnil rfl
    obtain ⟨rfl⟩ : p = 0 := by simpa using hpl
    obtain rfl : bb = false := by cases bb with | false => rfl | true => have := hbl rfl; simp at this
    obtain rfl : cap = 0 := by
      rcases H.2 with ⟨h1, _⟩ | ⟨g, cap', cur, h1, _⟩
      · injection h1
      · cases h1
    clear H hnil hbl hpl hlen hc1 hc3
    go_enter Try.func49, Try.ntmps49
    go_wp2_with fail
    refine (unhide HPl).mono ?_
    rintro e W ⟨rfl, hb⟩
    have HB := hide hb
    have HO := hide ((unhide HH).below hb)
    clear hb HPl HH
    have hal : Below W.heap.size W (W.alloc (.cells #[] 73)) := (Below.refl _ _).alloc (Nat.le_refl _) _
    have HO1 := hide ((unhide HO).below hal)
    have HM1 : Hid (OwnR (W.alloc (.cells #[] 73)) W.heap.size (.slice (some ⟨W.heap.size, 0, none⟩) 0 0) []) := hide (World.ownsRow_made W #[] 0 (Nat.le_refl _) (by decide) rfl)
    have HS1 : Hid (SrcR (W.alloc (.cells #[] 73)) (.slice none 0 0) (([] : List Rk))) := hide (Or.inl ⟨rfl, rfl⟩)
    have HBa := hide ((unhide HB).trans (hal.mono (unhide HB).size))
    clear hal
    go_wp2_with (at_builtin; refine wpList_appendR rfl (.tmp 16) (.tmp 19) rfl W.heap.size _ [] rfl (unhide HM1) _ (([] : List Rk)) rfl (unhide HS1) (by simp) (by simp) ?_)
    intro v1 w1 hO1 hG1
    have HB1 := hide ((unhide HBa).grown hG1 (by have := (unhide HB).size; simp; omega) (fun q e => by have := (World.ownsRow.lt (unhide HM1) q e).1; have := (unhide HB).size; omega))
    have HV1 : Hid (OwnR w1 W.heap.size v1 (([] : List Rk))) := hide (by simpa using hO1)
    have HL1 : Hid (OwnR w1 B (.slice none 0 0) []) := hide ((unhide HO1).keep (Kept.of_grown hG1) (fun q e e2 => by
      have h1 := (World.ownsRow.lt (unhide HO) q e).2
      have h2 := (World.ownsRow.lt (unhide HM1) q e2.symm).1
      omega))
    have hw1 : W.heap.size ≤ w1.heap.size := by have := hG1.size; simp at this; omega
    have HLW := HO
    clear hO1 hG1 HBa HM1 HS1 HO1 HO
    have hal2 : Below w1.heap.size w1 (w1.alloc (.cells #[.string s, .slice ba bs.length bc] 73)) := (Below.refl _ _).alloc (Nat.le_refl _) _
    have HV2 := hide ((unhide HV1).below hal2)
    have HL2 := hide ((unhide HL1).below hal2)
    have HB2a := hide ((unhide HB1).trans (hal2.mono (unhide HB1).size))
    have HS2 : Hid (SrcR (w1.alloc (.cells #[.string s, .slice ba bs.length bc] 73)) (.slice (some ⟨w1.heap.size, 0, none⟩) 1 1) [⟨s, ba, bc, bs⟩]) := hide (Or.inr ⟨_, _, rfl, fun j u hu => by
      rw [Addr.add_lit, Nat.zero_add, cell_of_row _ _ _ _ _ _ (heap_alloc_new w1 _)]
      simpa [rkV, rkC] using hu⟩)
    obtain ⟨a1, c1, hv1, _⟩ := (unhide HV1).at
    subst hv1
    clear hal2
    go_wp2_with (at_builtin; refine wpList_appendR rfl (.tmp 21) (.tmp 25) rfl W.heap.size _ (([] : List Rk)) rfl (unhide HV2) _ [⟨s, ba, bc, bs⟩] rfl (unhide HS2) (by simp) (by simp; omega) ?_)
    intro v2 w2 hO2 hG2
    have HB2 := hide ((unhide HB2a).grown hG2 (by have := (unhide HB).size; simp; omega) (fun q e => by have := (World.ownsRow.lt (unhide HV1) q e).1; have := (unhide HB).size; omega))
    have HV3 : Hid (OwnR w2 W.heap.size v2 (([] : List Rk) ++ [⟨s, ba, bc, bs⟩])) := hide hO2
    have HL3 : Hid (OwnR w2 B (.slice none 0 0) []) := hide ((unhide HL2).keep (Kept.of_grown hG2) (fun q e e2 => by
      have h2 := (World.ownsRow.lt (unhide HV1) q e2.symm).1
      have h3 := (World.ownsRow.lt (unhide HLW) q e).2
      omega))
    have hw2 : W.heap.size ≤ w2.heap.size := by have := hG2.size; simp at this; omega
    have hvl : (([] : List Rk) ++ [⟨s, ba, bc, bs⟩] : List Rk).length = 1 := by rfl
    obtain ⟨a2, c2, hv2, _⟩ := (unhide HV3).at
    rw [hvl] at hv2
    subst hv2
    clear hO2 hG2 HB2a HV2 HS2 HL2 HB1 HV1 HL1
    have hS : SrcR w2 (.slice none 0 0) [] := Or.inl ⟨rfl, rfl⟩
    have HS3 := hide hS
    clear hS
    go_wp2_with (at_builtin; refine wpList_appendR rfl (.tmp 30) (.tmp 33) rfl W.heap.size (.slice a2 1 c2) (([] : List Rk) ++ [⟨s, ba, bc, bs⟩]) rfl (unhide HV3) (.slice none 0 0) ([] : List Rk) rfl (unhide HS3) ?z6 ?z4 ?_)
    case z6 => simp
    case z4 => omega
    intro v9 w9 hO9 hG9
    have HB9 := hide ((unhide HB2).grown hG9 (by have := (unhide HB).size; omega) (fun q e => by have := (World.ownsRow.lt (unhide HV3) q e).1; have := (unhide HB).size; omega))
    have HV9 := hide (own_moreR hO9 (unhide HB).size)
    clear hO9 hG9
    go_wp2
    go_ret
    exact ⟨v9, rfl, by unfold putN; simpa using unhide HV9, unhide HB9⟩
  | some ad =>
    obtain ⟨g, rfl⟩ : ∃ g, ad = ⟨g, 0, none⟩ := by
      rcases H.2 with ⟨h1, _⟩ | ⟨g, cap', cur, h1, _⟩
      · cases h1
      · injection h1 with h1 _ _
        injection h1 with h1
        exact ⟨g, h1⟩
    clear H hnil
    cases bb
    · go_enter Try.func49, Try.ntmps49
      go_wp2_with fail
      refine (unhide HPl).mono ?_
      rintro e W ⟨rfl, hb⟩
      have HB := hide hb
      have HO := hide ((unhide HH).below hb)
      clear hb HPl HH
      have hal : Below W.heap.size W (W.alloc (.cells #[] 73)) := (Below.refl _ _).alloc (Nat.le_refl _) _
      have HO1 := hide ((unhide HO).below hal)
      have HM1 : Hid (OwnR (W.alloc (.cells #[] 73)) W.heap.size (.slice (some ⟨W.heap.size, 0, none⟩) 0 0) []) := hide (World.ownsRow_made W #[] 0 (Nat.le_refl _) (by decide) rfl)
      have HS1 : Hid (SrcR (W.alloc (.cells #[] 73)) (.slice (some ⟨g, 0, none⟩) p cap) (L.take p)) := hide (srcR_take (unhide HO1) hpl)
      have HBa := hide ((unhide HB).trans (hal.mono (unhide HB).size))
      have hpi : ((p : Nat) : Int) ≤ ((L.length : Nat) : Int) := by omega
      have hpc : ((p : Nat) : Int) ≤ ((cap : Nat) : Int) := by omega
      have hpc2 : p ≤ cap := by omega
      have htl : (L.take p).length = p := by rw [List.length_take]; omega
      clear hal
      go_wp2_with (at_builtin; refine wpList_appendR rfl (.tmp 16) (.tmp 19) rfl W.heap.size _ [] rfl (unhide HM1) _ (L.take p) rfl (unhide HS1) (by rw [htl]; simp; omega) (by simp) ?_)
      intro v1 w1 hO1 hG1
      have HB1 := hide ((unhide HBa).grown hG1 (by have := (unhide HB).size; simp; omega) (fun q e => by have := (World.ownsRow.lt (unhide HM1) q e).1; have := (unhide HB).size; omega))
      have HV1 : Hid (OwnR w1 W.heap.size v1 (L.take p)) := hide (by simpa using hO1)
      have HL1 : Hid (OwnR w1 B (.slice (some ⟨g, 0, none⟩) L.length cap) L) := hide ((unhide HO1).keep (Kept.of_grown hG1) (fun q e e2 => by
        have h1 := (World.ownsRow.lt (unhide HO) q e).2
        have h2 := (World.ownsRow.lt (unhide HM1) q e2.symm).1
        omega))
      have hw1 : W.heap.size ≤ w1.heap.size := by have := hG1.size; simp at this; omega
      have HLW := HO
      clear hO1 hG1 HBa HM1 HS1 HO1 HO
      have hal2 : Below w1.heap.size w1 (w1.alloc (.cells #[.string s, .slice ba bs.length bc] 73)) := (Below.refl _ _).alloc (Nat.le_refl _) _
      have HV2 := hide ((unhide HV1).below hal2)
      have HL2 := hide ((unhide HL1).below hal2)
      have HB2a := hide ((unhide HB1).trans (hal2.mono (unhide HB1).size))
      have HS2 : Hid (SrcR (w1.alloc (.cells #[.string s, .slice ba bs.length bc] 73)) (.slice (some ⟨w1.heap.size, 0, none⟩) 1 1) [⟨s, ba, bc, bs⟩]) := hide (Or.inr ⟨_, _, rfl, fun j u hu => by
        rw [Addr.add_lit, Nat.zero_add, cell_of_row _ _ _ _ _ _ (heap_alloc_new w1 _)]
        simpa [rkV, rkC] using hu⟩)
      obtain ⟨a1, c1, hv1, _⟩ := (unhide HV1).at
      rw [htl] at hv1
      subst hv1
      clear hal2
      go_wp2_with (at_builtin; refine wpList_appendR rfl (.tmp 21) (.tmp 25) rfl W.heap.size _ (L.take p) rfl (unhide HV2) _ [⟨s, ba, bc, bs⟩] rfl (unhide HS2) (by rw [htl]; simp; omega) (by simp; omega) ?_)
      intro v2 w2 hO2 hG2
      have HB2 := hide ((unhide HB2a).grown hG2 (by have := (unhide HB).size; simp; omega) (fun q e => by have := (World.ownsRow.lt (unhide HV1) q e).1; have := (unhide HB).size; omega))
      have HV3 : Hid (OwnR w2 W.heap.size v2 (L.take p ++ [⟨s, ba, bc, bs⟩])) := hide hO2
      have HL3 : Hid (OwnR w2 B (.slice (some ⟨g, 0, none⟩) L.length cap) L) := hide ((unhide HL2).keep (Kept.of_grown hG2) (fun q e e2 => by
        have h2 := (World.ownsRow.lt (unhide HV1) q e2.symm).1
        have h3 := (World.ownsRow.lt (unhide HLW) q e).2
        omega))
      have hw2 : W.heap.size ≤ w2.heap.size := by have := hG2.size; simp at this; omega
      have hvl : (L.take p ++ [⟨s, ba, bc, bs⟩] : List Rk).length = p + 1 := by rw [List.length_append, htl]; rfl
      obtain ⟨a2, c2, hv2, _⟩ := (unhide HV3).at
      rw [hvl] at hv2
      subst hv2
      clear hO2 hG2 HB2a HV2 HS2 HL2 HB1 HV1 HL1
      have hq : ((p : Nat) : Int) ≤ ((L.length : Nat) : Int) := by omega
      have hqc : ((p : Nat) : Int) ≤ ((cap : Nat) : Int) := by omega
      obtain ⟨A, hA, hS⟩ := srcR_drop (unhide HL3) hc1 (show p ≤ L.length by omega)
      have HS3 := hide hS
      clear hS
      go_wp2_with (at_builtin; refine wpList_appendR rfl (.tmp 30) (.tmp 33) rfl W.heap.size (.slice a2 (p + 1) c2) (L.take p ++ [⟨s, ba, bc, bs⟩]) rfl (unhide HV3) (.slice (some A) (L.length - (p)) (cap - (p))) (L.drop (p)) rfl (unhide HS3) ?z6 ?z4 ?_)
      case z6 => simp; omega
      case z4 => omega
      intro v9 w9 hO9 hG9
      have HB9 := hide ((unhide HB2).grown hG9 (by have := (unhide HB).size; omega) (fun q e => by have := (World.ownsRow.lt (unhide HV3) q e).1; have := (unhide HB).size; omega))
      have HV9 := hide (own_moreR hO9 (unhide HB).size)
      clear hO9 hG9
      go_wp2
      go_ret
      exact ⟨v9, rfl, by unfold putN; rw [if_neg (by simp)]; simpa using unhide HV9, unhide HB9⟩
    · have hlt := hbl rfl
      go_enter Try.func49, Try.ntmps49
      go_wp2_with fail
      refine (unhide HPl).mono ?_
      rintro e W ⟨rfl, hb⟩
      have HB := hide hb
      have HO := hide ((unhide HH).below hb)
      clear hb HPl HH
      have hal : Below W.heap.size W (W.alloc (.cells #[] 73)) := (Below.refl _ _).alloc (Nat.le_refl _) _
      have HO1 := hide ((unhide HO).below hal)
      have HM1 : Hid (OwnR (W.alloc (.cells #[] 73)) W.heap.size (.slice (some ⟨W.heap.size, 0, none⟩) 0 0) []) := hide (World.ownsRow_made W #[] 0 (Nat.le_refl _) (by decide) rfl)
      have HS1 : Hid (SrcR (W.alloc (.cells #[] 73)) (.slice (some ⟨g, 0, none⟩) p cap) (L.take p)) := hide (srcR_take (unhide HO1) hpl)
      have HBa := hide ((unhide HB).trans (hal.mono (unhide HB).size))
      have hpi : ((p : Nat) : Int) ≤ ((L.length : Nat) : Int) := by omega
      have hpc : ((p : Nat) : Int) ≤ ((cap : Nat) : Int) := by omega
      have hpc2 : p ≤ cap := by omega
      have htl : (L.take p).length = p := by rw [List.length_take]; omega
      clear hal
      go_wp2_with (at_builtin; refine wpList_appendR rfl (.tmp 16) (.tmp 19) rfl W.heap.size _ [] rfl (unhide HM1) _ (L.take p) rfl (unhide HS1) (by rw [htl]; simp; omega) (by simp) ?_)
      intro v1 w1 hO1 hG1
      have HB1 := hide ((unhide HBa).grown hG1 (by have := (unhide HB).size; simp; omega) (fun q e => by have := (World.ownsRow.lt (unhide HM1) q e).1; have := (unhide HB).size; omega))
      have HV1 : Hid (OwnR w1 W.heap.size v1 (L.take p)) := hide (by simpa using hO1)
      have HL1 : Hid (OwnR w1 B (.slice (some ⟨g, 0, none⟩) L.length cap) L) := hide ((unhide HO1).keep (Kept.of_grown hG1) (fun q e e2 => by
        have h1 := (World.ownsRow.lt (unhide HO) q e).2
        have h2 := (World.ownsRow.lt (unhide HM1) q e2.symm).1
        omega))
      have hw1 : W.heap.size ≤ w1.heap.size := by have := hG1.size; simp at this; omega
      have HLW := HO
      clear hO1 hG1 HBa HM1 HS1 HO1 HO
      have hal2 : Below w1.heap.size w1 (w1.alloc (.cells #[.string s, .slice ba bs.length bc] 73)) := (Below.refl _ _).alloc (Nat.le_refl _) _
      have HV2 := hide ((unhide HV1).below hal2)
      have HL2 := hide ((unhide HL1).below hal2)
      have HB2a := hide ((unhide HB1).trans (hal2.mono (unhide HB1).size))
      have HS2 : Hid (SrcR (w1.alloc (.cells #[.string s, .slice ba bs.length bc] 73)) (.slice (some ⟨w1.heap.size, 0, none⟩) 1 1) [⟨s, ba, bc, bs⟩]) := hide (Or.inr ⟨_, _, rfl, fun j u hu => by
        rw [Addr.add_lit, Nat.zero_add, cell_of_row _ _ _ _ _ _ (heap_alloc_new w1 _)]
        simpa [rkV, rkC] using hu⟩)
      obtain ⟨a1, c1, hv1, _⟩ := (unhide HV1).at
      rw [htl] at hv1
      subst hv1
      clear hal2
      go_wp2_with (at_builtin; refine wpList_appendR rfl (.tmp 21) (.tmp 25) rfl W.heap.size _ (L.take p) rfl (unhide HV2) _ [⟨s, ba, bc, bs⟩] rfl (unhide HS2) (by rw [htl]; simp; omega) (by simp; omega) ?_)
      intro v2 w2 hO2 hG2
      have HB2 := hide ((unhide HB2a).grown hG2 (by have := (unhide HB).size; simp; omega) (fun q e => by have := (World.ownsRow.lt (unhide HV1) q e).1; have := (unhide HB).size; omega))
      have HV3 : Hid (OwnR w2 W.heap.size v2 (L.take p ++ [⟨s, ba, bc, bs⟩])) := hide hO2
      have HL3 : Hid (OwnR w2 B (.slice (some ⟨g, 0, none⟩) L.length cap) L) := hide ((unhide HL2).keep (Kept.of_grown hG2) (fun q e e2 => by
        have h2 := (World.ownsRow.lt (unhide HV1) q e2.symm).1
        have h3 := (World.ownsRow.lt (unhide HLW) q e).2
        omega))
      have hw2 : W.heap.size ≤ w2.heap.size := by have := hG2.size; simp at this; omega
      have hvl : (L.take p ++ [⟨s, ba, bc, bs⟩] : List Rk).length = p + 1 := by rw [List.length_append, htl]; rfl
      obtain ⟨a2, c2, hv2, _⟩ := (unhide HV3).at
      rw [hvl] at hv2
      subst hv2
      clear hO2 hG2 HB2a HV2 HS2 HL2 HB1 HV1 HL1
      have hq : ((p + 1 : Nat) : Int) ≤ ((L.length : Nat) : Int) := by omega
      have hqc : ((p + 1 : Nat) : Int) ≤ ((cap : Nat) : Int) := by omega
      have hq2 : ((p : Int) + 1).toNat = p + 1 := by omega
      have hq3 : ((p : Nat) : Int) + 1 ≤ ((L.length : Nat) : Int) := by omega
      have hq4 : (0 : Int) ≤ ((p : Nat) : Int) + 1 := by omega
      obtain ⟨A, hA, hS⟩ := srcR_drop (unhide HL3) hc1 (show p + 1 ≤ L.length by omega)
      have HS3 := hide hS
      clear hS
      go_wp2_with (at_builtin; refine wpList_appendR rfl (.tmp 30) (.tmp 33) rfl W.heap.size (.slice a2 (p + 1) c2) (L.take p ++ [⟨s, ba, bc, bs⟩]) rfl (unhide HV3) (.slice (some A) (L.length - (p + 1)) (cap - (p + 1))) (L.drop (p + 1)) rfl (unhide HS3) ?z6 ?z4 ?_)
      case z6 => simp; omega
      case z4 => omega
      intro v9 w9 hO9 hG9
      have HB9 := hide ((unhide HB2).grown hG9 (by have := (unhide HB).size; omega) (fun q e => by have := (World.ownsRow.lt (unhide HV3) q e).1; have := (unhide HB).size; omega))
      have HV9 := hide (own_moreR hO9 (unhide HB).size)
      clear hO9 hG9
      go_wp2
      go_ret
      exact ⟨v9, rfl, by unfold putN; rw [if_pos rfl]; simpa using unhide HV9, unhide HB9⟩
end Go.Proofs.Ytkcnkfhdbjiggaa
