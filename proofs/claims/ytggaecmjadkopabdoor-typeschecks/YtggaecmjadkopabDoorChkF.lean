/-
  The contract of types.checkFields: what the plain function 'scanD' says of the fields above and of a class's own. The names that are taken lie in a map of the call's own. All that lay lies unturned.
-/
import Derived.Test.YtggaecmjadkopabDoorHas
import Derived.Maps.Own
import Derived.Maps.OwnOps
import Derived.Maps.OwnSet
import Derived.Maps.Views
import Derived.StringKeys
namespace Go.Proofs.YtggaecmjadkopabDoor
open Go.RowKit Go.Maps Go.WideMaps

theorem lawS : Keyed Tryd.prog 9 := string_keyed Tryd.underlying9
theorem zeroI (w : World) : (zeroValue 3).run Tryd.prog w = .ok (.int .i64 0) w := by kernel_rfl

/-- The map holds the names of these fields and no other. -/
def Taken (D : DataW Unit) (L : List Fl) : Prop := ∀ s : ByteArray, Maps.has D (.string s.data.toList) = hasD L s

theorem taken_nil : Taken (.map []) [] := fun _ => rfl

theorem same_text (x s : ByteArray) : (x.toList == s.toList) = decide (x.data.toList = s.data.toList) := by
  rw [ByteArray.toList_eq, ByteArray.toList_eq]
  by_cases h : x.data.toList = s.data.toList
  · rw [decide_eq_true h, h]; simp
  · rw [decide_eq_false h]; simpa using h

theorem Taken.put {D : DataW Unit} {L : List Fl} (h : Taken D L) (hD : IsMap D) (f : Fl) (d : DataW Unit) : Taken (D.put (.string f.nm.data.toList) d) (L ++ [f]) := fun s => by
  have e : hasD (L ++ [f]) s = (hasD L s || decide (f.nm.data.toList = s.data.toList)) := by
    unfold hasD; rw [List.any_append]; simp [same_text]
  rw [e]
  by_cases h1 : f.nm.data.toList = s.data.toList
  · rw [← h1, has_put_same hD (show WideAt.IsKeyLit (.string f.nm.data.toList) from trivial), decide_eq_true rfl, Bool.or_true]
  · rw [has_put_other (by intro h2; injection h2 with h2; exact h1 h2.symm), h s, decide_eq_false h1, Bool.or_false]

theorem hasD_app (A L : List Fl) (s : ByteArray) : hasD (A ++ L) s = (hasD A s || hasD L s) := by unfold hasD; rw [List.any_append]

set_option maxHeartbeats 4000000 in
theorem checkFields_any (ao : Option Addr) (n cap : Nat) (fa : Option Addr) (fc : Nat) (A : List Fl) (oa : Option Addr) (oc : Nat) (O : List Fl) (w : World)
    (hA : FsAt w fa A) (hO : FsAt w oa O) (hAl : A.length ≤ 1000000) (hOl : O.length * 24 ≤ 140737488351232) :
    Calls Tryd.prog 47 #[.slice ao n cap, .slice fa A.length fc, .slice oa O.length oc] w fun e w' => e = .returned (.int .i64 (scanD n A [] O)) ∧ Below w.heap.size w w' := by
  have hmm := @run_makeMap Tryd.prog
  have HA := hide hA
  have HO := hide hO
  have hOl2 : O.length ≤ 5864062014634 := by omega
  clear hA hO hOl
  go_enter Tryd.func47, Tryd.ntmps47
  go_wp2
  go_loopw [8, 9, 17] (fun _ _ i wr => ∃ (k : Nat) (D : DataW Unit), k ≤ A.length ∧ i = .int .i64 (k : Int) ∧ Hid (wr.ownsMap Tryd.prog 9 (plainElem Tryd.prog 3) w.heap.size k D) ∧ Hid (Taken D (A.take k)) ∧ Hid (Below w.heap.size w wr)) (fun _ _ i _ => A.length - (intOf i).toNat)
  case atStart => exact ⟨0, _, by omega, rfl, hide (World.ownsMap_made _ _ _ _), hide taken_nil, hide ((Below.refl _ _).alloc (Nat.le_refl _) _)⟩
  case round =>
    obtain ⟨k, D, hk, rfl, HM, HT, HB⟩ := hrel
    by_cases hlt : k < A.length
    · have i1 : ((k : Nat) : Int) < ((A.length : Nat) : Int) := by omega
      obtain ⟨b, off, rfl, hx⟩ := (unhide HA).below (unhide HB) k _ (List.getElem?_eq_getElem hlt)
      have d0 := hx.c0
      have d1 := hx.c1
      have HTK : Hid (A.take (k + 1) = A.take k ++ [A[k]]) := hide (List.take_append_getElem hlt).symm
      have HNM := hide hx.name
      clear hx
      generalize A[k] = f at d0 d1 HTK HNM
      have HKEY := hide (keyOf_string_mk (P := Tryd.prog) Tryd.underlying9 (s := f.nm) (by have := unhide HNM; unfold maxLen; omega))
      have HBa := hide ((unhide HB).alloc (unhide HB).size (.cells #[Value.string f.nm, Value.int IntKind.u8 (f.ty : Int)] 40))
      have HMa := hide ((unhide HM).alloc (.cells #[Value.string f.nm, Value.int IntKind.u8 (f.ty : Int)] 40))
      have hwf : (Lit.int .i64 (k : Int)).wf = true := WalkArith.wf_i64 (by omega)
      have HWF := hide hwf
      clear hwf
      go_wp2_with (at_mapUpdate; refine wpList_mapUpdate_own _ rfl _ _ _ 75 rfl 9 3 lawS Tryd.underlying75 _ w.heap.size k D rfl (unhide HMa) (by unfold maxLen; omega) _ _ _ rfl rfl (unhide HKEY) _ [] (plainElem_int Tryd.underlying3 (unhide HWF)) ?_; intro w1 hown1 hgrow1)
      have HM1 := hide hown1
      have HT1 := hide ((unhide HT).put (unhide HM).isMap f (.lit (.int .i64 (k : Int))))
      rw [← unhide HTK] at HT1
      have HB1 := hide ((unhide HBa).grown hgrow1 (unhide HBa).size (fun j hj => by cases hj; exact Nat.le_refl _))
      clear hown1 hgrow1
      go_roundw
      case rel => exact ⟨k + 1, _, by omega, by go_num, HM1, HT1, HB1⟩
      case measure => simp [intOf]; omega
    · have i1 : ¬ ((k : Nat) : Int) < ((A.length : Nat) : Int) := by omega
      obtain rfl : k = A.length := by omega
      rw [List.take_length] at HT
      have HT0 : Hid (Taken D (A ++ O.take 0)) := by simpa using HT
      have HS0 : Hid (scanD n A [] O = scanD n A (O.take 0) (O.drop 0)) := hide rfl
      clear HT HA
      go_wp2
      go_loopw [29] (fun i wq => ∃ (j : Nat) (D : DataW Unit), j ≤ O.length ∧ i = .int .i64 (j : Int) ∧ Hid (wq.ownsMap Tryd.prog 9 (plainElem Tryd.prog 3) w.heap.size (A.length + j) D) ∧ Hid (Taken D (A ++ O.take j)) ∧ Hid (scanD n A [] O = scanD n A (O.take j) (O.drop j)) ∧ Hid (Below w.heap.size w wq)) (fun i _ => O.length - (intOf i).toNat)
      case atStart => exact ⟨0, D, by omega, rfl, HM, HT0, HS0, HB⟩
      case round =>
        clear HT0 HS0 HM HB
        obtain ⟨k, D, hk, rfl, HM, HT, HS, HB⟩ := hrel
        by_cases hlt : k < O.length
        · have i1 : ((k : Nat) : Int) < ((O.length : Nat) : Int) := by omega
          obtain ⟨b, off, rfl, hx⟩ := (unhide HO).below (unhide HB) k _ (List.getElem?_eq_getElem hlt)
          have d0 := hx.c0
          have d1 := hx.c1
          have HTK : Hid (A ++ O.take (k + 1) = (A ++ O.take k) ++ [O[k]]) := hide (by rw [← List.take_append_getElem hlt, List.append_assoc])
          have HNM := hide hx.name
          have hty := hx.ty
          have HTY := hide hty
          have HST := hide ((unhide HS).trans (scanD_step n A O k hlt))
          clear hx hty HS
          generalize O[k] = f at d0 d1 HTK HNM HTY HST
          have HNS : Hid (f.nm.size ≤ maxLen) := hide (by have := unhide HNM; unfold maxLen; omega)
          have HKEY := hide (keyOf_string_mk (P := Tryd.prog) Tryd.underlying9 (s := f.nm) (unhide HNS))
          have HBa := hide ((unhide HB).alloc (unhide HB).size (.cells #[Value.string f.nm, Value.int IntKind.u8 (f.ty : Int)] 40))
          have HMa := hide ((unhide HM).alloc (.cells #[Value.string f.nm, Value.int IntKind.u8 (f.ty : Int)] 40))
          have HWF : Hid ((Lit.int .i64 ((A.length : Int) + (k : Int))).wf = true) := hide (WalkArith.wf_i64 (by omega))
          have HHAS := hide ((unhide HT f.nm).trans (hasD_app A (O.take k) f.nm))
          cases hnm : nameB f.nm
          · have HR : Hid (scanD n A [] O = 6) := hide (by rw [unhide HST, if_pos hnm])
            have HN := hide hnm
            clear hnm HST
            go_wp2_with fail
            refine (IsName_any f.nm _ (unhide HNS)).mono ?_
            rintro e w2 ⟨rfl, rfl⟩
            rw [unhide HN]
            go_wp2
            go_ret
            exact ⟨ret_int (unhide HR).symm, unhide HBa⟩
          · have HN := hide hnm
            cases hh : (hasD A f.nm || hasD (O.take k) f.nm)
            · have HH : Hid (Maps.has D (.string f.nm.data.toList) = false) := hide ((unhide HHAS).trans hh)
              cases hst : storedD n f.ty
              · have HR : Hid (scanD n A [] O = 22) := hide (by rw [unhide HST, if_neg (by rw [hnm]; simp), if_neg (by rw [hh]; simp), if_pos hst])
                have HSD := hide hst
                clear hnm HST hh hst
                go_wp2_with fail
                refine (IsName_any f.nm _ (unhide HNS)).mono ?_
                rintro e w2 ⟨rfl, rfl⟩
                rw [unhide HN]
                go_wp2_with (at_lookup; refine wpList_lookup_own_ok_int _ rfl _ _ 75 rfl 9 3 .i64 lawS Tryd.underlying75 Tryd.underlying3 (zeroI _) w.heap.size (A.length + k) D rfl (unhide HMa) _ _ rfl (unhide HKEY) ?_; intro c hat hwc; clear hat hwc; rw [unhide HH])
                refine (isStored_any ao n cap f.ty _ (unhide HTY)).mono ?_
                rintro e w3 ⟨rfl, rfl⟩
                rw [unhide HSD]
                go_wp2
                go_ret
                exact ⟨ret_int (unhide HR).symm, unhide HBa⟩
              · have HS2 : Hid (scanD n A [] O = scanD n A (O.take (k + 1)) (O.drop (k + 1))) := hide (by rw [unhide HST, if_neg (by rw [hnm]; simp), if_neg (by rw [hh]; simp), if_neg (by rw [hst]; simp)])
                have HSD := hide hst
                clear hnm HST hh hst
                go_wp2_with fail
                refine (IsName_any f.nm _ (unhide HNS)).mono ?_
                rintro e w2 ⟨rfl, rfl⟩
                rw [unhide HN]
                go_wp2_with (at_lookup; refine wpList_lookup_own_ok_int _ rfl _ _ 75 rfl 9 3 .i64 lawS Tryd.underlying75 Tryd.underlying3 (zeroI _) w.heap.size (A.length + k) D rfl (unhide HMa) _ _ rfl (unhide HKEY) ?_; intro c hat hwc; clear hat hwc; rw [unhide HH])
                refine (isStored_any ao n cap f.ty _ (unhide HTY)).mono ?_
                rintro e w3 ⟨rfl, rfl⟩
                rw [unhide HSD]
                go_wp2_with (at_mapUpdate; refine wpList_mapUpdate_own _ rfl _ _ _ 75 rfl 9 3 lawS Tryd.underlying75 _ w.heap.size (A.length + k) D rfl (unhide HMa) (by unfold maxLen; omega) _ _ _ rfl rfl (unhide HKEY) _ [] (plainElem_int Tryd.underlying3 (unhide HWF)) ?_; intro w1 hown1 hgrow1)
                have HM1 := hide hown1
                have HT1 := hide ((unhide HT).put (unhide HM).isMap f (.lit (.int .i64 ((A.length : Int) + (k : Int)))))
                rw [← unhide HTK] at HT1
                have HB1 := hide ((unhide HBa).grown hgrow1 (unhide HBa).size (fun j hj => by cases hj; exact Nat.le_refl _))
                clear hown1 hgrow1
                go_roundw
                case rel => exact ⟨k + 1, _, by omega, by go_num, HM1, HT1, HS2, HB1⟩
                case measure => simp [intOf]; omega
            · have HH : Hid (Maps.has D (.string f.nm.data.toList) = true) := hide ((unhide HHAS).trans hh)
              have HR : Hid (scanD n A [] O = 20) := hide (by rw [unhide HST, if_neg (by rw [hnm]; simp), if_pos hh])
              clear hnm HST hh
              go_wp2_with fail
              refine (IsName_any f.nm _ (unhide HNS)).mono ?_
              rintro e w2 ⟨rfl, rfl⟩
              rw [unhide HN]
              go_wp2_with (at_lookup; refine wpList_lookup_own_ok_int _ rfl _ _ 75 rfl 9 3 .i64 lawS Tryd.underlying75 Tryd.underlying3 (zeroI _) w.heap.size (A.length + k) D rfl (unhide HMa) _ _ rfl (unhide HKEY) ?_; intro c hat hwc; clear hat hwc; rw [unhide HH])
              go_ret
              exact ⟨ret_int (unhide HR).symm, unhide HBa⟩
        · have i1 : ¬ ((k : Nat) : Int) < ((O.length : Nat) : Int) := by omega
          obtain rfl : k = O.length := by omega
          rw [List.take_length, List.drop_length] at HS
          by_cases hl : 32 < A.length + O.length
          · have i2 : (32 : Int) < (A.length : Int) + (O.length : Int) := by omega
            have HR : Hid (scanD n A [] O = 4) := hide (by rw [unhide HS, scanD, if_pos (by omega)])
            go_wp2
            go_ret
            exact ⟨ret_int (unhide HR).symm, unhide HB⟩
          · have i2 : ¬ (32 : Int) < (A.length : Int) + (O.length : Int) := by omega
            have HR : Hid (scanD n A [] O = 0) := hide (by rw [unhide HS, scanD, if_neg (by omega)])
            go_wp2
            go_ret
            exact ⟨ret_int (unhide HR).symm, unhide HB⟩
end Go.Proofs.YtggaecmjadkopabDoor
