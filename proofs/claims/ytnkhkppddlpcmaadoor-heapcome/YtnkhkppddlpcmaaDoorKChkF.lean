/-
  The contract of types.checkFields: what the plain function 'scanD' says of the fields above and of a class's own. The own names lie in a map of the call's own. All that lay lies unturned.
-/
import Derived.Test.YtnkhkppddlpcmaaDoorKChkS
import Derived.Maps.Own
import Derived.Maps.OwnOps
import Derived.Maps.OwnSet
import Derived.Maps.Views
import Derived.StringKeys
namespace Go.Proofs.YtnkhkppddlpcmaaDoor
open Go.RowKit Go.Maps Go.WideMaps
set_option maxRecDepth 20000

theorem lawS : Keyed Tryd.prog 9 := string_keyed Tryd.underlying9
theorem zeroI (w : World) : (zeroValue 3).run Tryd.prog w = .ok (.int .i64 0) w := by kernel_rfl

/-- The map holds the names of these fields and no other. -/
def Taken (D : DataW Unit) (L : List Fl) : Prop := ∀ s : ByteArray, Maps.has D (.string s.data.toList) = hasD L s

theorem taken_nil : Taken (.map []) [] := fun _ => rfl

theorem same_text (x s : ByteArray) : (x.toList == s.toList) = decide (x.data.toList = s.data.toList) := by
  rw [ByteArray.toList_eq, ByteArray.toList_eq]
  by_cases h : x.data.toList = s.data.toList
  · rw [decide_eq_true h, h]; simp
  · rw [decide_eq_false h]; simpa using h

theorem Taken.put {D : DataW Unit} {L : List Fl} (h : Taken D L) (hD : IsMap D) (f : Fl) (d : DataW Unit) : Taken (D.put (.string f.nm.data.toList) d) (L ++ [f]) := fun s => by
  have e : hasD (L ++ [f]) s = (hasD L s || decide (f.nm.data.toList = s.data.toList)) := by
    unfold hasD; rw [List.any_append]; simp [same_text]
  rw [e]
  by_cases h1 : f.nm.data.toList = s.data.toList
  · rw [← h1, has_put_same hD (show WideAt.IsKeyLit (.string f.nm.data.toList) from trivial), decide_eq_true rfl, Bool.or_true]
  · rw [has_put_other (by intro h2; injection h2 with h2; exact h1 h2.symm), h s, decide_eq_false h1, Bool.or_false]

theorem grown_ofB {w w' : World} (h : Below w.heap.size w w') : w.grownBy w' none := ⟨h.os, h.tape, h.output, h.size, fun k hk _ => h.block k hk⟩
theorem run_makeMapN (n : Int) (w : World) : (Instr.makeMap 122 (some (.int .i64 n))).run Tryd.prog w = .ok (.map (some w.heap.size)) (w.alloc (.map #[] 0)) := by
  simp [Instr.makeMap, run_underlying Tryd.underlying122, asInt, asIntOf, Sem.run_bind]

set_option maxHeartbeats 8000000 in
theorem checkFields_any (ao : Option Addr) (cap : Nat) (T : List Cl) (pa : Int) (oa : Option Addr) (oc : Nat) (O : List Fl) (w : World)
    (hT : TabAt w ao T) (hO : FsAt w oa O) (hAl : (fieldsB T pa).length ≤ 1000000) (hOl : O.length * 24 ≤ 140737488351232) :
    Calls Tryd.prog 77 #[.slice ao T.length cap, .int .i64 pa, .slice oa O.length oc] w fun e w' => e = .returned (.int .i64 (scanD T.length (fieldsB T pa) [] O)) ∧ Below w.heap.size w w' := by
  have hmm := run_makeMapN
  have HTb := hide hT
  have HO := hide hO
  have HSZ := hide hAl
  have HLH := hide (fun (s : ByteArray) (W : World) (h : Below w.heap.size w W) => lineHas_any ao cap T pa s W (hT.below h))
  have HLS := hide (fun (W : World) (h : Below w.heap.size w W) => lineSize_any ao cap T pa W (hT.below h) hAl)
  obtain ⟨A, HA⟩ : ∃ A, Hid (fieldsB T pa = A) := ⟨_, hide rfl⟩
  have HFS : Hid (∀ s, lineHasD T pa s = hasD A s) := hide (fun s => by rw [← unhide HA, lineHas_fields])
  rw [unhide HA] at hAl HLS ⊢
  have hOl2 : O.length ≤ 5864062014634 := by omega
  have HS0 : Hid (scanD T.length A [] O = scanD T.length A (O.take 0) (O.drop 0)) := hide rfl
  clear hO hT hOl HSZ
  go_enter Tryd.func77, Tryd.ntmps77
  go_wp2
  all_goals (
    go_loopw [18] (fun i wq => ∃ (j : Nat) (D : DataW Unit), j ≤ O.length ∧ i = .int .i64 (j : Int) ∧ Hid (wq.ownsMap Tryd.prog 9 (plainElem Tryd.prog 3) w.heap.size j D) ∧ Hid (Taken D (O.take j)) ∧ Hid (scanD T.length A [] O = scanD T.length A (O.take j) (O.drop j)) ∧ Hid (Below w.heap.size w wq)) (fun i _ => O.length - (intOf i).toNat)
    case atStart => exact ⟨0, _, by omega, rfl, hide (World.ownsMap_made _ _ _ _), hide taken_nil, HS0, hide ((Below.refl _ _).alloc (Nat.le_refl _) _)⟩
    case round =>
      clear HS0
      obtain ⟨k, D, hk, rfl, HM, HT, HS, HB⟩ := hrel
      by_cases hlt : k < O.length
      · have i1 : ((k : Nat) : Int) < ((O.length : Nat) : Int) := by omega
        obtain ⟨b, off, rfl, hx⟩ := (unhide HO).below (unhide HB) k _ (List.getElem?_eq_getElem hlt)
        have d0 := hx.c0
        have d1 := hx.c1
        have HTK : Hid (O.take (k + 1) = O.take k ++ [O[k]]) := hide (List.take_append_getElem hlt).symm
        have HNM := hide hx.name
        have hty := hx.ty
        have HTY := hide hty
        have HST := hide ((unhide HS).trans (scanD_step T.length A O k hlt))
        clear hx hty HS
        generalize O[k] = f at d0 d1 HTK HNM HTY HST
        have HNS : Hid (f.nm.size ≤ maxLen) := hide (by have := unhide HNM; unfold maxLen; omega)
        have HKEY := hide (keyOf_string_mk (P := Tryd.prog) Tryd.underlying9 (s := f.nm) (unhide HNS))
        have HBa := hide ((unhide HB).alloc (unhide HB).size (.cells #[Value.string f.nm, Value.int IntKind.u8 (f.ty : Int)] 41))
        have HMa := hide ((unhide HM).alloc (.cells #[Value.string f.nm, Value.int IntKind.u8 (f.ty : Int)] 41))
        have hrow := heap_alloc_new wr (.cells #[Value.string f.nm, Value.int IntKind.u8 (f.ty : Int)] 41)
        have HQ0 : Hid ((wr.alloc (.cells #[Value.string f.nm, Value.int IntKind.u8 (f.ty : Int)] 41)).cell? ⟨wr.heap.size, 0, none⟩ = some (.string f.nm)) := hide (by rw [cell_of_row _ _ _ _ _ _ hrow]; rfl)
        have HQ1 : Hid ((wr.alloc (.cells #[Value.string f.nm, Value.int IntKind.u8 (f.ty : Int)] 41)).cell? ⟨wr.heap.size, 1, none⟩ = some (.int .u8 (f.ty : Int))) := hide (by rw [cell_of_row _ _ _ _ _ _ hrow]; rfl)
        clear hrow
        have HWF : Hid ((Lit.int .i64 (k : Int)).wf = true) := hide (WalkArith.wf_i64 (by omega))
        cases hnm : nameB f.nm
        · have HR : Hid (scanD T.length A [] O = 6) := hide (by rw [unhide HST, if_pos hnm])
          have HN := hide hnm
          clear hnm HST
          go_wp2_with fail
          refine (IsName_any f.nm _ (unhide HNS)).mono ?_
          rintro e w2 ⟨rfl, rfl⟩
          rw [unhide HN]
          go_wp2
          go_ret
          exact ⟨ret_int (unhide HR).symm, unhide HBa⟩
        · have HN := hide hnm
          cases hh : hasD (O.take k) f.nm
          · have HH : Hid (Maps.has D (.string f.nm.data.toList) = false) := hide ((unhide HT f.nm).trans hh)
            cases hh2 : hasD A f.nm
            · have HH2 : Hid (lineHasD T pa f.nm = false) := hide ((unhide HFS f.nm).trans hh2)
              cases hst : storedD T.length f.ty
              · have HR : Hid (scanD T.length A [] O = 22) := hide (by rw [unhide HST, if_neg (by rw [hnm]; simp), if_neg (by rw [hh, hh2]; simp), if_pos hst])
                have HSD := hide hst
                clear hnm HST hh hh2 hst
                go_wp2_with fail
                refine (IsName_any f.nm _ (unhide HNS)).mono ?_
                rintro e w2 ⟨rfl, rfl⟩
                rw [unhide HN]
                go_wp2_with (at_lookup; refine wpList_lookup_own_ok_int _ rfl _ _ 122 rfl 9 3 .i64 lawS Tryd.underlying122 Tryd.underlying3 (zeroI _) w.heap.size k D rfl (unhide HMa) _ _ rfl (unhide HKEY) ?_; intro c hat hwc; clear hat hwc; rw [unhide HH])
                refine (unhide HLH f.nm _ (unhide HBa)).mono ?_
                rintro e w3 ⟨rfl, hB3⟩
                rw [unhide HH2]
                have q0 := (hB3.cell (p := ⟨wr.heap.size, 0, none⟩) (by simp)).trans (unhide HQ0)
                have q1 := (hB3.cell (p := ⟨wr.heap.size, 1, none⟩) (by simp)).trans (unhide HQ1)
                have HB3 := hide ((unhide HBa).trans (hB3.mono (unhide HBa).size))
                clear hB3
                go_wp2_with fail
                refine (isStored_any ao T.length cap f.ty _ (unhide HTY)).mono ?_
                rintro e w4 ⟨rfl, rfl⟩
                rw [unhide HSD]
                go_wp2
                go_ret
                exact ⟨ret_int (unhide HR).symm, unhide HB3⟩
              · have HS2 : Hid (scanD T.length A [] O = scanD T.length A (O.take (k + 1)) (O.drop (k + 1))) := hide (by rw [unhide HST, if_neg (by rw [hnm]; simp), if_neg (by rw [hh, hh2]; simp), if_neg (by rw [hst]; simp)])
                have HSD := hide hst
                clear hnm HST hh hh2 hst
                go_wp2_with fail
                refine (IsName_any f.nm _ (unhide HNS)).mono ?_
                rintro e w2 ⟨rfl, rfl⟩
                rw [unhide HN]
                go_wp2_with (at_lookup; refine wpList_lookup_own_ok_int _ rfl _ _ 122 rfl 9 3 .i64 lawS Tryd.underlying122 Tryd.underlying3 (zeroI _) w.heap.size k D rfl (unhide HMa) _ _ rfl (unhide HKEY) ?_; intro c hat hwc; clear hat hwc; rw [unhide HH])
                refine (unhide HLH f.nm _ (unhide HBa)).mono ?_
                rintro e w3 ⟨rfl, hB3⟩
                rw [unhide HH2]
                have q0 := (hB3.cell (p := ⟨wr.heap.size, 0, none⟩) (by simp)).trans (unhide HQ0)
                have q1 := (hB3.cell (p := ⟨wr.heap.size, 1, none⟩) (by simp)).trans (unhide HQ1)
                have HB3 := hide ((unhide HBa).trans (hB3.mono (unhide HBa).size))
                have HM3 := hide (World.ownsMap.kept (unhide HMa) (grown_ofB hB3) (by simp))
                clear hB3
                go_wp2_with fail
                refine (isStored_any ao T.length cap f.ty _ (unhide HTY)).mono ?_
                rintro e w4 ⟨rfl, rfl⟩
                rw [unhide HSD]
                go_wp2_with (at_mapUpdate; refine wpList_mapUpdate_own _ rfl _ _ _ 122 rfl 9 3 lawS Tryd.underlying122 _ w.heap.size k D rfl (unhide HM3) (by unfold maxLen; omega) _ _ _ rfl rfl (unhide HKEY) _ [] (plainElem_int Tryd.underlying3 (unhide HWF)) ?_; intro w1 hown1 hgrow1)
                have HM1 := hide hown1
                have HT1 := hide ((unhide HT).put (unhide HM).isMap f (.lit (.int .i64 (k : Int))))
                rw [← unhide HTK] at HT1
                have HB1 := hide ((unhide HB3).grown hgrow1 (unhide HB3).size (fun j hj => by cases hj; exact Nat.le_refl _))
                clear hown1 hgrow1
                go_roundw
                case rel => exact ⟨k + 1, _, by omega, by go_num, HM1, HT1, HS2, HB1⟩
                case measure => simp [intOf]; omega
            · have HH2 : Hid (lineHasD T pa f.nm = true) := hide ((unhide HFS f.nm).trans hh2)
              have HR : Hid (scanD T.length A [] O = 20) := hide (by rw [unhide HST, if_neg (by rw [hnm]; simp), if_pos (by rw [hh2]; simp)])
              clear hnm HST hh hh2
              go_wp2_with fail
              refine (IsName_any f.nm _ (unhide HNS)).mono ?_
              rintro e w2 ⟨rfl, rfl⟩
              rw [unhide HN]
              go_wp2_with (at_lookup; refine wpList_lookup_own_ok_int _ rfl _ _ 122 rfl 9 3 .i64 lawS Tryd.underlying122 Tryd.underlying3 (zeroI _) w.heap.size k D rfl (unhide HMa) _ _ rfl (unhide HKEY) ?_; intro c hat hwc; clear hat hwc; rw [unhide HH])
              refine (unhide HLH f.nm _ (unhide HBa)).mono ?_
              rintro e w3 ⟨rfl, hB3⟩
              rw [unhide HH2]
              have HB3 := hide ((unhide HBa).trans (hB3.mono (unhide HBa).size))
              clear hB3
              go_wp2
              go_ret
              exact ⟨ret_int (unhide HR).symm, unhide HB3⟩
          · have HH : Hid (Maps.has D (.string f.nm.data.toList) = true) := hide ((unhide HT f.nm).trans hh)
            have HR : Hid (scanD T.length A [] O = 20) := hide (by rw [unhide HST, if_neg (by rw [hnm]; simp), if_pos (by rw [hh]; simp)])
            clear hnm HST hh
            go_wp2_with fail
            refine (IsName_any f.nm _ (unhide HNS)).mono ?_
            rintro e w2 ⟨rfl, rfl⟩
            rw [unhide HN]
            go_wp2_with (at_lookup; refine wpList_lookup_own_ok_int _ rfl _ _ 122 rfl 9 3 .i64 lawS Tryd.underlying122 Tryd.underlying3 (zeroI _) w.heap.size k D rfl (unhide HMa) _ _ rfl (unhide HKEY) ?_; intro c hat hwc; clear hat hwc; rw [unhide HH])
            go_ret
            exact ⟨ret_int (unhide HR).symm, unhide HBa⟩
      · have i1 : ¬ ((k : Nat) : Int) < ((O.length : Nat) : Int) := by omega
        obtain rfl : k = O.length := by omega
        rw [List.take_length, List.drop_length] at HS
        by_cases hl : 32 < A.length + O.length
        · have i2 : (O.length : Int) > 32 - (A.length : Int) := by omega
          have HR : Hid (scanD T.length A [] O = 4) := hide (by rw [unhide HS, scanD, if_pos (by omega)])
          go_wp2_with fail
          refine (unhide HLS _ (unhide HB)).mono ?_
          rintro e w3 ⟨rfl, hB3⟩
          have HB3 := hide ((unhide HB).trans (hB3.mono (unhide HB).size))
          clear hB3
          go_wp2
          go_ret
          exact ⟨ret_int (unhide HR).symm, unhide HB3⟩
        · have i2 : ¬ (O.length : Int) > 32 - (A.length : Int) := by omega
          have HR : Hid (scanD T.length A [] O = 0) := hide (by rw [unhide HS, scanD, if_neg (by omega)])
          go_wp2_with fail
          refine (unhide HLS _ (unhide HB)).mono ?_
          rintro e w3 ⟨rfl, hB3⟩
          have HB3 := hide ((unhide HB).trans (hB3.mono (unhide HB).size))
          clear hB3
          go_wp2
          all_goals go_ret
          all_goals exact ⟨ret_int (unhide HR).symm, unhide HB3⟩)
end Go.Proofs.YtnkhkppddlpcmaaDoor
