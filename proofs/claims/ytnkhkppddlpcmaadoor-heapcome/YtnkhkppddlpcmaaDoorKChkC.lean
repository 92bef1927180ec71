/-
  The contract of types.checkClass, where the classes ahead are right: the fault of a class ('faultD'). All that lay lies unturned.
-/
import Derived.Test.YtnkhkppddlpcmaaDoorKChkF
import Derived.Deep.RegionWith
namespace Go.Proofs.YtnkhkppddlpcmaaDoor
open Go.RowKit
set_option maxRecDepth 20000

theorem lineB_step2 {T : List Cl} {n : Nat} (hn : ∀ k, k < n → parD T k < (k : Int)) {c : Nat} (hc : c < n) (hl : c < T.length) : lineB T T.length (c : Int) = c :: lineB T T.length (parD T c) := by
  rw [lineB_in hl]
  congr 1
  have := hn c hc
  exact lineB_bel this (by omega)
theorem line_same2 {T : List Cl} {n : Nat} (hp : ∀ k, k < n → parD T k < (k : Int)) (hl : n ≤ T.length) : ∀ (m : Nat) (c : Int), c < (n : Int) → c.toNat ≤ m → lineD T c = lineB T T.length c := by
  intro m
  induction m with
  | zero =>
    intro c hc hn
    by_cases h0 : 0 ≤ c
    · obtain ⟨k, rfl⟩ : ∃ k : Nat, c = (k : Int) := ⟨c.toNat, by omega⟩
      have := hp k (by omega)
      rw [lineD_step hp (by omega) (by omega), lineB_step2 hp (by omega) (by omega)]
      congr 1
      unfold lineD
      rw [lineR_out _ (by omega), lineB_out (by omega)]
    · unfold lineD
      rw [lineR_out _ (by omega), lineB_out (by omega)]
  | succ m ih =>
    intro c hc hn
    by_cases h0 : 0 ≤ c
    · obtain ⟨k, rfl⟩ : ∃ k : Nat, c = (k : Int) := ⟨c.toNat, by omega⟩
      have := hp k (by omega)
      rw [lineD_step hp (by omega) (by omega), lineB_step2 hp (by omega) (by omega), ih _ (by omega) (by omega)]
    · unfold lineD
      rw [lineR_out _ (by omega), lineB_out (by omega)]
theorem fields_same2 {T : List Cl} {n : Nat} (hl : n ≤ T.length) (h : ∀ k, k < n → faultD T k = 0) {c : Int} (hc : c < (n : Int)) : fieldsD T c = fieldsB T c := by
  unfold fieldsD fieldsB
  rw [line_same2 (prev_par hl h) hl _ c hc (Nat.le_refl _)]

set_option maxHeartbeats 4000000 in
theorem checkClass_any (ao : Option Addr) (cap : Nat) (T : List Cl) (c : Nat) (x : Cl) (w : World) (h : TabAt w ao T) (hcap : T.length ≤ cap) (hW : WordsAt w) (hT : T.length * 48 ≤ 140737488351232) (hx : T[c]? = some x) (hprev : ∀ k, k < c → faultD T k = 0) :
    Calls Tryd.prog 62 #[.slice ao T.length cap, .int .i64 (c : Int)] w fun e w' => e = .returned (.int .i64 (faultD T c)) ∧ Below w.heap.size w w' := by
  have hc := (List.getElem?_eq_some_iff.1 hx).1
  have HFS := hide (fun p (hp : p < (c : Int)) => fields_same2 (Nat.le_of_lt hc) hprev hp)
  have HFL := hide (fieldsD_le (Nat.le_of_lt hc) hprev)
  obtain ⟨b, off, rfl, hcl⟩ := h c x hx
  have c0 := hcl.c0
  have c1 := hcl.c1
  have c2 := hcl.c2
  have hblt := World.block_lt_of_cell? w _ c0
  have HT := hide hT
  have H := hide h
  have HX := hide hx
  have HW := hide hW
  have i1 : ((c : Nat) : Int) < ((T.length : Nat) : Int) := by omega
  have hTl : T.length ≤ 4000000000000 := by omega
  have HCL := hide hcl
  have HNS : Hid (x.nm.size ≤ maxLen) := hide (by have := hcl.name; unfold maxLen; omega)
  clear hcl h hT hx hprev hW
  by_cases h32 : 32 ≤ c
  · have j1 : ((c : Nat) : Int) ≥ 32 := by omega
    have HR : Hid (faultD T c = 4) := hide (by unfold faultD; rw [unhide HX]; simp only; rw [if_pos h32])
    go_enter Tryd.func62, Tryd.ntmps62
    go_wp2
    go_quiet (fail)
    go_wp2
    go_ret
    exact ⟨ret_int (unhide HR).symm, belowD (Below.refl _ _) _⟩
  · have j1 : ¬ ((c : Nat) : Int) ≥ 32 := by omega
    have icap : ((c : Nat) : Int) ≤ ((cap : Nat) : Int) := by omega
    cases hnm : nameB x.nm
    · have HR := hide (faultD_6 (unhide HX) h32 (by rw [hnm]; rfl))
      have HN := hide hnm
      clear hnm
      go_enter Tryd.func62, Tryd.ntmps62
      go_wp2
      go_quiet (fail)
      go_wp2_with fail
      refine (IsName_any x.nm _ (unhide HNS)).mono ?_
      rintro e w2 ⟨rfl, rfl⟩
      rw [unhide HN]
      go_wp2
      go_ret
      exact ⟨ret_int (unhide HR).symm, belowD (Below.refl _ _) _⟩
    · have HN := hide hnm
      cases hwd : isWordD x.nm
      · have HWD := hide hwd
        have HN6 : Hid (¬ (!nameB x.nm || isWordD x.nm) = true) := hide (by rw [hnm, hwd]; simp)
        clear hnm hwd
        cases htw : twiceD T c x.nm
        · have HTW := hide htw
          have HT20 : Hid (¬ twiceD T c x.nm = true) := hide (by rw [htw]; simp)
          clear htw
          by_cases hp1 : x.par < -1
          · have HR := hide (faultD_21 (unhide HX) h32 (unhide HN6) (unhide HT20) (Or.inl hp1))
            go_enter Tryd.func62, Tryd.ntmps62
            go_wp2
            go_quiet (fail)
            go_wp2_with fail
            refine (IsName_any x.nm _ (unhide HNS)).mono ?_
            rintro e w2 ⟨rfl, rfl⟩
            rw [unhide HN]
            go_wp2_with fail
            refine (typesWord_any x.nm _ ((unhide HW).below (below_drew w _))).mono ?_
            rintro e w3 ⟨rfl, rfl⟩
            rw [unhide HWD]
            go_wp2_with fail
            refine (hasName_any (some ⟨b, off, none⟩) cap T c x.nm _ ((unhide H).below (below_drew w _)) (by omega) (unhide HT)).mono ?_
            rintro e w4 ⟨rfl, hB4⟩
            rw [unhide HTW]
            have HB4 : Hid (Below w.heap.size w w4) := hide ((below_drew w _).trans hB4)
            clear hB4
            go_wp2
            go_ret
            exact ⟨ret_int (unhide HR).symm, unhide HB4⟩
          · by_cases hp2 : (c : Int) ≤ x.par
            · have HR := hide (faultD_21 (unhide HX) h32 (unhide HN6) (unhide HT20) (Or.inr hp2))
              have hp2' : x.par ≥ (c : Int) := hp2
              go_enter Tryd.func62, Tryd.ntmps62
              go_wp2
              go_quiet (fail)
              go_wp2_with fail
              refine (IsName_any x.nm _ (unhide HNS)).mono ?_
              rintro e w2 ⟨rfl, rfl⟩
              rw [unhide HN]
              go_wp2_with fail
              refine (typesWord_any x.nm _ ((unhide HW).below (below_drew w _))).mono ?_
              rintro e w3 ⟨rfl, rfl⟩
              rw [unhide HWD]
              go_wp2_with fail
              refine (hasName_any (some ⟨b, off, none⟩) cap T c x.nm _ ((unhide H).below (below_drew w _)) (by omega) (unhide HT)).mono ?_
              rintro e w4 ⟨rfl, hB4⟩
              rw [unhide HTW]
              have HB4 : Hid (Below w.heap.size w w4) := hide ((below_drew w _).trans hB4)
              clear hB4
              go_wp2
              go_ret
              exact ⟨ret_int (unhide HR).symm, unhide HB4⟩
            · have HR := hide (faultD_scan (unhide HX) h32 (unhide HN6) (unhide HT20) (fun h => h.elim hp1 hp2))
              rw [unhide HFS x.par (by omega)] at HR
              have HFIT := hide (unhide HFL x.par (by omega))
              rw [unhide HFS x.par (by omega)] at HFIT
              have hp2' : ¬ x.par ≥ (c : Int) := hp2
              go_enter Tryd.func62, Tryd.ntmps62
              go_wp2
              go_quiet (fail)
              go_wp2_with fail
              refine (IsName_any x.nm _ (unhide HNS)).mono ?_
              rintro e w2 ⟨rfl, rfl⟩
              rw [unhide HN]
              go_wp2_with fail
              refine (typesWord_any x.nm _ ((unhide HW).below (below_drew w _))).mono ?_
              rintro e w3 ⟨rfl, rfl⟩
              rw [unhide HWD]
              go_wp2_with fail
              refine (hasName_any (some ⟨b, off, none⟩) cap T c x.nm _ ((unhide H).below (below_drew w _)) (by omega) (unhide HT)).mono ?_
              rintro e w4 ⟨rfl, hB4⟩
              rw [unhide HTW]
              have HB4 : Hid (Below w.heap.size w w4) := hide ((below_drew w _).trans hB4)
              clear hB4
              have c24 : w4.cell? ⟨b, off + c * 3 + 2, none⟩ = some (.slice x.fo x.fs.length x.fc) := ((unhide HB4).cell (p := ⟨b, off + c * 3 + 2, none⟩) hblt).trans c2
              have H4 := hide ((unhide H).below (unhide HB4))
              have HFO := hide ((unhide HCL).flds.below (unhide HB4))
              have HFF := hide (unhide HCL).fit
              have HCF := hide (fun (W : World) (h : Below w4.heap.size w4 W) => checkFields_any (some ⟨b, off, none⟩) cap T x.par x.fo x.fc x.fs W ((unhide H4).below h) ((unhide HFO).below h) (by have := unhide HFIT; omega) (unhide HFF))
              have HBD : Hid (Below w4.heap.size w4 w4.drew) := hide ⟨rfl, rfl, rfl, Nat.le_refl _, fun _ _ => rfl⟩
              go_wp2_with fail
              refine (unhide HCF _ (Below.refl _ _)).mono ?_
              rintro e w6 ⟨rfl, hB6⟩
              have HB6 : Hid (Below w.heap.size w w6) := hide ((unhide HB4).trans (hB6.mono (unhide HB4).size))
              clear hB6
              all_goals go_wp2
              all_goals go_ret
              all_goals exact ⟨ret_int (unhide HR).symm, unhide HB6⟩
        · have HTW := hide htw
          have HR := hide (faultD_20 (unhide HX) h32 (unhide HN6) htw)
          clear htw
          go_enter Tryd.func62, Tryd.ntmps62
          go_wp2
          go_quiet (fail)
          go_wp2_with fail
          refine (IsName_any x.nm _ (unhide HNS)).mono ?_
          rintro e w2 ⟨rfl, rfl⟩
          rw [unhide HN]
          go_wp2_with fail
          refine (typesWord_any x.nm _ ((unhide HW).below (below_drew w _))).mono ?_
          rintro e w3 ⟨rfl, rfl⟩
          rw [unhide HWD]
          go_wp2_with fail
          refine (hasName_any (some ⟨b, off, none⟩) cap T c x.nm _ ((unhide H).below (below_drew w _)) (by omega) (unhide HT)).mono ?_
          rintro e w4 ⟨rfl, hB4⟩
          rw [unhide HTW]
          have HB4 : Hid (Below w.heap.size w w4) := hide ((below_drew w _).trans hB4)
          clear hB4
          go_wp2
          go_ret
          exact ⟨ret_int (unhide HR).symm, unhide HB4⟩
      · have HWD := hide hwd
        have HR := hide (faultD_6 (unhide HX) h32 (by rw [hwd]; simp))
        clear hnm hwd
        go_enter Tryd.func62, Tryd.ntmps62
        go_wp2
        go_quiet (fail)
        go_wp2_with fail
        refine (IsName_any x.nm _ (unhide HNS)).mono ?_
        rintro e w2 ⟨rfl, rfl⟩
        rw [unhide HN]
        go_wp2_with fail
        refine (typesWord_any x.nm _ ((unhide HW).below (below_drew w _))).mono ?_
        rintro e w3 ⟨rfl, rfl⟩
        rw [unhide HWD]
        go_wp2
        go_ret
        exact ⟨ret_int (unhide HR).symm, belowD (Below.refl _ _) _⟩
end Go.Proofs.YtnkhkppddlpcmaaDoor
