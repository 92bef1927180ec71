/-
  Texts of contracts and plain lemmas, one behind another; each says at its head what it holds.
-/
import Derived.Test.YtbbfnampjbdnbaaDoorNm
import Derived.Test.YtbbfnampjbdnbaaDoorWn
import Derived.Test.YtbbfnampjbdnbaaDoorJRF
import Derived.Test.YtbbfnampjbdnbaaDoorJTZ
import Derived.Maps.Own
import Derived.Maps.OwnOps
import Derived.Maps.OwnSet
import Derived.Maps.Views
import Derived.StringKeys
import Derived.Deep.RegionWith
/-
  The contracts of wire.IsName and of provisoref02.IsName together. No Go in it beyond these.
-/

/-
  Contracts of types.isStored and types.isWord: what the plain functions 'storedD' and 'isWordD' say, in the same world.
-/
namespace Go.Proofs.YtbbfnampjbdnbaaDoor
open Go.RowKit
set_option maxRecDepth 20000

theorem isStored_any (ao : Option Addr) (n cap t : Nat) (w : World) (ht : t < 256) :
    Calls Tryd.prog 76 #[.slice ao n cap, .int .u8 (t : Int)] w fun e w' => e = .returned (.bool (storedD n t)) ∧ w' = w := by
  cases hv : validD n t
  · have HR : Hid (storedD n t = false) := hide (by unfold storedD; rw [hv]; rfl)
    have HV := hide hv
    clear hv
    go_enter Tryd.func76, Tryd.ntmps76
    go_wp2_with fail
    refine (Valid_any ao n cap t _ ht).mono ?_
    rintro e w2 ⟨rfl, rfl⟩
    rw [unhide HV]
    go_wp2
    go_ret
    exact ⟨ret_bool (unhide HR).symm, rfl⟩
  · have HV := hide hv
    by_cases h0 : t = 0
    · have HR : Hid (storedD n t = false) := hide (by unfold storedD; rw [hv, h0]; rfl)
      have b0 : (((t : Nat) : Int) != 0) = false := by simp [h0]
      clear hv h0
      go_enter Tryd.func76, Tryd.ntmps76
      go_wp2_with fail
      refine (Valid_any ao n cap t _ ht).mono ?_
      rintro e w2 ⟨rfl, rfl⟩
      rw [unhide HV]
      go_wp2
      go_ret
      exact ⟨ret_bool (unhide HR).symm, rfl⟩
    · have b0 : (((t : Nat) : Int) != 0) = true := by simp [h0]
      by_cases h3 : t = 3
      · have HR : Hid (storedD n t = false) := hide (by unfold storedD; rw [h3]; simp)
        have b3 : (((t : Nat) : Int) != 3) = false := by simp [h3]
        clear hv h0 h3
        go_enter Tryd.func76, Tryd.ntmps76
        go_wp2_with fail
        refine (Valid_any ao n cap t _ ht).mono ?_
        rintro e w2 ⟨rfl, rfl⟩
        rw [unhide HV]
        go_wp2
        go_ret
        exact ⟨ret_bool (unhide HR).symm, rfl⟩
      · have HR : Hid (storedD n t = true) := hide (by unfold storedD; rw [hv]; simp [h0, h3])
        have b3 : (((t : Nat) : Int) != 3) = true := by simp; omega
        clear hv h0 h3
        go_enter Tryd.func76, Tryd.ntmps76
        go_wp2_with fail
        refine (Valid_any ao n cap t _ ht).mono ?_
        rintro e w2 ⟨rfl, rfl⟩
        rw [unhide HV]
        go_wp2
        go_ret
        exact ⟨ret_bool (unhide HR).symm, rfl⟩

theorem tabNil (w : World) : TabAt w none [] := fun i x hx => by simp at hx

theorem parse_nil (s : ByteArray) : (parseD six [] s).2 = isWordD s := by
  have hr : List.range 6 = [0, 1, 2, 3, 4, 5] := by decide
  unfold parseD six isWordD
  rw [hr]
  cases h0 : ((wordD 0).toList == s.toList) <;> cases h1 : ((wordD 1).toList == s.toList) <;> cases h2 : ((wordD 2).toList == s.toList) <;> cases h3 : ((wordD 3).toList == s.toList) <;> cases h4 : ((wordD 4).toList == s.toList) <;> cases h5 : ((wordD 5).toList == s.toList) <;> simp [findN, h0, h1, h2, h3, h4, h5]

theorem typesWord_any (s : ByteArray) (w : World) (hW : WordsAt w) :
    Calls Tryd.prog 56 #[.string s] w fun e w' => e = .returned (.bool (isWordD s)) ∧ w' = w := by
  have HP := hide (Parse_six (wordD 0) (wordD 1) (wordD 2) (wordD 3) (wordD 4) (wordD 5) none 0 [] s w (tabNil w) (by simp) (hW 0 (by omega)) (hW 1 (by omega)) (hW 2 (by omega)) (hW 3 (by omega)) (hW 4 (by omega)) (hW 5 (by omega)))
  have HR := hide (parse_nil s)
  clear hW
  go_enter Tryd.func56, Tryd.ntmps56
  go_wp2_with fail
  refine (unhide HP).mono ?_
  rintro e w2 ⟨rfl, rfl⟩
  rw [show [wordD 0, wordD 1, wordD 2, wordD 3, wordD 4, wordD 5] = six from rfl, unhide HR]
  go_wp2
  go_ret
  exact ⟨rfl, rfl⟩
end Go.Proofs.YtbbfnampjbdnbaaDoor

/-
  Contracts of types.hasName and of what it calls: slices.ContainsFunc, slices.IndexFunc at a class, with its closure: whether a name stands among the first c classes ('twiceD'). All that lay lies unturned.
-/
namespace Go.Proofs.YtbbfnampjbdnbaaDoor
open Go.RowKit
set_option maxRecDepth 20000

theorem hasName1_any (y : Cl) (s : ByteArray) (B : Nat) (w : World) (hB : w.cell? ⟨B, 0, none⟩ = some (.string s)) :
    Calls Tryd.prog 74 #[.agg #[.string y.nm, .int .i64 y.par, .slice y.fo y.fs.length y.fc], .pointer (some ⟨B, 0, none⟩)] w fun e w' => e = .returned (.bool (y.nm.toList == s.toList)) ∧ Below w.heap.size w w' := by
  have hBl := World.block_lt_of_cell? w _ hB
  go_enter Tryd.func74, Tryd.ntmps74
  go_wp2
  go_ret
  exact ⟨rfl, (Below.refl _ _).alloc (Nat.le_refl _) _⟩

theorem IndexFunc_any (ao : Option Addr) (cap : Nat) (T : List Cl) (c : Nat) (s : ByteArray) (B : Nat) (w : World) (hT : TabAt w ao T) (hc : c ≤ T.length) (hz : T.length * 48 ≤ 140737488351232) (hB : w.cell? ⟨B, 0, none⟩ = some (.string s)) :
    Calls Tryd.prog 84 #[.slice ao c cap, .func (.func 74) #[] #[.pointer (some ⟨B, 0, none⟩)]] w fun e w' => ∃ i : Int, e = .returned (.int .i64 i) ∧ decide (i ≥ 0) = twiceD T c s ∧ Below w.heap.size w w' := by
  have HT := hide hT
  have HB := hide hB
  clear hT hB
  go_enter Tryd.func84, Tryd.ntmps84
  go_wp2
  go_loopw [5, 8] (fun _ i wr => ∃ k : Nat, k ≤ c ∧ i = .int .i64 (k : Int) ∧ Hid (twiceD T k s = false) ∧ Hid (Below w.heap.size w wr)) (fun _ i _ => c - (intOf i).toNat)
  case atStart => exact ⟨0, by omega, rfl, hide rfl, hide (Below.refl _ _)⟩
  case round =>
    obtain ⟨k, hk, rfl, HK, HBW⟩ := hrel
    by_cases hlt : k < c
    · have i1 : ((k : Nat) : Int) < ((c : Nat) : Int) := by omega
      have hkT : k < T.length := by omega
      obtain ⟨y, hy⟩ : ∃ y, T[k]? = some y := ⟨T[k], List.getElem?_eq_getElem hkT⟩
      have HY : Hid (T[k] = y) := hide (by rw [List.getElem?_eq_getElem hkT] at hy; exact Option.some.inj hy)
      obtain ⟨b, off, e0, hcl⟩ := (unhide HT).below (unhide HBW) k y hy
      have HE0 := hide e0
      have c0 := hcl.c0
      have c1 := hcl.c1
      have c2 := hcl.c2
      have hblt := World.block_lt_of_cell? wr _ c0
      clear hcl hy
      subst e0
      have HB2 : Hid (wr.cell? ⟨B, 0, none⟩ = some (.string s)) := hide (((unhide HBW).cell (p := ⟨B, 0, none⟩) (World.block_lt_of_cell? w _ (unhide HB))).trans (unhide HB))
      cases hq : (y.nm.toList == s.toList)
      · have HK2 : Hid (twiceD T (k + 1) s = false) := hide (by rw [twiceD_snoc s hkT, unhide HK, unhide HY, hq]; rfl)
        have HQ := hide hq
        clear hq
        go_wp2_with fail
        refine (hasName1_any y s B wr (unhide HB2)).mono ?_
        rintro e w2 ⟨rfl, hb2⟩
        rw [unhide HQ]
        have HB3 := hide ((unhide HBW).trans (hb2.mono (unhide HBW).size))
        clear hb2
        go_wp2
        go_roundw
        case rel => exact ⟨k + 1, by omega, by go_num, HK2, HB3⟩
        case measure => simp [intOf]; omega
      · have HR : Hid (twiceD T c s = true) := hide (twiceD_found hlt hkT (by rw [unhide HY]; exact hq))
        have HQ := hide hq
        clear hq
        go_wp2_with fail
        refine (hasName1_any y s B wr (unhide HB2)).mono ?_
        rintro e w2 ⟨rfl, hb2⟩
        rw [unhide HQ]
        have HB3 := hide ((unhide HBW).trans (hb2.mono (unhide HBW).size))
        clear hb2
        go_wp2
        go_ret
        exact ⟨_, rfl, by rw [unhide HR]; exact decide_eq_true (by omega), unhide HB3⟩
    · have i1 : ¬ ((k : Nat) : Int) < ((c : Nat) : Int) := by omega
      have HR : Hid (twiceD T c s = false) := hide (by rw [show c = k by omega]; exact unhide HK)
      go_wp2
      go_ret
      exact ⟨_, rfl, by rw [unhide HR]; rfl, unhide HBW⟩

theorem ContainsFunc_any (ao : Option Addr) (cap : Nat) (T : List Cl) (c : Nat) (s : ByteArray) (B : Nat) (w : World) (hT : TabAt w ao T) (hc : c ≤ T.length) (hz : T.length * 48 ≤ 140737488351232) (hB : w.cell? ⟨B, 0, none⟩ = some (.string s)) :
    Calls Tryd.prog 73 #[.slice ao c cap, .func (.func 74) #[] #[.pointer (some ⟨B, 0, none⟩)]] w fun e w' => e = .returned (.bool (twiceD T c s)) ∧ Below w.heap.size w w' := by
  go_enter Tryd.func73, Tryd.ntmps73
  go_wp2_with fail
  refine (IndexFunc_any ao cap T c s B w hT hc hz hB).mono ?_
  rintro e w2 ⟨i, rfl, hi, hb⟩
  have HI := hide hi
  clear hi hB hT
  go_wp2
  all_goals go_ret
  all_goals exact ⟨ret_bool (unhide HI), hb⟩

theorem hasName_any (ao : Option Addr) (cap : Nat) (T : List Cl) (c : Nat) (s : ByteArray) (w : World) (hT : TabAt w ao T) (hc : c ≤ T.length) (hz : T.length * 48 ≤ 140737488351232) :
    Calls Tryd.prog 57 #[.slice ao c cap, .string s] w fun e w' => e = .returned (.bool (twiceD T c s)) ∧ Below w.heap.size w w' := by
  have hb1 : Below w.heap.size w (w.alloc (.cells #[.string s] 9)) := (Below.refl _ _).alloc (Nat.le_refl _) _
  have hT1 := hT.below hb1
  have HC := hide (ContainsFunc_any ao cap T c s w.heap.size _ hT1 hc hz (cellNew w (.string s) 9).1)
  have HB1 := hide hb1
  clear hT hT1 hb1
  go_enter Tryd.func57, Tryd.ntmps57
  go_wp2_with fail
  refine (unhide HC).mono ?_
  rintro e w2 ⟨rfl, hb⟩
  have HB2 := hide ((unhide HB1).trans (hb.mono (unhide HB1).size))
  clear hb
  go_wp2
  go_ret
  exact ⟨rfl, unhide HB2⟩
end Go.Proofs.YtbbfnampjbdnbaaDoor

/-
  Contracts of types.lineHas, lineSize and of what they call: whether a field of a name stands along a class's line, and how many fields stand there. All that lay lies unturned.
-/
namespace Go.Proofs.YtbbfnampjbdnbaaDoor
open Go.RowKit Go.Shelf
set_option maxRecDepth 20000
attribute [local go_sem] Oper.semAt_some

theorem hasD_app (A L : List Fl) (s : ByteArray) : hasD (A ++ L) s = (hasD A s || hasD L s) := by unfold hasD; rw [List.any_append]
theorem hasD_take {O : List Fl} {k : Nat} (s : ByteArray) (hk : k < O.length) : hasD (O.take (k + 1)) s = (hasD (O.take k) s || (O[k].nm.toList == s.toList)) := by
  rw [← List.take_append_getElem hk, hasD_app]
  simp [hasD]
theorem keeps_below {W W' : World} (h : Below W.heap.size W W') : KeepsOthers W W' := ⟨h.size, fun k _ hk _ => (h.block k (Array.getElem?_eq_some_iff.1 hk).1).trans hk⟩
theorem hasD_found2 {O : List Fl} {k : Nat} (s : ByteArray) (hk : k < O.length) (h : (O[k].nm.toList == s.toList) = true) : hasD O s = true := by
  unfold hasD
  rw [List.any_eq_true]
  exact ⟨O[k], List.getElem_mem hk, h⟩

theorem lineHas1_any (y : Fl) (s : ByteArray) (B : Nat) (w : World) (hB : w.cell? ⟨B, 0, none⟩ = some (.string s)) :
    Calls Tryd.prog 86 #[.agg #[.string y.nm, .int .u8 (y.ty : Int)], .pointer (some ⟨B, 0, none⟩)] w fun e w' => e = .returned (.bool (y.nm.toList == s.toList)) ∧ Below w.heap.size w w' := by
  have hBl := World.block_lt_of_cell? w _ hB
  go_enter Tryd.func86, Tryd.ntmps86
  go_wp2
  go_ret
  exact ⟨rfl, (Below.refl _ _).alloc (Nat.le_refl _) _⟩

theorem IndexFuncF_any (oa : Option Addr) (oc : Nat) (O : List Fl) (s : ByteArray) (B : Nat) (w : World) (hO : FsAt w oa O) (hz : O.length * 24 ≤ 140737488351232) (hB : w.cell? ⟨B, 0, none⟩ = some (.string s)) :
    Calls Tryd.prog 89 #[.slice oa O.length oc, .func (.func 86) #[] #[.pointer (some ⟨B, 0, none⟩)]] w fun e w' => ∃ i : Int, e = .returned (.int .i64 i) ∧ decide (i ≥ 0) = hasD O s ∧ Below w.heap.size w w' := by
  have HT := hide hO
  have HB := hide hB
  have hOl : O.length ≤ 5864062014634 := by omega
  clear hO hB hz
  go_enter Tryd.func89, Tryd.ntmps89
  go_wp2
  go_loopw [5, 8] (fun _ i wr => ∃ k : Nat, k ≤ O.length ∧ i = .int .i64 (k : Int) ∧ Hid (hasD (O.take k) s = false) ∧ Hid (Below w.heap.size w wr)) (fun _ i _ => O.length - (intOf i).toNat)
  case atStart => exact ⟨0, by omega, rfl, hide rfl, hide (Below.refl _ _)⟩
  case round =>
    obtain ⟨k, hk, rfl, HK, HBW⟩ := hrel
    by_cases hlt : k < O.length
    · have i1 : ((k : Nat) : Int) < ((O.length : Nat) : Int) := by omega
      obtain ⟨y, HY⟩ : ∃ y, Hid (O[k] = y) := ⟨_, hide rfl⟩
      obtain ⟨b, off, e0, hcl⟩ := (unhide HT).below (unhide HBW) k y (by rw [List.getElem?_eq_getElem hlt, unhide HY])
      have c0 := hcl.c0
      have c1 := hcl.c1
      have hblt := World.block_lt_of_cell? wr _ c0
      clear hcl
      subst e0
      have HB2 : Hid (wr.cell? ⟨B, 0, none⟩ = some (.string s)) := hide (((unhide HBW).cell (p := ⟨B, 0, none⟩) (World.block_lt_of_cell? w _ (unhide HB))).trans (unhide HB))
      cases hq : (y.nm.toList == s.toList)
      · have HK2 : Hid (hasD (O.take (k + 1)) s = false) := hide (by rw [hasD_take s hlt, unhide HK, unhide HY, hq]; rfl)
        have HQ := hide hq
        clear hq
        go_wp2_with fail
        refine (lineHas1_any y s B wr (unhide HB2)).mono ?_
        rintro e w2 ⟨rfl, hb2⟩
        rw [unhide HQ]
        have HB3 := hide ((unhide HBW).trans (hb2.mono (unhide HBW).size))
        clear hb2
        go_wp2
        go_roundw
        case rel => exact ⟨k + 1, by omega, by go_num, HK2, HB3⟩
        case measure => simp [intOf]; omega
      · have HR : Hid (hasD O s = true) := hide (hasD_found2 s hlt (by rw [unhide HY]; exact hq))
        have HQ := hide hq
        clear hq
        go_wp2_with fail
        refine (lineHas1_any y s B wr (unhide HB2)).mono ?_
        rintro e w2 ⟨rfl, hb2⟩
        rw [unhide HQ]
        have HB3 := hide ((unhide HBW).trans (hb2.mono (unhide HBW).size))
        clear hb2
        go_wp2
        go_ret
        exact ⟨_, rfl, by rw [unhide HR]; exact decide_eq_true (by omega), unhide HB3⟩
    · have i1 : ¬ ((k : Nat) : Int) < ((O.length : Nat) : Int) := by omega
      have HR : Hid (hasD O s = false) := hide (by have := unhide HK; rwa [List.take_of_length_le (by omega)] at this)
      go_wp2
      go_ret
      exact ⟨_, rfl, by rw [unhide HR]; rfl, unhide HBW⟩

theorem ContainsFuncF_any (oa : Option Addr) (oc : Nat) (O : List Fl) (s : ByteArray) (B : Nat) (w : World) (hO : FsAt w oa O) (hz : O.length * 24 ≤ 140737488351232) (hB : w.cell? ⟨B, 0, none⟩ = some (.string s)) :
    Calls Tryd.prog 85 #[.slice oa O.length oc, .func (.func 86) #[] #[.pointer (some ⟨B, 0, none⟩)]] w fun e w' => e = .returned (.bool (hasD O s)) ∧ Below w.heap.size w w' := by
  go_enter Tryd.func85, Tryd.ntmps85
  go_wp2_with fail
  refine (IndexFuncF_any oa oc O s B w hO hz hB).mono ?_
  rintro e w2 ⟨i, rfl, hi, hb⟩
  have HI := hide hi
  clear hi hB hO
  go_wp2
  all_goals go_ret
  all_goals exact ⟨ret_bool (unhide HI), hb⟩

/-- Whether a field of that name stands along a line; how many stand there. -/
def lineHasD (T : List Cl) (c : Int) (s : ByteArray) : Bool := (lineB T T.length c).any fun k => hasD (fsD T k) s
theorem lineHas_fields (T : List Cl) (c : Int) (s : ByteArray) : hasD (fieldsB T c) s = lineHasD T c s := by
  unfold fieldsB lineHasD hasD
  rw [List.any_flatMap, List.any_reverse]
theorem lineHasD_yes {T : List Cl} {c : Int} {s : ByteArray} {pre : List Nat} {x : Nat} (hp : pre <+: lineB T T.length c) (hx : x ∈ pre) (e : hasD (fsD T x) s = true) : lineHasD T c s = true := by
  unfold lineHasD
  rw [List.any_eq_true]
  exact ⟨x, hp.subset hx, e⟩
theorem lineHasD_no {T : List Cl} {c : Int} {s : ByteArray} (h : ∀ x ∈ lineB T T.length c, hasD (fsD T x) s = false) : lineHasD T c s = false := by
  unfold lineHasD
  rw [List.any_eq_false]
  intro x hx
  rw [h x hx]
  simp

set_option maxRecDepth 100000 in
set_option maxHeartbeats 4000000 in
theorem lineHas_any (ao : Option Addr) (cap : Nat) (T : List Cl) (c : Int) (s : ByteArray) (w : World) (hT : TabAt w ao T) :
    Calls Tryd.prog 75 #[.slice ao T.length cap, .int .i64 c, .string s] w fun e w' => e = .returned (.bool (lineHasD T c s)) ∧ Below w.heap.size w w' := by
  refine (callsIn_wide (n := 3)).1 ?_
  refine callsIn_of_wp_marks Tryd.func75 rfl trivial ?_ rfl
  simp only [Tryd.ntmps75, List.size_toArray, List.length_cons, List.length_nil, Nat.reduceAdd, Nat.reduceSub, Array.replicate_succ, Array.replicate_zero, List.push_toArray, List.append_toArray, List.nil_append, List.cons_append]
  gi_wp2
  refine ⟨trivial, ?_⟩
  refine (lineMake_in _ _ _ _ _ _).mono ?_
  rintro e w' ⟨rfl, rfl⟩
  gi_wp2
  have c0 := cellNew w (.slice ao T.length cap) 22
  have c1 := cellNew (w.alloc (.cells #[.slice ao T.length cap] 22)) (.string s) 9
  have c2 := cellNew ((w.alloc (.cells #[.slice ao T.length cap] 22)).alloc (.cells #[.string s] 9)) (.bool false) 4
  have c3 := cellNew (((w.alloc (.cells #[.slice ao T.length cap] 22)).alloc (.cells #[.string s] 9)).alloc (.cells #[.bool false] 4)) (.slice ao T.length cap) 22
  have c4 := cellNew ((((w.alloc (.cells #[.slice ao T.length cap] 22)).alloc (.cells #[.string s] 9)).alloc (.cells #[.bool false] 4)).alloc (.cells #[.slice ao T.length cap] 22)) (.int .i64 c) 3
  simp only [World.size_alloc] at c1 c2 c3 c4
  have hB0 : Below w.heap.size w (((((w.alloc (.cells #[.slice ao T.length cap] 22)).alloc (.cells #[.string s] 9)).alloc (.cells #[.bool false] 4)).alloc (.cells #[.slice ao T.length cap] 22)).alloc (.cells #[.int .i64 c] 3)) := (((((Below.refl _ w).alloc (Nat.le_refl _) _).alloc (by simp) _).alloc (by simp; omega) _).alloc (by simp; omega) _).alloc (by simp; omega) _
  have h1 : 1 ≤ 3 := by omega
  refine wpIn_rangeFunc_ownF rfl h1 (gf := 60) (lb := #[.pointer (some ⟨w.heap.size + 1 + 1 + 1 + 1, 0, none⟩), .pointer (some ⟨w.heap.size + 1 + 1 + 1, 0, none⟩)]) rfl trivial (enters_of Tryd.func60 (by kernel_rfl) rfl)
    (line_stopsF (3 - 1) (by omega) (w.heap.size + 1 + 1 + 1 + 1) (w.heap.size + 1 + 1 + 1) ao cap T c w _ hT hB0 c4.1 (cellAlloc _ c3.1)) keepsL_t (keepsL_b (by simp; omega) (by simp)) (Below.refl _ _) (fun _ => rfl)
    (fun pre W => ((∀ y ∈ pre, hasD (fsD T y.1) s = false) ∧ W.cell? ⟨w.heap.size, 0, none⟩ = some (.slice ao T.length cap) ∧ W.cell? ⟨w.heap.size + 1, 0, none⟩ = some (.string s) ∧ W.cell? ⟨w.heap.size + 1 + 1, 0, none⟩ = some (.bool false) ∧ W.frozen? ⟨w.heap.size + 1 + 1, 0, none⟩ = false ∧ W.cell? ⟨w.heap.size + 1 + 1 + 1, 0, none⟩ = some (.slice ao T.length cap)) ∧ Below w.heap.size w W)
    (fun c pre W => (c = .ret ∧ (∃ y ∈ pre, hasD (fsD T y.1) s = true) ∧ W.cell? ⟨w.heap.size + 1 + 1, 0, none⟩ = some (.bool true)) ∧ Below w.heap.size w W)
    (OwnFrom.and (Own.from (fun s A B row hs hg hr => ⟨hs.1, cell_kept hs.2.1 hg hr, cell_kept hs.2.2.1 hg hr, cell_kept hs.2.2.2.1 hg hr, (frozen_kept hs.2.2.2.1 hg hr).trans hs.2.2.2.2.1, cell_kept hs.2.2.2.2.2 hg hr⟩) _) (ownFrom_below (Nat.le_refl _) (by simp; omega)))
    (fun c => OwnFrom.and (Own.from (fun s A B row hs hg hr => ⟨hs.1, hs.2.1, cell_kept hs.2.2 hg hr⟩) _) (ownFrom_below (Nat.le_refl _) (by simp; omega)))
    ⟨⟨by simp, cellAlloc _ (cellAlloc _ (cellAlloc _ (cellAlloc _ c0.1))), cellAlloc _ (cellAlloc _ (cellAlloc _ c1.1)), cellAlloc _ (cellAlloc _ c2.1), frozenAlloc _ (cellAlloc _ c2.1) (frozenAlloc _ c2.1 c2.2), cellAlloc _ c3.1⟩, hB0⟩
    (fun x => { tmps := #[.slice ao T.length cap, .int .i64 c, .string s, .pointer (some ⟨w.heap.size, 0, none⟩), undef, .pointer (some ⟨w.heap.size + 1, 0, none⟩), .pointer (some ⟨w.heap.size + 1 + 1, 0, none⟩), .int .i64 (x.1 : Int), .slice ao T.length cap, .int .i64 c, .func (.func 60) #[] #[.pointer (some ⟨w.heap.size + 1 + 1 + 1 + 1, 0, none⟩), .pointer (some ⟨w.heap.size + 1 + 1 + 1, 0, none⟩)], .int .i64 (x.1 : Int), undef, undef, undef, undef, undef, undef, undef], defers := [] }) ?assign ?body ?done ?stop
  case assign =>
    intro l x W K hK
    gi_wp2
    exact hK
  case body =>
    rintro l pre x W ⟨⟨hp, hcl, hcw, hcr, hfr, hc3⟩, hB⟩ hlen
    obtain ⟨b, off, rfl, hx⟩ := (hT.below hB) x.1 _ (List.getElem?_eq_getElem x.2)
    have d2 := hx.c2
    have HFS := hide hx.flds
    have HFT := hide hx.fit
    have HFD := hide (fsD_at (List.getElem?_eq_getElem x.2))
    have i2 : ((x.1 : Nat) : Int) < ((T.length : Nat) : Int) := by have := x.2; omega
    have hbl : w.heap.size + 1 + 1 + 1 < W.heap.size := World.block_lt_of_cell? W _ hc3
    gi_wp2
    refine ⟨trivial, ?_⟩
    refine (CallsIn.inRound l (callsIn_wide.2 (ContainsFuncF_any T[x.1].fo T[x.1].fc T[x.1].fs s (w.heap.size + 1) W (unhide HFS) (unhide HFT) hcw))).mono ?_
    rintro e W2 ⟨rfl, hB2⟩
    have hcr2 := (hB2.cell (p := ⟨w.heap.size + 1 + 1, 0, none⟩) (World.block_lt_of_cell? W _ hcr)).trans hcr
    have hfr2 : W2.frozen? ⟨w.heap.size + 1 + 1, 0, none⟩ = false := by
      unfold World.frozen? at hfr ⊢
      rw [hB2.block (w.heap.size + 1 + 1) (by omega)]
      exact hfr
    have hBW : Below w.heap.size w W2 := hB.trans (hB2.mono hB.size)
    cases hq : hasD T[x.1].fs s
    · gi_wp2
      refine ⟨keeps_below hB2, ⟨hB2.mono hB.size, hB2.block _ hbl⟩, ⟨fun y hy => ?_, (hB2.cell (p := ⟨w.heap.size, 0, none⟩) (World.block_lt_of_cell? W _ hcl)).trans hcl, (hB2.cell (p := ⟨w.heap.size + 1, 0, none⟩) (World.block_lt_of_cell? W _ hcw)).trans hcw, hcr2, hfr2, (hB2.cell (p := ⟨w.heap.size + 1 + 1 + 1, 0, none⟩) hbl).trans hc3⟩, hBW⟩
      rcases List.mem_append.1 hy with h | h
      · exact hp y h
      · obtain rfl : y = x := by simpa using h
        rw [unhide HFD]
        exact hq
    · gi_wp2
      exact ⟨(keeps_below hB2).trans (KeepsOthers.setCell _ _ _), ⟨rfl, ⟨x, by simp, by rw [unhide HFD]; exact hq⟩, World.cell?_setCell_same' _ _ _ (by rw [hcr2]; rfl)⟩, hBW.setCell (p := ⟨w.heap.size + 1 + 1, 0, none⟩) (by simp; omega) _⟩
  case done =>
    rintro D ys W hD hys ⟨⟨hne, _, _, hcr, hfr, _⟩, hB⟩ hK
    replace hne : ∀ y ∈ lineB T T.length c, hasD (fsD T y) s = false := fun y hy => by
      rw [← hys] at hy
      obtain ⟨z, hz, rfl⟩ := List.mem_map.1 hy
      exact hne z hz
    gi_wp2
    have hK' := (KeepsOthers.setCell W ⟨w.heap.size + 1 + 1, 0, none⟩ (.bool false)).same D _ hK rfl
    refine ⟨by simp, .inl ⟨_, _, rfl, run_takeDeferred hK', ?_⟩⟩
    have hc5 := cell_kept (World.cell?_setCell_same' W ⟨w.heap.size + 1 + 1, 0, none⟩ (.bool false) (by rw [hcr]; rfl)) (grownBy_putObj' _ D (.deferred none)) (fun r e => by cases e; exact ⟨_, hK', rfl⟩)
    refine ⟨.bool false, ?_, by rw [lineHasD_no hne], (hB.setCell (p := ⟨w.heap.size + 1 + 1, 0, none⟩) (by simp; omega) _).trans (belowK_b (w := w) (Nat.le_refl _) _ D _ _ (by simp at hD; omega) hK' rfl rfl)⟩
    simp [results, Tryd.f75, go_sem, hc5]
  case stop =>
    rintro D c' pre W hD hpre ⟨⟨rfl, ⟨y, hy, ey⟩, hcr⟩, hB⟩ hK
    gi_wp2
    refine ⟨by simp, .inl ⟨_, _, rfl, run_takeDeferred hK, ?_⟩⟩
    have hc5 := cell_kept hcr (grownBy_putObj' _ D (.deferred none)) (fun r e => by cases e; exact ⟨_, hK, rfl⟩)
    refine ⟨.bool true, ?_, by rw [lineHasD_yes hpre (List.mem_map.2 ⟨y, hy, rfl⟩) ey], hB.trans (belowK_b (w := w) (Nat.le_refl _) W D _ _ (by simp at hD; omega) hK rfl rfl)⟩
    simp [results, Tryd.f75, go_sem, hc5]
end Go.Proofs.YtbbfnampjbdnbaaDoor

/-
  The contract of types.lineSize: how many fields stand along a class's line. All that lay lies unturned. Conditions: the table fits, and there are at most a million.
-/
namespace Go.Proofs.YtbbfnampjbdnbaaDoor
open Go.RowKit Go.Shelf
set_option maxRecDepth 20000
attribute [local go_sem] Oper.semAt_some

theorem wpIn_relB {F : Fence} {n : Nat} {P : Program} {c : Code} {Q : Exit → Act → World → Prop} {a : Act} {w : World} {A : Act} (R : World → Prop)
    (h : c.wpIn F n P (Exit.then (fun a' w' => a' = A ∧ R w') (fun _ _ _ => False)) a w) (rest : ∀ W, R W → Q .normal A W) : c.wpIn F n P Q a w := by
  refine wpIn_mono h ?_
  intro e a' w' hq
  cases e with
  | normal =>
    obtain ⟨rfl, h2⟩ := hq
    exact rest _ h2
  | _ => exact hq.elim

def szD (T : List Cl) (pre : List {x : Nat // x < T.length}) : Int := ((pre.map fun x => (fsD T x.1).length).sum : Nat)
/-- That number, or what is left of it, if it is too great. -/
def zD (T : List Cl) (pre : List {x : Nat // x < T.length}) : Int := pre.foldl (fun z x => IntKind.wrap .i64 (z + (fsD T x.1).length)) 0
theorem zD_snoc (T : List Cl) (pre : List {x : Nat // x < T.length}) (x : {x : Nat // x < T.length}) : zD T (pre ++ [x]) = IntKind.wrap .i64 (zD T pre + (fsD T x.1).length) := by
  unfold zD
  rw [List.foldl_append]
  rfl
theorem szD_snoc (T : List Cl) (pre : List {x : Nat // x < T.length}) (x : {x : Nat // x < T.length}) : szD T (pre ++ [x]) = szD T pre + (fsD T x.1).length := by
  unfold szD
  rw [List.map_append, List.sum_append]
  simp
theorem szD_nonneg (T : List Cl) (pre : List {x : Nat // x < T.length}) : 0 ≤ szD T pre := by unfold szD; omega
theorem zD_from {T : List Cl} : ∀ (pre : List {x : Nat // x < T.length}) (z : Int), 0 ≤ z → z + szD T pre ≤ 1000000 → pre.foldl (fun z x => IntKind.wrap .i64 (z + (fsD T x.1).length)) z = z + szD T pre
  | [], z, _, _ => by simp [szD]
  | x :: pre, z, h0, h => by
    have e : szD T (x :: pre) = (fsD T x.1).length + szD T pre := by unfold szD; simp
    have h1 := szD_nonneg T pre
    rw [e] at h ⊢
    rw [List.foldl_cons, IntWalk.i64_in _ (by omega), zD_from pre _ (by omega) (by omega)]
    omega
theorem zD_small {T : List Cl} {pre : List {x : Nat // x < T.length}} (h : szD T pre ≤ 1000000) : zD T pre = szD T pre := by
  unfold zD
  rw [zD_from pre 0 (by omega) (by omega)]
  omega
theorem szD_le {T : List Cl} {c : Int} {pre : List {x : Nat // x < T.length}} (h : pre.map Subtype.val <+: lineB T T.length c) : szD T pre ≤ (fieldsB T c).length := by
  obtain ⟨r, hr⟩ := h
  have e : (fieldsB T c).length = ((lineB T T.length c).map fun k => (fsD T k).length).sum := by
    unfold fieldsB
    rw [List.length_flatMap, List.map_reverse, List.sum_reverse]
  rw [e, ← hr, List.map_append, List.sum_append, List.map_map]
  unfold szD
  simp only [Function.comp_def]
  omega
theorem szD_all {T : List Cl} {c : Int} {ys : List {x : Nat // x < T.length}} (h : ys.map Subtype.val = lineB T T.length c) : szD T ys = (fieldsB T c).length := by
  unfold fieldsB szD
  rw [List.length_flatMap, List.map_reverse, List.sum_reverse, ← h, List.map_map]
  rfl

set_option maxRecDepth 100000 in
set_option maxHeartbeats 4000000 in
theorem lineSize_any (ao : Option Addr) (cap : Nat) (T : List Cl) (c : Int) (w : World) (hT : TabAt w ao T) (hfit : (fieldsB T c).length ≤ 1000000) :
    Calls Tryd.prog 77 #[.slice ao T.length cap, .int .i64 c] w fun e w' => e = .returned (.int .i64 ((fieldsB T c).length : Int)) ∧ Below w.heap.size w w' := by
  refine (callsIn_wide (n := 3)).1 ?_
  refine callsIn_of_wp_marks Tryd.func77 rfl trivial ?_ rfl
  simp only [Tryd.ntmps77, List.size_toArray, List.length_cons, List.length_nil, Nat.reduceAdd, Nat.reduceSub, Array.replicate_succ, Array.replicate_zero, List.push_toArray, List.append_toArray, List.nil_append, List.cons_append]
  gi_wp2
  refine ⟨trivial, ?_⟩
  refine (lineMake_in _ _ _ _ _ _).mono ?_
  rintro e w' ⟨rfl, rfl⟩
  gi_wp2
  have c0 := cellNew w (.slice ao T.length cap) 22
  have c1 := cellNew (w.alloc (.cells #[.slice ao T.length cap] 22)) (.int .i64 0) 3
  have c2 := cellNew ((w.alloc (.cells #[.slice ao T.length cap] 22)).alloc (.cells #[.int .i64 0] 3)) (.slice ao T.length cap) 22
  have c3 := cellNew (((w.alloc (.cells #[.slice ao T.length cap] 22)).alloc (.cells #[.int .i64 0] 3)).alloc (.cells #[.slice ao T.length cap] 22)) (.int .i64 c) 3
  simp only [World.size_alloc] at c1 c2 c3
  have hB0 : Below w.heap.size w ((((w.alloc (.cells #[.slice ao T.length cap] 22)).alloc (.cells #[.int .i64 0] 3)).alloc (.cells #[.slice ao T.length cap] 22)).alloc (.cells #[.int .i64 c] 3)) := ((((Below.refl _ w).alloc (Nat.le_refl _) _).alloc (by simp) _).alloc (by simp; omega) _).alloc (by simp; omega) _
  have h1 : 1 ≤ 3 := by omega
  refine wpIn_rangeFunc_ownF rfl h1 (gf := 60) (lb := #[.pointer (some ⟨w.heap.size + 1 + 1 + 1, 0, none⟩), .pointer (some ⟨w.heap.size + 1 + 1, 0, none⟩)]) rfl trivial (enters_of Tryd.func60 (by kernel_rfl) rfl)
    (line_stopsF (3 - 1) (by omega) (w.heap.size + 1 + 1 + 1) (w.heap.size + 1 + 1) ao cap T c w _ hT hB0 c3.1 (cellAlloc _ c2.1)) keepsL_t (keepsL_b (by simp; omega) (by simp)) (Below.refl _ _) (fun _ => rfl)
    (fun pre W => (W.cell? ⟨w.heap.size, 0, none⟩ = some (.slice ao T.length cap) ∧ W.cell? ⟨w.heap.size + 1, 0, none⟩ = some (.int .i64 (zD T pre)) ∧ W.frozen? ⟨w.heap.size + 1, 0, none⟩ = false ∧ W.cell? ⟨w.heap.size + 1 + 1, 0, none⟩ = some (.slice ao T.length cap)) ∧ Below w.heap.size w W)
    (fun _ _ _ => False)
    (OwnFrom.and (Own.from (fun s A B row hs hg hr => ⟨cell_kept hs.1 hg hr, cell_kept hs.2.1 hg hr, (frozen_kept hs.2.1 hg hr).trans hs.2.2.1, cell_kept hs.2.2.2 hg hr⟩) _) (ownFrom_below (Nat.le_refl _) (by simp; omega)))
    (fun _ _ _ _ _ hs _ _ => hs)
    ⟨⟨cellAlloc _ (cellAlloc _ (cellAlloc _ c0.1)), cellAlloc _ (cellAlloc _ c1.1), frozenAlloc _ (cellAlloc _ c1.1) (frozenAlloc _ c1.1 c1.2), cellAlloc _ c2.1⟩, hB0⟩
    (fun x => { tmps := #[.slice ao T.length cap, .int .i64 c, .pointer (some ⟨w.heap.size, 0, none⟩), undef, .int .i64 0, .pointer (some ⟨w.heap.size + 1, 0, none⟩), .int .i64 (x.1 : Int), .slice ao T.length cap, .int .i64 c, .func (.func 60) #[] #[.pointer (some ⟨w.heap.size + 1 + 1 + 1, 0, none⟩), .pointer (some ⟨w.heap.size + 1 + 1, 0, none⟩)], .int .i64 (x.1 : Int), undef, undef, undef, undef, undef, undef, undef, undef, undef], defers := [] }) ?assign ?body ?done ?stop
  case assign =>
    intro l x W K hK
    gi_wp2
    exact hK
  case body =>
    rintro l pre x W ⟨⟨hcl, hcn, hfn, hc3⟩, hB⟩ hlen
    obtain ⟨b, off, rfl, hx⟩ := (hT.below hB) x.1 _ (List.getElem?_eq_getElem x.2)
    have d2 := hx.c2
    have HFD := hide (fsD_at (List.getElem?_eq_getElem x.2))
    have i2 : ((x.1 : Nat) : Int) < ((T.length : Nat) : Int) := by have := x.2; omega
    have hbl : w.heap.size + 1 + 1 < W.heap.size := World.block_lt_of_cell? W _ hc3
    obtain ⟨z, HZ⟩ : ∃ z, Hid (zD T pre = z) := ⟨_, hide rfl⟩
    rw [unhide HZ] at hcn
    gi_wp2
    apply wpIn_relB (fun W' => W' = W.drew.setCell ⟨w.heap.size + 1, 0, none⟩ (.int .i64 (IntKind.wrap .i64 (z + T[x.1].fs.length))))
    case h =>
      gi_region_with (fail)
      all_goals exact ⟨rfl, rfl⟩
    rintro W8 rfl
    have hs1 : W.drew.cell? ⟨w.heap.size + 1, 0, none⟩ = some (.int .i64 z) := hcn
    have HN : Hid (zD T (pre ++ [x]) = IntKind.wrap .i64 (z + (T[x.1].fs.length : Int))) := hide (by rw [zD_snoc, unhide HZ, unhide HFD])
    have hot : ∀ k, k ≠ w.heap.size + 1 → (W.drew.setCell ⟨w.heap.size + 1, 0, none⟩ (.int .i64 (IntKind.wrap .i64 (z + (T[x.1].fs.length : Int))))).heap[k]? = W.heap[k]? := fun k hk => Below.heap_setCell W.drew ⟨w.heap.size + 1, 0, none⟩ _ k hk
    gi_wp2
    refine ⟨(KeepsOthers.drew W).trans (KeepsOthers.setCell _ _ _), ⟨((Below.refl _ W).drew).setCell (p := ⟨w.heap.size + 1, 0, none⟩) (by simp) _, hot _ (by omega)⟩, ⟨(World.cell?_of_block (hot w.heap.size (by omega))).trans hcl, ?_, ?_, (World.cell?_of_block (hot (w.heap.size + 1 + 1) (by omega))).trans hc3⟩, (hB.drew).setCell (p := ⟨w.heap.size + 1, 0, none⟩) (by simp) _⟩
    · rw [unhide HN]
      exact World.cell?_setCell_same' _ _ _ (by rw [hs1]; rfl)
    · rw [World.frozen?_setCell]
      exact hfn
  case done =>
    rintro D ys W hD hys ⟨⟨_, hcn, hfn, _⟩, hB⟩ hK
    have HZ := hide ((zD_small (by rw [szD_all hys]; omega)).trans (szD_all hys))
    gi_wp2
    refine ⟨by simp, .inl ⟨_, _, rfl, run_takeDeferred hK, ?_⟩⟩
    exact ⟨_, results_tmp rfl _ _ _, (by rw [← unhide HZ]; rfl), hB.trans (belowK_b (w := w) (Nat.le_refl _) W D _ _ (by simp at hD; omega) hK rfl rfl)⟩
  case stop =>
    rintro D c pre W _ _ h _
    exact h.elim
end Go.Proofs.YtbbfnampjbdnbaaDoor

/-
  The contract of types.checkFields: what the plain function 'scanD' says of the fields above and of a class's own. The own names lie in a map of the call's own. All that lay lies unturned.
-/
namespace Go.Proofs.YtbbfnampjbdnbaaDoor
open Go.RowKit Go.Maps Go.WideMaps
set_option maxRecDepth 20000

theorem lawS : Keyed Tryd.prog 9 := string_keyed Tryd.underlying9
theorem zeroI (w : World) : (zeroValue 3).run Tryd.prog w = .ok (.int .i64 0) w := by kernel_rfl

/-- The map holds the names of these fields and no other. -/
def Taken (D : DataW Unit) (L : List Fl) : Prop := ∀ s : ByteArray, Maps.has D (.string s.data.toList) = hasD L s

theorem taken_nil : Taken (.map []) [] := fun _ => rfl

theorem same_text (x s : ByteArray) : (x.toList == s.toList) = decide (x.data.toList = s.data.toList) := by
  rw [ByteArray.toList_eq, ByteArray.toList_eq]
  by_cases h : x.data.toList = s.data.toList
  · rw [decide_eq_true h, h]; simp
  · rw [decide_eq_false h]; simpa using h

theorem Taken.put {D : DataW Unit} {L : List Fl} (h : Taken D L) (hD : IsMap D) (f : Fl) (d : DataW Unit) : Taken (D.put (.string f.nm.data.toList) d) (L ++ [f]) := fun s => by
  have e : hasD (L ++ [f]) s = (hasD L s || decide (f.nm.data.toList = s.data.toList)) := by
    unfold hasD; rw [List.any_append]; simp [same_text]
  rw [e]
  by_cases h1 : f.nm.data.toList = s.data.toList
  · rw [← h1, has_put_same hD (show WideAt.IsKeyLit (.string f.nm.data.toList) from trivial), decide_eq_true rfl, Bool.or_true]
  · rw [has_put_other (by intro h2; injection h2 with h2; exact h1 h2.symm), h s, decide_eq_false h1, Bool.or_false]

theorem grown_ofB {w w' : World} (h : Below w.heap.size w w') : w.grownBy w' none := ⟨h.os, h.tape, h.output, h.size, fun k hk _ => h.block k hk⟩
theorem run_makeMapN (n : Int) (w : World) : (Instr.makeMap 107 (some (.int .i64 n))).run Tryd.prog w = .ok (.map (some w.heap.size)) (w.alloc (.map #[] 0)) := by
  simp [Instr.makeMap, run_underlying Tryd.underlying107, asInt, asIntOf, Sem.run_bind]

set_option maxHeartbeats 8000000 in
theorem checkFields_any (ao : Option Addr) (cap : Nat) (T : List Cl) (pa : Int) (oa : Option Addr) (oc : Nat) (O : List Fl) (w : World)
    (hT : TabAt w ao T) (hO : FsAt w oa O) (hAl : (fieldsB T pa).length ≤ 1000000) (hOl : O.length * 24 ≤ 140737488351232) :
    Calls Tryd.prog 58 #[.slice ao T.length cap, .int .i64 pa, .slice oa O.length oc] w fun e w' => e = .returned (.int .i64 (scanD T.length (fieldsB T pa) [] O)) ∧ Below w.heap.size w w' := by
  have hmm := run_makeMapN
  have HTb := hide hT
  have HO := hide hO
  have HSZ := hide hAl
  have HLH := hide (fun (s : ByteArray) (W : World) (h : Below w.heap.size w W) => lineHas_any ao cap T pa s W (hT.below h))
  have HLS := hide (fun (W : World) (h : Below w.heap.size w W) => lineSize_any ao cap T pa W (hT.below h) hAl)
  obtain ⟨A, HA⟩ : ∃ A, Hid (fieldsB T pa = A) := ⟨_, hide rfl⟩
  have HFS : Hid (∀ s, lineHasD T pa s = hasD A s) := hide (fun s => by rw [← unhide HA, lineHas_fields])
  rw [unhide HA] at hAl HLS ⊢
  have hOl2 : O.length ≤ 5864062014634 := by omega
  have HS0 : Hid (scanD T.length A [] O = scanD T.length A (O.take 0) (O.drop 0)) := hide rfl
  clear hO hT hOl HSZ
  go_enter Tryd.func58, Tryd.ntmps58
  go_wp2
  all_goals (
    go_loopw [18] (fun i wq => ∃ (j : Nat) (D : DataW Unit), j ≤ O.length ∧ i = .int .i64 (j : Int) ∧ Hid (wq.ownsMap Tryd.prog 9 (plainElem Tryd.prog 3) w.heap.size j D) ∧ Hid (Taken D (O.take j)) ∧ Hid (scanD T.length A [] O = scanD T.length A (O.take j) (O.drop j)) ∧ Hid (Below w.heap.size w wq)) (fun i _ => O.length - (intOf i).toNat)
    case atStart => exact ⟨0, _, by omega, rfl, hide (World.ownsMap_made _ _ _ _), hide taken_nil, HS0, hide ((Below.refl _ _).alloc (Nat.le_refl _) _)⟩
    case round =>
      clear HS0
      obtain ⟨k, D, hk, rfl, HM, HT, HS, HB⟩ := hrel
      by_cases hlt : k < O.length
      · have i1 : ((k : Nat) : Int) < ((O.length : Nat) : Int) := by omega
        obtain ⟨b, off, rfl, hx⟩ := (unhide HO).below (unhide HB) k _ (List.getElem?_eq_getElem hlt)
        have d0 := hx.c0
        have d1 := hx.c1
        have HTK : Hid (O.take (k + 1) = O.take k ++ [O[k]]) := hide (List.take_append_getElem hlt).symm
        have HNM := hide hx.name
        have hty := hx.ty
        have HTY := hide hty
        have HST := hide ((unhide HS).trans (scanD_step T.length A O k hlt))
        clear hx hty HS
        generalize O[k] = f at d0 d1 HTK HNM HTY HST
        have HNS : Hid (f.nm.size ≤ maxLen) := hide (by have := unhide HNM; unfold maxLen; omega)
        have HKEY := hide (keyOf_string_mk (P := Tryd.prog) Tryd.underlying9 (s := f.nm) (unhide HNS))
        have HBa := hide ((unhide HB).alloc (unhide HB).size (.cells #[Value.string f.nm, Value.int IntKind.u8 (f.ty : Int)] 41))
        have HMa := hide ((unhide HM).alloc (.cells #[Value.string f.nm, Value.int IntKind.u8 (f.ty : Int)] 41))
        have hrow := heap_alloc_new wr (.cells #[Value.string f.nm, Value.int IntKind.u8 (f.ty : Int)] 41)
        have HQ0 : Hid ((wr.alloc (.cells #[Value.string f.nm, Value.int IntKind.u8 (f.ty : Int)] 41)).cell? ⟨wr.heap.size, 0, none⟩ = some (.string f.nm)) := hide (by rw [cell_of_row _ _ _ _ _ _ hrow]; rfl)
        have HQ1 : Hid ((wr.alloc (.cells #[Value.string f.nm, Value.int IntKind.u8 (f.ty : Int)] 41)).cell? ⟨wr.heap.size, 1, none⟩ = some (.int .u8 (f.ty : Int))) := hide (by rw [cell_of_row _ _ _ _ _ _ hrow]; rfl)
        clear hrow
        have HWF : Hid ((Lit.int .i64 (k : Int)).wf = true) := hide (WalkArith.wf_i64 (by omega))
        cases hnm : nameB f.nm
        · have HR : Hid (scanD T.length A [] O = 6) := hide (by rw [unhide HST, if_pos hnm])
          have HN := hide hnm
          clear hnm HST
          go_wp2_with fail
          refine (IsName_any f.nm _ (unhide HNS)).mono ?_
          rintro e w2 ⟨rfl, rfl⟩
          rw [unhide HN]
          go_wp2
          go_ret
          exact ⟨ret_int (unhide HR).symm, unhide HBa⟩
        · have HN := hide hnm
          cases hh : hasD (O.take k) f.nm
          · have HH : Hid (Maps.has D (.string f.nm.data.toList) = false) := hide ((unhide HT f.nm).trans hh)
            cases hh2 : hasD A f.nm
            · have HH2 : Hid (lineHasD T pa f.nm = false) := hide ((unhide HFS f.nm).trans hh2)
              cases hst : storedD T.length f.ty
              · have HR : Hid (scanD T.length A [] O = 22) := hide (by rw [unhide HST, if_neg (by rw [hnm]; simp), if_neg (by rw [hh, hh2]; simp), if_pos hst])
                have HSD := hide hst
                clear hnm HST hh hh2 hst
                go_wp2_with fail
                refine (IsName_any f.nm _ (unhide HNS)).mono ?_
                rintro e w2 ⟨rfl, rfl⟩
                rw [unhide HN]
                go_wp2_with (at_lookup; refine wpList_lookup_own_ok_int _ rfl _ _ 107 rfl 9 3 .i64 lawS Tryd.underlying107 Tryd.underlying3 (zeroI _) w.heap.size k D rfl (unhide HMa) _ _ rfl (unhide HKEY) ?_; intro c hat hwc; clear hat hwc; rw [unhide HH])
                refine (unhide HLH f.nm _ (unhide HBa)).mono ?_
                rintro e w3 ⟨rfl, hB3⟩
                rw [unhide HH2]
                have q0 := (hB3.cell (p := ⟨wr.heap.size, 0, none⟩) (by simp)).trans (unhide HQ0)
                have q1 := (hB3.cell (p := ⟨wr.heap.size, 1, none⟩) (by simp)).trans (unhide HQ1)
                have HB3 := hide ((unhide HBa).trans (hB3.mono (unhide HBa).size))
                clear hB3
                go_wp2_with fail
                refine (isStored_any ao T.length cap f.ty _ (unhide HTY)).mono ?_
                rintro e w4 ⟨rfl, rfl⟩
                rw [unhide HSD]
                go_wp2
                go_ret
                exact ⟨ret_int (unhide HR).symm, unhide HB3⟩
              · have HS2 : Hid (scanD T.length A [] O = scanD T.length A (O.take (k + 1)) (O.drop (k + 1))) := hide (by rw [unhide HST, if_neg (by rw [hnm]; simp), if_neg (by rw [hh, hh2]; simp), if_neg (by rw [hst]; simp)])
                have HSD := hide hst
                clear hnm HST hh hh2 hst
                go_wp2_with fail
                refine (IsName_any f.nm _ (unhide HNS)).mono ?_
                rintro e w2 ⟨rfl, rfl⟩
                rw [unhide HN]
                go_wp2_with (at_lookup; refine wpList_lookup_own_ok_int _ rfl _ _ 107 rfl 9 3 .i64 lawS Tryd.underlying107 Tryd.underlying3 (zeroI _) w.heap.size k D rfl (unhide HMa) _ _ rfl (unhide HKEY) ?_; intro c hat hwc; clear hat hwc; rw [unhide HH])
                refine (unhide HLH f.nm _ (unhide HBa)).mono ?_
                rintro e w3 ⟨rfl, hB3⟩
                rw [unhide HH2]
                have q0 := (hB3.cell (p := ⟨wr.heap.size, 0, none⟩) (by simp)).trans (unhide HQ0)
                have q1 := (hB3.cell (p := ⟨wr.heap.size, 1, none⟩) (by simp)).trans (unhide HQ1)
                have HB3 := hide ((unhide HBa).trans (hB3.mono (unhide HBa).size))
                have HM3 := hide (World.ownsMap.kept (unhide HMa) (grown_ofB hB3) (by simp))
                clear hB3
                go_wp2_with fail
                refine (isStored_any ao T.length cap f.ty _ (unhide HTY)).mono ?_
                rintro e w4 ⟨rfl, rfl⟩
                rw [unhide HSD]
                go_wp2_with (at_mapUpdate; refine wpList_mapUpdate_own _ rfl _ _ _ 107 rfl 9 3 lawS Tryd.underlying107 _ w.heap.size k D rfl (unhide HM3) (by unfold maxLen; omega) _ _ _ rfl rfl (unhide HKEY) _ [] (plainElem_int Tryd.underlying3 (unhide HWF)) ?_; intro w1 hown1 hgrow1)
                have HM1 := hide hown1
                have HT1 := hide ((unhide HT).put (unhide HM).isMap f (.lit (.int .i64 (k : Int))))
                rw [← unhide HTK] at HT1
                have HB1 := hide ((unhide HB3).grown hgrow1 (unhide HB3).size (fun j hj => by cases hj; exact Nat.le_refl _))
                clear hown1 hgrow1
                go_roundw
                case rel => exact ⟨k + 1, _, by omega, by go_num, HM1, HT1, HS2, HB1⟩
                case measure => simp [intOf]; omega
            · have HH2 : Hid (lineHasD T pa f.nm = true) := hide ((unhide HFS f.nm).trans hh2)
              have HR : Hid (scanD T.length A [] O = 20) := hide (by rw [unhide HST, if_neg (by rw [hnm]; simp), if_pos (by rw [hh2]; simp)])
              clear hnm HST hh hh2
              go_wp2_with fail
              refine (IsName_any f.nm _ (unhide HNS)).mono ?_
              rintro e w2 ⟨rfl, rfl⟩
              rw [unhide HN]
              go_wp2_with (at_lookup; refine wpList_lookup_own_ok_int _ rfl _ _ 107 rfl 9 3 .i64 lawS Tryd.underlying107 Tryd.underlying3 (zeroI _) w.heap.size k D rfl (unhide HMa) _ _ rfl (unhide HKEY) ?_; intro c hat hwc; clear hat hwc; rw [unhide HH])
              refine (unhide HLH f.nm _ (unhide HBa)).mono ?_
              rintro e w3 ⟨rfl, hB3⟩
              rw [unhide HH2]
              have HB3 := hide ((unhide HBa).trans (hB3.mono (unhide HBa).size))
              clear hB3
              go_wp2
              go_ret
              exact ⟨ret_int (unhide HR).symm, unhide HB3⟩
          · have HH : Hid (Maps.has D (.string f.nm.data.toList) = true) := hide ((unhide HT f.nm).trans hh)
            have HR : Hid (scanD T.length A [] O = 20) := hide (by rw [unhide HST, if_neg (by rw [hnm]; simp), if_pos (by rw [hh]; simp)])
            clear hnm HST hh
            go_wp2_with fail
            refine (IsName_any f.nm _ (unhide HNS)).mono ?_
            rintro e w2 ⟨rfl, rfl⟩
            rw [unhide HN]
            go_wp2_with (at_lookup; refine wpList_lookup_own_ok_int _ rfl _ _ 107 rfl 9 3 .i64 lawS Tryd.underlying107 Tryd.underlying3 (zeroI _) w.heap.size k D rfl (unhide HMa) _ _ rfl (unhide HKEY) ?_; intro c hat hwc; clear hat hwc; rw [unhide HH])
            go_ret
            exact ⟨ret_int (unhide HR).symm, unhide HBa⟩
      · have i1 : ¬ ((k : Nat) : Int) < ((O.length : Nat) : Int) := by omega
        obtain rfl : k = O.length := by omega
        rw [List.take_length, List.drop_length] at HS
        by_cases hl : 32 < A.length + O.length
        · have i2 : (O.length : Int) > 32 - (A.length : Int) := by omega
          have HR : Hid (scanD T.length A [] O = 4) := hide (by rw [unhide HS, scanD, if_pos (by omega)])
          go_wp2_with fail
          refine (unhide HLS _ (unhide HB)).mono ?_
          rintro e w3 ⟨rfl, hB3⟩
          have HB3 := hide ((unhide HB).trans (hB3.mono (unhide HB).size))
          clear hB3
          go_wp2
          go_ret
          exact ⟨ret_int (unhide HR).symm, unhide HB3⟩
        · have i2 : ¬ (O.length : Int) > 32 - (A.length : Int) := by omega
          have HR : Hid (scanD T.length A [] O = 0) := hide (by rw [unhide HS, scanD, if_neg (by omega)])
          go_wp2_with fail
          refine (unhide HLS _ (unhide HB)).mono ?_
          rintro e w3 ⟨rfl, hB3⟩
          have HB3 := hide ((unhide HB).trans (hB3.mono (unhide HB).size))
          clear hB3
          go_wp2
          all_goals go_ret
          all_goals exact ⟨ret_int (unhide HR).symm, unhide HB3⟩)
end Go.Proofs.YtbbfnampjbdnbaaDoor

/-
  The contract of types.checkClass, where the classes ahead are right: the fault of a class ('faultD'). All that lay lies unturned.
-/
namespace Go.Proofs.YtbbfnampjbdnbaaDoor
open Go.RowKit
set_option maxRecDepth 20000

theorem lineB_step2 {T : List Cl} {n : Nat} (hn : ∀ k, k < n → parD T k < (k : Int)) {c : Nat} (hc : c < n) (hl : c < T.length) : lineB T T.length (c : Int) = c :: lineB T T.length (parD T c) := by
  rw [lineB_in hl]
  congr 1
  have := hn c hc
  exact lineB_bel this (by omega)
theorem line_same2 {T : List Cl} {n : Nat} (hp : ∀ k, k < n → parD T k < (k : Int)) (hl : n ≤ T.length) : ∀ (m : Nat) (c : Int), c < (n : Int) → c.toNat ≤ m → lineD T c = lineB T T.length c := by
  intro m
  induction m with
  | zero =>
    intro c hc hn
    by_cases h0 : 0 ≤ c
    · obtain ⟨k, rfl⟩ : ∃ k : Nat, c = (k : Int) := ⟨c.toNat, by omega⟩
      have := hp k (by omega)
      rw [lineD_step hp (by omega) (by omega), lineB_step2 hp (by omega) (by omega)]
      congr 1
      unfold lineD
      rw [lineR_out _ (by omega), lineB_out (by omega)]
    · unfold lineD
      rw [lineR_out _ (by omega), lineB_out (by omega)]
  | succ m ih =>
    intro c hc hn
    by_cases h0 : 0 ≤ c
    · obtain ⟨k, rfl⟩ : ∃ k : Nat, c = (k : Int) := ⟨c.toNat, by omega⟩
      have := hp k (by omega)
      rw [lineD_step hp (by omega) (by omega), lineB_step2 hp (by omega) (by omega), ih _ (by omega) (by omega)]
    · unfold lineD
      rw [lineR_out _ (by omega), lineB_out (by omega)]
theorem fields_same2 {T : List Cl} {n : Nat} (hl : n ≤ T.length) (h : ∀ k, k < n → faultD T k = 0) {c : Int} (hc : c < (n : Int)) : fieldsD T c = fieldsB T c := by
  unfold fieldsD fieldsB
  rw [line_same2 (prev_par hl h) hl _ c hc (Nat.le_refl _)]

set_option maxHeartbeats 4000000 in
theorem checkClass_any (ao : Option Addr) (cap : Nat) (T : List Cl) (c : Nat) (x : Cl) (w : World) (h : TabAt w ao T) (hcap : T.length ≤ cap) (hW : WordsAt w) (hT : T.length * 48 ≤ 140737488351232) (hx : T[c]? = some x) (hprev : ∀ k, k < c → faultD T k = 0) :
    Calls Tryd.prog 37 #[.slice ao T.length cap, .int .i64 (c : Int)] w fun e w' => e = .returned (.int .i64 (faultD T c)) ∧ Below w.heap.size w w' := by
  have hc := (List.getElem?_eq_some_iff.1 hx).1
  have HFS := hide (fun p (hp : p < (c : Int)) => fields_same2 (Nat.le_of_lt hc) hprev hp)
  have HFL := hide (fieldsD_le (Nat.le_of_lt hc) hprev)
  obtain ⟨b, off, rfl, hcl⟩ := h c x hx
  have c0 := hcl.c0
  have c1 := hcl.c1
  have c2 := hcl.c2
  have hblt := World.block_lt_of_cell? w _ c0
  have HT := hide hT
  have H := hide h
  have HX := hide hx
  have HW := hide hW
  have i1 : ((c : Nat) : Int) < ((T.length : Nat) : Int) := by omega
  have hTl : T.length ≤ 4000000000000 := by omega
  have HCL := hide hcl
  have HNS : Hid (x.nm.size ≤ maxLen) := hide (by have := hcl.name; unfold maxLen; omega)
  clear hcl h hT hx hprev hW
  by_cases h32 : 32 ≤ c
  · have j1 : ((c : Nat) : Int) ≥ 32 := by omega
    have HR : Hid (faultD T c = 4) := hide (by unfold faultD; rw [unhide HX]; simp only; rw [if_pos h32])
    go_enter Tryd.func37, Tryd.ntmps37
    go_wp2
    go_quiet (fail)
    go_wp2
    go_ret
    exact ⟨ret_int (unhide HR).symm, belowD (Below.refl _ _) _⟩
  · have j1 : ¬ ((c : Nat) : Int) ≥ 32 := by omega
    have icap : ((c : Nat) : Int) ≤ ((cap : Nat) : Int) := by omega
    cases hnm : nameB x.nm
    · have HR := hide (faultD_6 (unhide HX) h32 (by rw [hnm]; rfl))
      have HN := hide hnm
      clear hnm
      go_enter Tryd.func37, Tryd.ntmps37
      go_wp2
      go_quiet (fail)
      go_wp2_with fail
      refine (IsName_any x.nm _ (unhide HNS)).mono ?_
      rintro e w2 ⟨rfl, rfl⟩
      rw [unhide HN]
      go_wp2
      go_ret
      exact ⟨ret_int (unhide HR).symm, belowD (Below.refl _ _) _⟩
    · have HN := hide hnm
      cases hwd : isWordD x.nm
      · have HWD := hide hwd
        have HN6 : Hid (¬ (!nameB x.nm || isWordD x.nm) = true) := hide (by rw [hnm, hwd]; simp)
        clear hnm hwd
        cases htw : twiceD T c x.nm
        · have HTW := hide htw
          have HT20 : Hid (¬ twiceD T c x.nm = true) := hide (by rw [htw]; simp)
          clear htw
          by_cases hp1 : x.par < -1
          · have HR := hide (faultD_21 (unhide HX) h32 (unhide HN6) (unhide HT20) (Or.inl hp1))
            go_enter Tryd.func37, Tryd.ntmps37
            go_wp2
            go_quiet (fail)
            go_wp2_with fail
            refine (IsName_any x.nm _ (unhide HNS)).mono ?_
            rintro e w2 ⟨rfl, rfl⟩
            rw [unhide HN]
            go_wp2_with fail
            refine (typesWord_any x.nm _ ((unhide HW).below (below_drew w _))).mono ?_
            rintro e w3 ⟨rfl, rfl⟩
            rw [unhide HWD]
            go_wp2_with fail
            refine (hasName_any (some ⟨b, off, none⟩) cap T c x.nm _ ((unhide H).below (below_drew w _)) (by omega) (unhide HT)).mono ?_
            rintro e w4 ⟨rfl, hB4⟩
            rw [unhide HTW]
            have HB4 : Hid (Below w.heap.size w w4) := hide ((below_drew w _).trans hB4)
            clear hB4
            go_wp2
            go_ret
            exact ⟨ret_int (unhide HR).symm, unhide HB4⟩
          · by_cases hp2 : (c : Int) ≤ x.par
            · have HR := hide (faultD_21 (unhide HX) h32 (unhide HN6) (unhide HT20) (Or.inr hp2))
              have hp2' : x.par ≥ (c : Int) := hp2
              go_enter Tryd.func37, Tryd.ntmps37
              go_wp2
              go_quiet (fail)
              go_wp2_with fail
              refine (IsName_any x.nm _ (unhide HNS)).mono ?_
              rintro e w2 ⟨rfl, rfl⟩
              rw [unhide HN]
              go_wp2_with fail
              refine (typesWord_any x.nm _ ((unhide HW).below (below_drew w _))).mono ?_
              rintro e w3 ⟨rfl, rfl⟩
              rw [unhide HWD]
              go_wp2_with fail
              refine (hasName_any (some ⟨b, off, none⟩) cap T c x.nm _ ((unhide H).below (below_drew w _)) (by omega) (unhide HT)).mono ?_
              rintro e w4 ⟨rfl, hB4⟩
              rw [unhide HTW]
              have HB4 : Hid (Below w.heap.size w w4) := hide ((below_drew w _).trans hB4)
              clear hB4
              go_wp2
              go_ret
              exact ⟨ret_int (unhide HR).symm, unhide HB4⟩
            · have HR := hide (faultD_scan (unhide HX) h32 (unhide HN6) (unhide HT20) (fun h => h.elim hp1 hp2))
              rw [unhide HFS x.par (by omega)] at HR
              have HFIT := hide (unhide HFL x.par (by omega))
              rw [unhide HFS x.par (by omega)] at HFIT
              have hp2' : ¬ x.par ≥ (c : Int) := hp2
              go_enter Tryd.func37, Tryd.ntmps37
              go_wp2
              go_quiet (fail)
              go_wp2_with fail
              refine (IsName_any x.nm _ (unhide HNS)).mono ?_
              rintro e w2 ⟨rfl, rfl⟩
              rw [unhide HN]
              go_wp2_with fail
              refine (typesWord_any x.nm _ ((unhide HW).below (below_drew w _))).mono ?_
              rintro e w3 ⟨rfl, rfl⟩
              rw [unhide HWD]
              go_wp2_with fail
              refine (hasName_any (some ⟨b, off, none⟩) cap T c x.nm _ ((unhide H).below (below_drew w _)) (by omega) (unhide HT)).mono ?_
              rintro e w4 ⟨rfl, hB4⟩
              rw [unhide HTW]
              have HB4 : Hid (Below w.heap.size w w4) := hide ((below_drew w _).trans hB4)
              clear hB4
              have c24 : w4.cell? ⟨b, off + c * 3 + 2, none⟩ = some (.slice x.fo x.fs.length x.fc) := ((unhide HB4).cell (p := ⟨b, off + c * 3 + 2, none⟩) hblt).trans c2
              have H4 := hide ((unhide H).below (unhide HB4))
              have HFO := hide ((unhide HCL).flds.below (unhide HB4))
              have HFF := hide (unhide HCL).fit
              have HCF := hide (fun (W : World) (h : Below w4.heap.size w4 W) => checkFields_any (some ⟨b, off, none⟩) cap T x.par x.fo x.fc x.fs W ((unhide H4).below h) ((unhide HFO).below h) (by have := unhide HFIT; omega) (unhide HFF))
              have HBD : Hid (Below w4.heap.size w4 w4.drew) := hide ⟨rfl, rfl, rfl, Nat.le_refl _, fun _ _ => rfl⟩
              go_wp2_with fail
              refine (unhide HCF _ (Below.refl _ _)).mono ?_
              rintro e w6 ⟨rfl, hB6⟩
              have HB6 : Hid (Below w.heap.size w w6) := hide ((unhide HB4).trans (hB6.mono (unhide HB4).size))
              clear hB6
              all_goals go_wp2
              all_goals go_ret
              all_goals exact ⟨ret_int (unhide HR).symm, unhide HB6⟩
        · have HTW := hide htw
          have HR := hide (faultD_20 (unhide HX) h32 (unhide HN6) htw)
          clear htw
          go_enter Tryd.func37, Tryd.ntmps37
          go_wp2
          go_quiet (fail)
          go_wp2_with fail
          refine (IsName_any x.nm _ (unhide HNS)).mono ?_
          rintro e w2 ⟨rfl, rfl⟩
          rw [unhide HN]
          go_wp2_with fail
          refine (typesWord_any x.nm _ ((unhide HW).below (below_drew w _))).mono ?_
          rintro e w3 ⟨rfl, rfl⟩
          rw [unhide HWD]
          go_wp2_with fail
          refine (hasName_any (some ⟨b, off, none⟩) cap T c x.nm _ ((unhide H).below (below_drew w _)) (by omega) (unhide HT)).mono ?_
          rintro e w4 ⟨rfl, hB4⟩
          rw [unhide HTW]
          have HB4 : Hid (Below w.heap.size w w4) := hide ((below_drew w _).trans hB4)
          clear hB4
          go_wp2
          go_ret
          exact ⟨ret_int (unhide HR).symm, unhide HB4⟩
      · have HWD := hide hwd
        have HR := hide (faultD_6 (unhide HX) h32 (by rw [hwd]; simp))
        clear hnm hwd
        go_enter Tryd.func37, Tryd.ntmps37
        go_wp2
        go_quiet (fail)
        go_wp2_with fail
        refine (IsName_any x.nm _ (unhide HNS)).mono ?_
        rintro e w2 ⟨rfl, rfl⟩
        rw [unhide HN]
        go_wp2_with fail
        refine (typesWord_any x.nm _ ((unhide HW).below (below_drew w _))).mono ?_
        rintro e w3 ⟨rfl, rfl⟩
        rw [unhide HWD]
        go_wp2
        go_ret
        exact ⟨ret_int (unhide HR).symm, belowD (Below.refl _ _) _⟩
end Go.Proofs.YtbbfnampjbdnbaaDoor

/-
  The contract of types.Check: the first class at fault, or none. All that lay lies unturned.
-/
namespace Go.Proofs.YtbbfnampjbdnbaaDoor
open Go.RowKit
set_option maxRecDepth 20000

set_option maxHeartbeats 2000000 in
theorem Check_any (ao : Option Addr) (cap : Nat) (T : List Cl) (w : World) (h : TabAt w ao T) (hcap : T.length ≤ cap) (hW : WordsAt w) (hT : T.length * 48 ≤ 140737488351232) :
    Calls Tryd.prog 11 #[.slice ao T.length cap] w fun e w' => (∃ (n : Nat) (er : Int), e = .returned (.tuple #[.int .i64 (n : Int), .int .i64 er]) ∧ ((n = 0 ∧ er = 0 ∧ madeD T = true) ∨ IsFirst T n er)) ∧ Below w.heap.size w w' := by
  have H := hide h
  have HW := hide hW
  have HT := hide hT
  have hT2 : T.length < 9223372036854775800 := by omega
  clear h hT hW
  go_enter Tryd.func11, Tryd.ntmps11
  go_wp2
  go_loopw [8] (fun i wr => ∃ k : Nat, k ≤ T.length ∧ i = .int .i64 (k : Int) ∧ Hid (∀ j, j < k → faultD T j = 0) ∧ Hid (Below w.heap.size w wr)) (fun i _ => T.length - (intOf i).toNat)
  case atStart => exact ⟨0, by omega, rfl, hide (fun j h => by omega), hide (Below.refl _ _)⟩
  case round =>
    obtain ⟨k, hk, rfl, HK, HB⟩ := hrel
    by_cases hlt : k < T.length
    · have i1 : ((k : Nat) : Int) < ((T.length : Nat) : Int) := by omega
      go_wp2_with fail
      refine (checkClass_any ao cap T k _ _ ((unhide H).below (unhide HB)) hcap ((unhide HW).below (unhide HB)) (unhide HT) (List.getElem?_eq_getElem hlt) (unhide HK)).mono ?_
      rintro e w2 ⟨rfl, hB2⟩
      have HB2 := hide ((unhide HB).trans (hB2.mono (unhide HB).size))
      obtain ⟨er, HE⟩ : ∃ er, Hid (faultD T k = er) := ⟨_, hide rfl⟩
      rw [unhide HE]
      clear hB2 HB
      by_cases h0 : er = 0
      · have h0' := bne_f h0
        have HK2 : Hid (∀ j, j < k + 1 → faultD T j = 0) := hide (fun j hj => by
          by_cases e : j = k
          · rw [e, unhide HE]; exact h0
          · exact unhide HK j (by omega))
        clear h0 HK HE
        go_wp2
        go_roundw
        case rel => exact ⟨k + 1, by omega, by go_num, HK2, HB2⟩
        case measure => simp [intOf]; omega
      · have h0' := bne_t h0
        have HF : Hid (IsFirst T k er) := hide ⟨unhide HK, hlt, h0, unhide HE⟩
        clear h0 HK HE
        go_wp2
        go_ret2
        exact ⟨⟨k, er, rfl, .inr (unhide HF)⟩, unhide HB2⟩
    · have i1 : ¬ ((k : Nat) : Int) < ((T.length : Nat) : Int) := by omega
      have HM : Hid (madeD T = true) := hide (madeD_yes (fun j hj => unhide HK j (by omega)))
      go_wp2
      go_ret2
      exact ⟨⟨0, 0, rfl, .inl ⟨rfl, rfl, unhide HM⟩⟩, unhide HB⟩
end Go.Proofs.YtbbfnampjbdnbaaDoor

/-
  provisoplain.Classes once more, with the copy's room; and that a table and its copy have the same faults.
-/
namespace Go.Proofs.YtbbfnampjbdnbaaDoor
open Go.RowKit
set_option maxRecDepth 20000

theorem own_cap {w : World} {base : Nat} {v : Value} {G : List Cl} {ga : Option Addr} {gc : Nat} (hO : OwnC w base v G) (e : v = .slice ga G.length gc) : G.length ≤ gc := by
  rcases hO.2 with ⟨h1, h2⟩ | ⟨g, cap, cur, rfl, hb, hh, hn, hm, hsz, ht⟩
  · omega
  · injection e with _ _ e2
    omega

set_option maxHeartbeats 2000000 in
theorem Classes_cap (ao : Option Addr) (cap : Nat) (T : List Cl) (w : World) (h : TabAt w ao T) (hz : T.length * 48 ≤ 140737488351232) :
    Calls Tryd.prog 4 #[.slice ao T.length cap] w fun e w' => ∃ ga gc G, e = .returned (.slice ga (G : List Cl).length gc) ∧ TabAt w' ga G ∧ SameT T G ∧ Below w.heap.size w w' ∧ G.length ≤ gc := by
  obtain ⟨i0, hi, hz0, hz1, hz2⟩ := info_parts infoC
  have H := hide h
  have HZ := hide hz
  have hT2 : T.length < 9223372036854775000 := by omega
  clear h hz
  go_enter Tryd.func4, Tryd.ntmps4
  go_wp2
  go_loopw [3, 8] (fun v i wr => ∃ (k : Nat) (G : List Cl), k ≤ T.length ∧ i = .int .i64 (k : Int) ∧ Hid (G.length = k) ∧ Hid (OwnC wr w.heap.size v G) ∧ Hid (∀ (i : Nat) x y, T[i]? = some x → G[i]? = some y → CopyC wr w.heap.size x y) ∧ Hid (Below w.heap.size w wr)) (fun _ i _ => T.length - (intOf i).toNat)
  case atStart => exact ⟨0, [], by omega, rfl, hide rfl, hide (World.ownsRow_nil _ _ _ _), hide (fun i x y _ hy => by simp at hy), hide (Below.refl _ _)⟩
  case round =>
    obtain ⟨k, G, hk, rfl, HL, HO, HC, HB⟩ := hrel
    by_cases hlt : k < T.length
    · have i1 : ((k : Nat) : Int) < ((T.length : Nat) : Int) := by omega
      have hx := List.getElem?_eq_getElem hlt
      obtain ⟨b, off, rfl, hxa⟩ := (unhide H).below (unhide HB) k _ hx
      have c0 := hxa.c0
      have c1 := hxa.c1
      have c2 := hxa.c2
      have HX := hide hx
      have HXA := hide hxa
      generalize T[k] = x at HX HXA c0 c1 c2
      clear hx hxa
      go_wp2_with fail
      obtain ⟨FB, HFB⟩ : ∃ FB, Hid (wr.heap.size = FB) := ⟨_, hide rfl⟩
      obtain ⟨wa, HWa⟩ : ∃ wa, Hid (wr.alloc (Obj.cells #[Value.string x.nm, Value.int IntKind.i64 x.par, Value.slice x.fo x.fs.length x.fc] 38) = wa) := ⟨_, hide rfl⟩
      have hBa : Below wr.heap.size wr wa := by rw [← unhide HWa]; exact (Below.refl _ _).alloc (Nat.le_refl _) _
      have hrow : wa.heap[FB]? = some (.cells #[Value.string x.nm, Value.int IntKind.i64 x.par, Value.slice x.fo x.fs.length x.fc] 38) := by rw [← unhide HWa, ← unhide HFB]; exact heap_alloc_new wr _
      rw [unhide HWa, unhide HFB]
      have hfb : FB < wa.heap.size := (Array.getElem?_eq_some_iff.1 hrow).1
      clear c0 c1 c2 HWa
      refine (cloneF_any x.fo x.fc x.fs _ ((unhide HXA).flds.below hBa) (fun e => ((unhide HXA).nil e).1) (unhide HXA).fit).mono ?_
      rintro e wb ⟨v1, rfl, hO1, hBb⟩
      have hrowb : wb.heap[FB]? = some (.cells #[Value.string x.nm, Value.int IntKind.i64 x.par, Value.slice x.fo x.fs.length x.fc] 38) := (hBb.block FB hfb).trans hrow
      have hok : ∀ f ∈ x.fs, FlOk f := fun f hf => by
        obtain ⟨j, hj, rfl⟩ := List.getElem_of_mem hf
        obtain ⟨_, _, _, hfl⟩ := (unhide HXA).flds j _ (List.getElem?_eq_getElem hj)
        exact ⟨hfl.name, hfl.ty⟩
      obtain ⟨fa, fc', rfl, _, _, _⟩ := hO1.at hok
      have b0 : wb.cell? ⟨FB, 0, none⟩ = some (.string x.nm) := by rw [cell_of_row _ _ _ _ _ _ hrowb]; rfl
      have b1 : wb.cell? ⟨FB, 1, none⟩ = some (.int .i64 x.par) := by rw [cell_of_row _ _ _ _ _ _ hrowb]; rfl
      have b2 : wb.cell? ⟨FB, 2, none⟩ = some (.slice x.fo x.fs.length x.fc) := by rw [cell_of_row _ _ _ _ _ _ hrowb]; rfl
      have bf : wb.frozen? ⟨FB, 2, none⟩ = false := frozen_of_row _ _ _ _ _ hrowb
      have hBb' : Below wr.heap.size wr wb := hBa.trans (hBb.mono hBa.size)
      have hBc : Below wr.heap.size wr (wb.setCell ⟨FB, 2, none⟩ (.slice fa x.fs.length fc')) := hBb'.setCell (p := ⟨FB, 2, none⟩) (by rw [unhide HFB]; exact Nat.le_refl _) _
      have hOc : OwnF (wb.setCell ⟨FB, 2, none⟩ (.slice fa x.fs.length fc')) w.heap.size (.slice fa x.fs.length fc') x.fs := by
        refine rowMono (World.ownsRow.kept hO1 (grownBy_set wb FB 2 _) ?_) (Nat.le_trans (unhide HB).size hBa.size)
        cases hb : (Value.slice fa x.fs.length fc').ownBlock with
        | none => exact .inl rfl
        | some q =>
          right
          intro e
          injection e with e
          have := (World.ownsRow.lt hO1 q hb).1
          omega
      have hsz : (wb.setCell ⟨FB, 2, none⟩ (.slice fa x.fs.length fc')).heap.size = wb.heap.size := by simp [World.setCell]
      have hsrc := ccells_at (wb.setCell ⟨FB, 2, none⟩ (.slice fa x.fs.length fc')) ⟨x.nm, x.par, fa, fc', x.fs⟩ 38
      rw [hsz] at hsrc
      have HSr := hide hsrc
      have hBd : Below wr.heap.size wr ((wb.setCell ⟨FB, 2, none⟩ (.slice fa x.fs.length fc')).alloc (.cells #[.string x.nm, .int .i64 x.par, .slice fa x.fs.length fc'] 38)) := hBc.alloc hBc.size _
      have HBd := hide hBd
      have HOd : Hid (OwnC ((wb.setCell ⟨FB, 2, none⟩ (.slice fa x.fs.length fc')).alloc (.cells #[.string x.nm, .int .i64 x.par, .slice fa x.fs.length fc'] 38)) w.heap.size _ G) := hide (rowBelow (unhide HO) hBd)
      have HOf : Hid (OwnF ((wb.setCell ⟨FB, 2, none⟩ (.slice fa x.fs.length fc')).alloc (.cells #[.string x.nm, .int .i64 x.par, .slice fa x.fs.length fc'] 38)) w.heap.size (.slice fa x.fs.length fc') x.fs) := hide (World.ownsRow.alloc hOc _)
      have hbase : w.heap.size ≤ (wb.setCell ⟨FB, 2, none⟩ (.slice fa x.fs.length fc')).heap.size := Nat.le_trans (unhide HB).size hBc.size
      have hgk := unhide HL
      have hkz := unhide HZ
      have HGk : Hid (G.length + 1 ≤ maxLen ∧ (G.length + 1) * 48 ≤ 140737488355328) := hide (by unfold maxLen; omega)
      clear hBa hBb hBb' hBc hOc hrow hrowb hO1 hsz hfb hsrc hBd hgk hkz
      go_wp2_with (at_builtin; refine wpList_append_own _ rfl _ _ 22 rfl w.heap.size 38 i0 (.agg #[.string ⟨#[]⟩, .int .i64 0, .slice none 0 0]) 3 48 Tryd.underlying22 hi hz0 hz1 hz2 rfl (by decide) _ G.length (cvals G) rfl (unhide HOd) ⟨wb.heap.size, 0, none⟩ 1 1 (ccells ⟨x.nm, x.par, fa, fc', x.fs⟩) rfl rfl (unhide HSr) (ccells_one _) (unhide HGk).1 (unhide HGk).2 ?a5 ?_)
      case a5 => rw [World.size_alloc]; omega
      intro v' w2 hO' hG' _
      have HO2 : Hid (OwnC w2 w.heap.size v' (G ++ [⟨x.nm, x.par, fa, fc', x.fs⟩])) := hide (by unfold OwnC; rw [cvals_snoc, List.length_append]; exact hO')
      have HL2 : Hid ((G ++ [(⟨x.nm, x.par, fa, fc', x.fs⟩ : Cl)]).length = k + 1) := hide (by rw [List.length_append, unhide HL]; rfl)
      have HC2 : Hid (∀ (i : Nat) x' y', T[i]? = some x' → (G ++ [(⟨x.nm, x.par, fa, fc', x.fs⟩ : Cl)])[i]? = some y' → CopyC w2 w.heap.size x' y') := hide (fun i x' y' hx' hy' => by
        have hl := unhide HL
        by_cases e : i < G.length
        · rw [List.getElem?_append_left e] at hy'
          exact ((unhide HC i x' y' hx' hy').below (unhide HBd)).grown (unhide HOd) hG'
        · rw [List.getElem?_append_right (by omega)] at hy'
          have e2 : i - G.length = 0 := by
            have := (List.getElem?_eq_some_iff.1 hy').1
            simp at this
            omega
          rw [e2] at hy'
          simp at hy'
          subst hy'
          have e3 : i = k := by omega
          subst e3
          rw [unhide HX] at hx'
          injection hx' with hx'
          subst hx'
          have hcc : CopyC ((wb.setCell ⟨FB, 2, none⟩ (.slice fa x.fs.length fc')).alloc (.cells #[.string x.nm, .int .i64 x.par, .slice fa x.fs.length fc'] 38)) w.heap.size x ⟨x.nm, x.par, fa, fc', x.fs⟩ := ⟨⟨rfl, rfl, rfl⟩, unhide HOf⟩
          exact hcc.grown (unhide HOd) hG')
      have HB2 := hide (((unhide HB).trans ((unhide HBd).mono (unhide HB).size)).grown hG' (by rw [World.size_alloc]; omega) (fun q e => ((unhide HOd).lt q e).1))
      clear hO' hG' HO HC HB HSr HOd HOf HBd hbase HGk HL b0 b1 b2 bf
      go_wp2
      go_roundw
      case rel => exact ⟨k + 1, _, by omega, by go_num, HL2, HO2, HC2, HB2⟩
      case measure => simp [intOf]; omega
    · have i1 : ¬ ((k : Nat) : Int) < ((T.length : Nat) : Int) := by omega
      have ek : k = T.length := by omega
      have hcp := fun ga gc e => own_cap (ga := ga) (gc := gc) (unhide HO) e
      obtain ⟨ga, gc, rfl, hTab, hS⟩ := copy_tab (unhide H) (unhide HO) (by rw [unhide HL]; exact ek) (unhide HC)
      have HCP := hide (hcp ga gc rfl)
      clear hcp
      have HR := hide (And.intro hTab hS)
      clear ek hTab hS
      go_wp2
      go_ret
      exact ⟨ga, gc, G, rfl, (unhide HR).1, (unhide HR).2, unhide HB, unhide HCP⟩


theorem lineR_congr {T G : List Cl} (h : ∀ c, parD G c = parD T c) (hl : G.length = T.length) : ∀ (k : Nat) (c : Int), lineR G k c = lineR T k c
  | 0, c => rfl
  | k + 1, c => by
    unfold lineR
    rw [hl, h, lineR_congr h hl k]
theorem SameT.fieldsD {T G : List Cl} (h : SameT T G) (c : Int) : fieldsD G c = fieldsD T c := by
  unfold Proofs.YtbbfnampjbdnbaaDoor.fieldsD lineD
  rw [h.1, lineR_congr h.par h.1]
  congr 1
  funext k
  exact h.fsd k
theorem SameT.twice {T G : List Cl} (h : SameT T G) (c : Nat) (s : ByteArray) : twiceD G c s = twiceD T c s := by
  have e : ∀ L : List Cl, twiceD L c s = ((L.map Cl.nm).take c).any (fun y => y.toList == s.toList) := fun L => by
    unfold twiceD
    rw [← List.map_take, List.any_map]
    rfl
  rw [e, e, h.names]
theorem SameT.fault {T G : List Cl} (h : SameT T G) (c : Nat) : faultD G c = faultD T c := by
  unfold faultD
  by_cases hc : c < T.length
  · have hx := List.getElem?_eq_getElem hc
    have hy := List.getElem?_eq_getElem (show c < G.length by have := h.1; omega)
    have hs := h.2 c _ _ hx hy
    rw [hx, hy]
    simp only
    rw [hs.nm, hs.par, hs.fs, h.twice, h.fieldsD, h.1]
  · rw [List.getElem?_eq_none (show T.length ≤ c by omega), List.getElem?_eq_none (show G.length ≤ c by have := h.1; omega)]

/-- The first fault is one, in a table and its copy. -/
theorem first_one {T G : List Cl} (h : SameT T G) {n m : Nat} {e why : Int} (h1 : (n = 0 ∧ e = 0 ∧ madeD G = true) ∨ IsFirst G n e) (h2 : (m = 0 ∧ why = 0 ∧ madeD T = true) ∨ IsFirst T m why) : n = m ∧ e = why := by
  have hl := h.1
  rcases h1 with ⟨a1, a2, a3⟩ | ⟨a1, a2, a3, a4⟩ <;> rcases h2 with ⟨b1, b2, b3⟩ | ⟨b1, b2, b3, b4⟩
  · omega
  · have := madeD_all a3 m (by omega)
    rw [h.fault] at this
    omega
  · have := madeD_all b3 n (by omega)
    rw [← h.fault] at this
    omega
  · have hnm : n = m := by
      rcases Nat.lt_trichotomy n m with g | g | g
      · have := b1 n g
        rw [← h.fault] at this
        omega
      · exact g
      · have := a1 m g
        rw [h.fault] at this
        omega
    refine ⟨hnm, ?_⟩
    rw [h.fault, hnm] at a4
    omega
end Go.Proofs.YtbbfnampjbdnbaaDoor
