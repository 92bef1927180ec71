/-
  Contracts of types.hasName and of what it calls: slices.ContainsFunc, slices.IndexFunc at a class, with its closure: whether a name stands among the first c classes ('twiceD'). All that lay lies unturned.
-/
import Derived.Test.YtnkhkppddlpcmaaDoorKChk
namespace Go.Proofs.YtnkhkppddlpcmaaDoor
open Go.RowKit
set_option maxRecDepth 20000

theorem hasName1_any (y : Cl) (s : ByteArray) (B : Nat) (w : World) (hB : w.cell? ⟨B, 0, none⟩ = some (.string s)) :
    Calls Tryd.prog 91 #[.agg #[.string y.nm, .int .i64 y.par, .slice y.fo y.fs.length y.fc], .pointer (some ⟨B, 0, none⟩)] w fun e w' => e = .returned (.bool (y.nm.toList == s.toList)) ∧ Below w.heap.size w w' := by
  have hBl := World.block_lt_of_cell? w _ hB
  go_enter Tryd.func91, Tryd.ntmps91
  go_wp2
  go_ret
  exact ⟨rfl, (Below.refl _ _).alloc (Nat.le_refl _) _⟩

theorem IndexFunc_any (ao : Option Addr) (cap : Nat) (T : List Cl) (c : Nat) (s : ByteArray) (B : Nat) (w : World) (hT : TabAt w ao T) (hc : c ≤ T.length) (hz : T.length * 48 ≤ 140737488351232) (hB : w.cell? ⟨B, 0, none⟩ = some (.string s)) :
    Calls Tryd.prog 98 #[.slice ao c cap, .func (.func 91) #[] #[.pointer (some ⟨B, 0, none⟩)]] w fun e w' => ∃ i : Int, e = .returned (.int .i64 i) ∧ decide (i ≥ 0) = twiceD T c s ∧ Below w.heap.size w w' := by
  have HT := hide hT
  have HB := hide hB
  clear hT hB
  go_enter Tryd.func98, Tryd.ntmps98
  go_wp2
  go_loopw [5, 8] (fun _ i wr => ∃ k : Nat, k ≤ c ∧ i = .int .i64 (k : Int) ∧ Hid (twiceD T k s = false) ∧ Hid (Below w.heap.size w wr)) (fun _ i _ => c - (intOf i).toNat)
  case atStart => exact ⟨0, by omega, rfl, hide rfl, hide (Below.refl _ _)⟩
  case round =>
    obtain ⟨k, hk, rfl, HK, HBW⟩ := hrel
    by_cases hlt : k < c
    · have i1 : ((k : Nat) : Int) < ((c : Nat) : Int) := by omega
      have hkT : k < T.length := by omega
      obtain ⟨y, hy⟩ : ∃ y, T[k]? = some y := ⟨T[k], List.getElem?_eq_getElem hkT⟩
      have HY : Hid (T[k] = y) := hide (by rw [List.getElem?_eq_getElem hkT] at hy; exact Option.some.inj hy)
      obtain ⟨b, off, e0, hcl⟩ := (unhide HT).below (unhide HBW) k y hy
      have HE0 := hide e0
      have c0 := hcl.c0
      have c1 := hcl.c1
      have c2 := hcl.c2
      have hblt := World.block_lt_of_cell? wr _ c0
      clear hcl hy
      subst e0
      have HB2 : Hid (wr.cell? ⟨B, 0, none⟩ = some (.string s)) := hide (((unhide HBW).cell (p := ⟨B, 0, none⟩) (World.block_lt_of_cell? w _ (unhide HB))).trans (unhide HB))
      cases hq : (y.nm.toList == s.toList)
      · have HK2 : Hid (twiceD T (k + 1) s = false) := hide (by rw [twiceD_snoc s hkT, unhide HK, unhide HY, hq]; rfl)
        have HQ := hide hq
        clear hq
        go_wp2_with fail
        refine (hasName1_any y s B wr (unhide HB2)).mono ?_
        rintro e w2 ⟨rfl, hb2⟩
        rw [unhide HQ]
        have HB3 := hide ((unhide HBW).trans (hb2.mono (unhide HBW).size))
        clear hb2
        go_wp2
        go_roundw
        case rel => exact ⟨k + 1, by omega, by go_num, HK2, HB3⟩
        case measure => simp [intOf]; omega
      · have HR : Hid (twiceD T c s = true) := hide (twiceD_found hlt hkT (by rw [unhide HY]; exact hq))
        have HQ := hide hq
        clear hq
        go_wp2_with fail
        refine (hasName1_any y s B wr (unhide HB2)).mono ?_
        rintro e w2 ⟨rfl, hb2⟩
        rw [unhide HQ]
        have HB3 := hide ((unhide HBW).trans (hb2.mono (unhide HBW).size))
        clear hb2
        go_wp2
        go_ret
        exact ⟨_, rfl, by rw [unhide HR]; exact decide_eq_true (by omega), unhide HB3⟩
    · have i1 : ¬ ((k : Nat) : Int) < ((c : Nat) : Int) := by omega
      have HR : Hid (twiceD T c s = false) := hide (by rw [show c = k by omega]; exact unhide HK)
      go_wp2
      go_ret
      exact ⟨_, rfl, by rw [unhide HR]; rfl, unhide HBW⟩

theorem ContainsFunc_any (ao : Option Addr) (cap : Nat) (T : List Cl) (c : Nat) (s : ByteArray) (B : Nat) (w : World) (hT : TabAt w ao T) (hc : c ≤ T.length) (hz : T.length * 48 ≤ 140737488351232) (hB : w.cell? ⟨B, 0, none⟩ = some (.string s)) :
    Calls Tryd.prog 90 #[.slice ao c cap, .func (.func 91) #[] #[.pointer (some ⟨B, 0, none⟩)]] w fun e w' => e = .returned (.bool (twiceD T c s)) ∧ Below w.heap.size w w' := by
  go_enter Tryd.func90, Tryd.ntmps90
  go_wp2_with fail
  refine (IndexFunc_any ao cap T c s B w hT hc hz hB).mono ?_
  rintro e w2 ⟨i, rfl, hi, hb⟩
  have HI := hide hi
  clear hi hB hT
  go_wp2
  all_goals go_ret
  all_goals exact ⟨ret_bool (unhide HI), hb⟩

theorem hasName_any (ao : Option Addr) (cap : Nat) (T : List Cl) (c : Nat) (s : ByteArray) (w : World) (hT : TabAt w ao T) (hc : c ≤ T.length) (hz : T.length * 48 ≤ 140737488351232) :
    Calls Tryd.prog 76 #[.slice ao c cap, .string s] w fun e w' => e = .returned (.bool (twiceD T c s)) ∧ Below w.heap.size w w' := by
  have hb1 : Below w.heap.size w (w.alloc (.cells #[.string s] 9)) := (Below.refl _ _).alloc (Nat.le_refl _) _
  have hT1 := hT.below hb1
  have HC := hide (ContainsFunc_any ao cap T c s w.heap.size _ hT1 hc hz (cellNew w (.string s) 9).1)
  have HB1 := hide hb1
  clear hT hT1 hb1
  go_enter Tryd.func76, Tryd.ntmps76
  go_wp2_with fail
  refine (unhide HC).mono ?_
  rintro e w2 ⟨rfl, hb⟩
  have HB2 := hide ((unhide HB1).trans (hb.mono (unhide HB1).size))
  clear hb
  go_wp2
  go_ret
  exact ⟨rfl, unhide HB2⟩
end Go.Proofs.YtnkhkppddlpcmaaDoor
