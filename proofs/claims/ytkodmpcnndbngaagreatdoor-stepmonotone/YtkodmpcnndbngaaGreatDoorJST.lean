/-
  Texts of contracts and plain lemmas, one behind another; each says at its head what it holds.
-/
import Derived.Test.YtkodmpcnndbngaaGreatDoorJSG
import Derived.Test.YtkodmpcnndbngaaGreatDoorJCH
import Derived.Test.YtkodmpcnndbngaaGreatDoorIn2
import Derived.Test.YtkodmpcnndbngaaGreatDoorJTZ
import Derived.Test.YtkodmpcnndbngaaGreatDoorJFR
import Derived.Test.YtkodmpcnndbngaaGreatDoorKFrL
import Derived.Deep.MidRow
/-
  step.canBe and provisoref07.Can: whether an environment can be, as the plain function says; nothing old is turned.
-/
namespace Go.Proofs.YtkodmpcnndbngaaGreatDoor
open Go.RowKit
set_option maxRecDepth 20000

def okPs (n : Nat) (ps : List Nat) : Bool := decide (ps.length ≤ 8) && ps.all (storedD n)
/-- Whether a signature can be. -/
def sigD (n : Nat) (x : Sg) : Bool := okPs n x.ps && (x.rt == 0 || storedD n x.rt)
/-- Whether an environment can be. -/
def canD (T : List Cl) (L : List Sg) (fn : Int) : Bool := madeD T && (decide (L.length ≤ 64) && (decide (0 ≤ fn ∧ fn < (L.length : Int)) && L.all (sigD T.length)))
theorem canD_unmade {T : List Cl} {L : List Sg} {fn : Int} (h : madeD T = false) : canD T L fn = false := by unfold canD; rw [h]; rfl
theorem canD_many {T : List Cl} {L : List Sg} {fn : Int} (h : 64 < L.length) : canD T L fn = false := by unfold canD; rw [dec_f (show ¬ L.length ≤ 64 by omega)]; simp
theorem canD_fn {T : List Cl} {L : List Sg} {fn : Int} (h : ¬ (0 ≤ fn ∧ fn < (L.length : Int))) : canD T L fn = false := by unfold canD; rw [dec_f h]; simp
theorem canD_sig {T : List Cl} {L : List Sg} {fn : Int} {k : Nat} {x : Sg} (hx : L[k]? = some x) (h : sigD T.length x = false) : canD T L fn = false := by
  unfold canD
  have : L.all (sigD T.length) = false := by
    rw [List.all_eq_false]
    exact ⟨x, List.mem_of_getElem? hx, by rw [h]; simp⟩
  rw [this]; simp
theorem canD_yes {T : List Cl} {L : List Sg} {fn : Int} (hm : madeD T = true) (h : ¬ 64 < L.length) (hf : 0 ≤ fn ∧ fn < (L.length : Int)) (hs : ∀ (j : Nat) (y : Sg), L[j]? = some y → sigD T.length y = true) : canD T L fn = true := by
  unfold canD
  have : L.all (sigD T.length) = true := by
    rw [List.all_eq_true]
    intro x hx
    obtain ⟨j, hj, rfl⟩ := List.mem_iff_getElem.1 hx
    exact hs j _ (List.getElem?_eq_getElem hj)
  rw [this, hm, decide_eq_true (show L.length ≤ 64 by omega), decide_eq_true hf]; rfl
structure Can (T : List Cl) (L : List Sg) (fn : Int) : Prop where
  made : madeD T = true
  few : L.length ≤ 64
  lo : 0 ≤ fn
  hi : fn < (L.length : Int)
  sig : ∀ (j : Nat) (y : Sg), L[j]? = some y → sigD T.length y = true
theorem canD_all {T : List Cl} {L : List Sg} {fn : Int} (h : canD T L fn = true) : Can T L fn := by
  unfold canD at h
  simp only [Bool.and_eq_true, decide_eq_true_eq, List.all_eq_true] at h
  exact ⟨h.1, h.2.1, h.2.2.1.1, h.2.2.1.2, fun j y hy => h.2.2.2 y (List.mem_of_getElem? hy)⟩
theorem isFirst_unmade {T : List Cl} {n : Nat} {er : Int} (h : IsFirst T n er) : madeD T = false := madeD_no h.one.1 (by rw [h.one.2.2]; exact h.one.2.1)
theorem sigD_ps {n : Nat} {x : Sg} (h : okPs n x.ps = false) : sigD n x = false := by unfold sigD; rw [h]; rfl
theorem sigD_rt {n : Nat} {x : Sg} (h : x.rt ≠ 0) (h2 : storedD n x.rt = false) : sigD n x = false := by unfold sigD; rw [h2]; simp [h]
theorem sigD_yes0 {n : Nat} {x : Sg} (h : okPs n x.ps = true) (h2 : x.rt = 0) : sigD n x = true := by unfold sigD; rw [h, h2]; rfl
theorem sigD_yes {n : Nat} {x : Sg} (h : okPs n x.ps = true) (h2 : storedD n x.rt = true) : sigD n x = true := by unfold sigD; rw [h, h2]; simp
theorem okPs_one {n t : Nat} : okPs n [t] = storedD n t := by unfold okPs; simp

theorem within_any (i n : Int) (w : World) :
    Calls Tryz.prog 53 #[.int .i64 i, .int .i64 n] w fun e w' => e = .returned (.bool (decide (0 ≤ i ∧ i < n))) ∧ w' = w := by
  by_cases h0 : i ≥ 0
  · have HR : Hid (decide (0 ≤ i ∧ i < n) = decide (i < n)) := hide (by simp [h0])
    go_enter Tryz.func53, Tryz.ntmps53
    go_wp2
    go_ret
    exact ⟨ret_bool (unhide HR).symm, rfl⟩
  · have HR : Hid (decide (0 ≤ i ∧ i < n) = false) := hide (by simp; intro h; omega)
    rw [unhide HR]
    go_enter Tryz.func53, Tryz.ntmps53
    go_wp2
    go_ret
    exact ⟨rfl, rfl⟩

theorem startOk {n : Nat} {ps : List Nat} : ((startD n ps 16).2 == 0) = okPs n ps := by
  unfold startD okPs
  by_cases h : ps.length ≤ 8
  · rw [if_neg (by omega), decide_eq_true h]
    cases ps.all (storedD n) <;> rfl
  · rw [if_pos (by omega), dec_f h]
    rfl

set_option maxRecDepth 20000 in
set_option maxHeartbeats 1000000 in
theorem areOfValues_any (ao : Option Addr) (n cap : Nat) (po : Option Addr) (pc : Nat) (ps : List Nat) (w : World) (hP : PAt w po ps) (hp : ∀ t ∈ ps, t < 256) (hz : ps.length ≤ 140737488351232) :
    Calls Tryz.prog 54 #[.slice ao n cap, .slice po ps.length pc] w fun e w' => e = .returned (.bool (okPs n ps)) ∧ Below w.heap.size w w' := by
  have HS := hide (Start_any ao cap n po pc ps 16 w hP hp hz (by omega))
  have HX := hide (start_okG (n := n) hp 16)
  have HE : Hid (frTwo (startD n ps 16) = .tuple #[.agg (frA (startD n ps 16).1), .int .i64 (startD n ps 16).2]) := hide rfl
  have HR := hide (startOk (n := n) (ps := ps))
  generalize (startD n ps 16).2 = e2 at HE HR
  generalize (startD n ps 16).1 = X at HE HX
  rw [unhide HE] at HS
  clear hP hp
  go_enter Tryz.func54, Tryz.ntmps54
  go_wp2_with fail
  refine (unhide HS).mono ?_
  rintro e W ⟨rfl, hB⟩
  have Z : Hid (FAt (W.alloc (.cells (frA frZ) 29)) W.heap.size frZ) := hide (FAt.new W frZ)
  have hal : Below W.heap.size W (W.alloc (.cells (frA frZ) 29)) := (Below.refl _ _).alloc (Nat.le_refl _) _
  have HB : Hid (Below w.heap.size w ((W.alloc (.cells (frA frZ) 29)).setRow W.heap.size (frA X))) := hide (below_setRow' (hB.trans (hal.mono hB.size)) hB.size _)
  clear hB hal HS
  go_wp2_with (refine wpList_store_row rfl 29 _ _ rfl W.heap.size (frA X) rfl rfl 29 (frA frZ) (unhide Z) (sizeFr (unhide HX)) (sizeEq frZ_ok (unhide HX)) (frA_one _) ?_)
  go_ret
  exact ⟨ret_boolG (unhide HR), unhide HB⟩

theorem pAt_one (w : World) (t : Nat) (ty : TypeId) : PAt (w.alloc (.cells #[.int .u8 (t : Int)] ty)) (some ⟨w.heap.size, 0, none⟩) [t] := fun i x hi => by
  rcases i with _ | i
  · simp at hi
    subst hi
    exact ⟨w.heap.size, 0, rfl, (cellNew w _ _).1⟩
  · simp at hi

set_option maxRecDepth 20000 in
set_option maxHeartbeats 4000000 in
theorem canBe_any (ao : Option Addr) (cap : Nat) (T : List Cl) (so : Option Addr) (sc : Nat) (L : List Sg) (fn : Int) (w : World) (hT : TabAt w ao T) (hcap : T.length ≤ cap) (hW : WordsAt w) (hz : T.length * 48 ≤ 140737488351232) (hL : SgsAt w so L) (hzl : L.length * 32 ≤ 140737488351232) :
    Calls Tryz.prog 30 #[.agg #[.slice ao T.length cap, .slice so L.length sc, .int .i64 fn]] w fun e w' => e = .returned (.bool (canD T L fn)) ∧ Below w.heap.size w w' := by
  have al := (Below.refl w.heap.size w).alloc (Nat.le_refl _) (.cells #[.slice ao T.length cap, .slice so L.length sc, .int .i64 fn] 25)
  have HB := hide al
  have HC : Hid (EBx (w.alloc (.cells #[.slice ao T.length cap, .slice so L.length sc, .int .i64 fn] 25)) w.heap.size (.slice ao T.length cap) (.slice so L.length sc) fn) := hide (heap_alloc_new w _)
  have HCK := hide (Check_any ao cap T _ (hT.below al) hcap (hW.below al) hz)
  have HL := hide hL
  have hll : L.length < 9223372036854775000 := by omega
  clear al hT hL hz hzl hcap hW
  go_enter Tryz.func30, Tryz.ntmps30
  go_upto_region 1 with fail
  generalize (w.alloc (.cells #[.slice ao T.length cap, .slice so L.length sc, .int .i64 fn] 25)) = W1 at HB HC HCK ⊢
  have k0 := (unhide HC).c0
  go_wp2_with fail
  refine (unhide HCK).mono ?_
  rintro e W2 ⟨⟨n, er, rfl, h1⟩, hB2⟩
  have HB2 := hide ((unhide HB).trans (hB2.mono (unhide HB).size))
  have HC2 : Hid (EBx W2 w.heap.size (.slice ao T.length cap) (.slice so L.length sc) fn) := hide ((hB2.block _ (unhide HC).lt).trans (unhide HC))
  clear hB2 HB HC HCK k0 W1
  rcases h1 with ⟨rfl, rfl, hmade⟩ | hfirst
  rotate_left
  · have HR : Hid (canD T L fn = false) := hide (canD_unmade (isFirst_unmade hfirst))
    have b1 : (er != 0) = true := bne_t hfirst.one.2.1
    clear hfirst
    go_wp2
    go_ret
    exact ⟨ret_bool (unhide HR).symm, unhide HB2⟩
  have HMD := hide hmade
  clear hmade
  have k1 := (unhide HC2).c1
  have k2 := (unhide HC2).c2
  by_cases h64 : 64 < L.length
  · have i1 : ((L.length : Nat) : Int) > 64 := by omega
    have HR : Hid (canD T L fn = false) := hide (canD_many h64)
    go_wp2
    go_ret
    exact ⟨ret_bool (unhide HR).symm, unhide HB2⟩
  have i1 : ¬ ((L.length : Nat) : Int) > 64 := by omega
  have H64 := hide h64
  clear h64
  by_cases hf : 0 ≤ fn ∧ fn < (L.length : Int)
  rotate_left
  · have HR : Hid (canD T L fn = false) := hide (canD_fn hf)
    have HD : Hid (decide (0 ≤ fn ∧ fn < ((L.length : Nat) : Int)) = false) := hide (dec_f hf)
    clear hf
    go_wp2_with fail
    refine (within_any fn L.length _).mono ?_
    rintro e W3 ⟨rfl, rfl⟩
    rw [unhide HD]
    go_wp2
    go_ret
    exact ⟨ret_bool (unhide HR).symm, unhide HB2⟩
  have HF := hide hf
  have HD : Hid (decide (0 ≤ fn ∧ fn < ((L.length : Nat) : Int)) = true) := hide (decide_eq_true hf)
  clear hf
  go_wp2_with fail
  refine (within_any fn L.length _).mono ?_
  rintro e W3 ⟨rfl, rfl⟩
  rw [unhide HD]
  go_wp2_with fail
  clear k1 k2 HD i1
  go_loopw [33] (fun i wr => ∃ (k : Nat), k ≤ L.length ∧ i = .int .i64 (k : Int) ∧ Hid (∀ (j : Nat) (y : Sg), j < k → L[j]? = some y → sigD T.length y = true) ∧ Hid (EBx wr w.heap.size (.slice ao T.length cap) (.slice so L.length sc) fn) ∧ Hid (Below w.heap.size w wr)) (fun i _ => L.length - (intOf i).toNat)
  case atStart => exact ⟨0, by omega, rfl, hide (fun j y h => by omega), HC2, HB2⟩
  case round =>
    clear HC2 HB2
    obtain ⟨k, hk, rfl, HK, HC, HB⟩ := hrel
    by_cases hlt : k < L.length
    · have j1 : ((k : Nat) : Int) < ((L.length : Nat) : Int) := by omega
      have hx := List.getElem?_eq_getElem hlt
      obtain ⟨b, off, rfl, hxa⟩ := (unhide HL).below (unhide HB) k _ hx
      have c0 := hxa.c0
      have c1 := hxa.c1
      have HX := hide hx
      have HXA := hide hxa
      generalize L[k] = x at HX HXA c0 c1
      clear hx hxa
      go_upto_region 7 with fail
      obtain ⟨FB, HFB⟩ : ∃ FB, Hid (wr.heap.size = FB) := ⟨_, hide rfl⟩
      obtain ⟨wa, HWa⟩ : ∃ wa, Hid (wr.alloc (Obj.cells #[Value.slice x.po x.ps.length x.pc, Value.int IntKind.u8 x.rt] 46) = wa) := ⟨_, hide rfl⟩
      have hBa : Below wr.heap.size wr wa := by rw [← unhide HWa]; exact (Below.refl _ _).alloc (Nat.le_refl _) _
      have hrow : SBx wa FB (.slice x.po x.ps.length x.pc) x.rt := by rw [← unhide HWa, ← unhide HFB]; exact heap_alloc_new wr _
      rw [unhide HWa, unhide HFB]
      have s0 := hrow.c0
      have s1 := hrow.c1
      have HCa : Hid (EBx wa w.heap.size (.slice ao T.length cap) (.slice (some ⟨b, off, none⟩) L.length sc) fn) := hide ((hBa.block _ (unhide HC).lt).trans (unhide HC))
      have HBa := hide ((unhide HB).trans (hBa.mono (unhide HB).size))
      have HCK := hide (areOfValues_any ao T.length cap x.po x.pc x.ps wa ((unhide HXA).ok.prm.below hBa) (unhide HXA).ok.bts (unhide HXA).ok.fit)
      have HRO := hide hrow
      have hrt := (unhide HXA).ok.res
      have k0 := (unhide HCa).c0
      clear c0 c1 hBa hrow HWa HC HB HFB
      go_wp2_with fail
      refine (unhide HCK).mono ?_
      rintro e w2 ⟨rfl, hB2⟩
      have HC2 : Hid (EBx w2 w.heap.size (.slice ao T.length cap) (.slice (some ⟨b, off, none⟩) L.length sc) fn) := hide ((hB2.block _ (unhide HCa).lt).trans (unhide HCa))
      have HB2 := hide ((unhide HBa).trans (hB2.mono (unhide HBa).size))
      have HRO2 : Hid (SBx w2 FB (.slice x.po x.ps.length x.pc) x.rt) := hide ((hB2.block _ (unhide HRO).lt).trans (unhide HRO))
      clear hB2 HCa HBa HRO k0 s0 s1 HCK
      cases hq : okPs T.length x.ps
      · have HR : Hid (canD T L fn = false) := hide (canD_sig (unhide HX) (sigD_ps hq))
        clear hq
        go_wp2
        go_ret
        exact ⟨ret_bool (unhide HR).symm, unhide HB2⟩
      have HQ := hide hq
      clear hq
      have s1 := (unhide HRO2).c1
      have k0 := (unhide HC2).c0
      by_cases h0 : x.rt = 0
      · have HS := hide (sigD_yes0 (unhide HQ) h0)
        have b1 : (((x.rt : Nat) : Int) != 0) = false := bne_f (by omega)
        have HK2 : Hid (∀ (j : Nat) (y : Sg), j < k + 1 → L[j]? = some y → sigD T.length y = true) := hide (fun j y h1 h2 => by
          by_cases e : j = k
          · rw [e, unhide HX] at h2
            injection h2 with h2
            rw [← h2]; exact unhide HS
          · exact unhide HK j y (by omega) h2)
        clear h0 HK HX HS
        go_wp2
        go_roundw
        case rel => exact ⟨k + 1, by omega, by go_num, HK2, HC2, HB2⟩
        case measure => simp [intOf]; omega
      have b1 : (((x.rt : Nat) : Int) != 0) = true := bne_t (by omega)
      have H0 := hide h0
      clear h0
      go_wp2_with fail
      have al := (Below.refl w2.heap.size w2).alloc (Nat.le_refl _) (.cells #[.int .u8 (x.rt : Int)] 26)
      refine (areOfValues_any ao T.length cap _ 1 [x.rt] _ (pAt_one w2 x.rt _) (by simp; omega) (by simp)).mono ?_
      rintro e w3 ⟨rfl, hB3⟩
      rw [okPs_one]
      have hB4 : Below w2.heap.size w2 w3 := al.trans (hB3.mono (by simp))
      have HC3 : Hid (EBx w3 w.heap.size (.slice ao T.length cap) (.slice (some ⟨b, off, none⟩) L.length sc) fn) := hide ((hB4.block _ (unhide HC2).lt).trans (unhide HC2))
      have HB3 := hide ((unhide HB2).trans (hB4.mono (unhide HB2).size))
      clear hB3 hB4 al s1 k0 HC2 HB2 HRO2
      cases hq : storedD T.length x.rt
      · have HR : Hid (canD T L fn = false) := hide (canD_sig (unhide HX) (sigD_rt (unhide H0) hq))
        clear hq
        go_wp2
        go_ret
        exact ⟨ret_bool (unhide HR).symm, unhide HB3⟩
      · have HS := hide (sigD_yes (unhide HQ) hq)
        have HK2 : Hid (∀ (j : Nat) (y : Sg), j < k + 1 → L[j]? = some y → sigD T.length y = true) := hide (fun j y h1 h2 => by
          by_cases e : j = k
          · rw [e, unhide HX] at h2
            injection h2 with h2
            rw [← h2]; exact unhide HS
          · exact unhide HK j y (by omega) h2)
        clear hq HK HX HS
        go_wp2
        go_roundw
        case rel => exact ⟨k + 1, by omega, by go_num, HK2, HC3, HB3⟩
        case measure => simp [intOf]; omega
    · have j1 : ¬ ((k : Nat) : Int) < ((L.length : Nat) : Int) := by omega
      have HR : Hid (canD T L fn = true) := hide (canD_yes (unhide HMD) (unhide H64) (unhide HF) (fun j y hy => unhide HK j y (by have := (List.getElem?_eq_some_iff.1 hy).1; omega) hy))
      clear HK
      go_wp2
      go_ret
      exact ⟨ret_bool (unhide HR).symm, unhide HB⟩
end Go.Proofs.YtkodmpcnndbngaaGreatDoor

/-
  provisoref07.Can: whether an environment can be, as the plain function says; nothing old is turned.
-/
namespace Go.Proofs.YtkodmpcnndbngaaGreatDoor
open Go.RowKit
set_option maxRecDepth 20000

set_option maxHeartbeats 400000 in
theorem ref7Stored_any (ao : Option Addr) (n cap t : Nat) (w : World) (ht : t < 256) :
    Calls Tryz.prog 39 #[.slice ao n cap, .int .u8 (t : Int)] w fun e w' => e = .returned (.bool (storedD n t)) ∧ w' = w := by
  cases hv : validD n t
  · have HR : Hid (storedD n t = false) := hide (by unfold storedD; rw [hv]; rfl)
    have HV := hide hv
    clear hv
    go_enter Tryz.func39, Tryz.ntmps39
    go_wp2_with fail
    refine (refValid_any ao cap n t _ ht).mono ?_
    rintro e w2 ⟨rfl, rfl⟩
    rw [unhide HV]
    go_wp2
    go_ret
    exact ⟨ret_bool (unhide HR).symm, rfl⟩
  · have HV := hide hv
    by_cases h0 : t = 0
    · have b0 : (((t : Nat) : Int) != 0) = false := bne_f (by omega)
      have HR : Hid (storedD n t = false) := hide (by subst h0; unfold storedD; simp)
      clear hv h0
      go_enter Tryz.func39, Tryz.ntmps39
      go_wp2_with fail
      refine (refValid_any ao cap n t _ ht).mono ?_
      rintro e w2 ⟨rfl, rfl⟩
      rw [unhide HV]
      go_wp2
      go_ret
      exact ⟨ret_bool (unhide HR).symm, rfl⟩
    · have b0 : (((t : Nat) : Int) != 0) = true := bne_t (by omega)
      have HR : Hid (storedD n t = (((t : Nat) : Int) != 3)) := hide (by
        unfold storedD
        rw [hv]
        by_cases h3 : t = 3
        · subst h3; rfl
        · rw [bne_t (show ((t : Nat) : Int) ≠ 3 by omega)]; simp [h0, h3])
      clear hv h0
      go_enter Tryz.func39, Tryz.ntmps39
      go_wp2_with fail
      refine (refValid_any ao cap n t _ ht).mono ?_
      rintro e w2 ⟨rfl, rfl⟩
      rw [unhide HV]
      go_wp2
      go_ret
      exact ⟨ret_bool (unhide HR).symm, rfl⟩

theorem okPs_long {n : Nat} {ps : List Nat} (h : 8 < ps.length) : okPs n ps = false := by unfold okPs; rw [dec_f (by omega)]; rfl
theorem okPs_bad {n : Nat} {ps : List Nat} {i t : Nat} (ht : ps[i]? = some t) (h : storedD n t = false) : okPs n ps = false := by
  unfold okPs
  have : ps.all (storedD n) = false := by
    rw [List.all_eq_false]
    exact ⟨t, List.mem_of_getElem? ht, by rw [h]; simp⟩
  rw [this]; simp
theorem okPs_yes {n : Nat} {ps : List Nat} (h : ¬ 8 < ps.length) (hs : ∀ (i t : Nat), ps[i]? = some t → storedD n t = true) : okPs n ps = true := by
  unfold okPs
  have : ps.all (storedD n) = true := by
    rw [List.all_eq_true]
    intro x hx
    obtain ⟨j, hj, rfl⟩ := List.mem_iff_getElem.1 hx
    exact hs j _ (List.getElem?_eq_getElem hj)
  rw [this, decide_eq_true (by omega)]; rfl
theorem sigD_both {n : Nat} {x : Sg} (h : okPs n x.ps = true) (h2 : x.rt = 0 ∨ storedD n x.rt = true) : sigD n x = true := by
  rcases h2 with h2 | h2
  · exact sigD_yes0 h h2
  · exact sigD_yes h h2

set_option maxRecDepth 20000 in
set_option maxHeartbeats 8000000 in
theorem Can_any (ao : Option Addr) (cap : Nat) (T : List Cl) (so : Option Addr) (sc : Nat) (L : List Sg) (fn : Int) (w : World) (hT : TabAt w ao T) (hz : T.length * 48 ≤ 140737488351232) (hL : SgsAt w so L) (hzl : L.length * 32 ≤ 140737488351232) :
    Calls Tryz.prog 18 #[.agg #[.slice ao T.length cap, .slice so L.length sc, .int .i64 fn]] w fun e w' => e = .returned (.bool (canD T L fn)) ∧ Below w.heap.size w w' := by
  have al := (Below.refl w.heap.size w).alloc (Nat.le_refl _) (.cells #[.slice ao T.length cap, .slice so L.length sc, .int .i64 fn] 25)
  have HB := hide al
  have HC : Hid (EBx (w.alloc (.cells #[.slice ao T.length cap, .slice so L.length sc, .int .i64 fn] 25)) w.heap.size (.slice ao T.length cap) (.slice so L.length sc) fn) := hide (heap_alloc_new w _)
  have HCK := hide (refCheck_any ao cap T _ (hT.below al) hz)
  have HL := hide hL
  have hll : L.length < 9223372036854775000 := by omega
  clear al hT hL hz hzl
  go_enter Tryz.func18, Tryz.ntmps18
  go_upto_region 1 with fail
  generalize (w.alloc (.cells #[.slice ao T.length cap, .slice so L.length sc, .int .i64 fn] 25)) = W1 at HB HC HCK ⊢
  have k0 := (unhide HC).c0
  go_wp2_with fail
  refine (unhide HCK).mono ?_
  rintro e W2 ⟨⟨n, er, rfl, h1⟩, hB2⟩
  have HB2 := hide ((unhide HB).trans (hB2.mono (unhide HB).size))
  have HC2 : Hid (EBx W2 w.heap.size (.slice ao T.length cap) (.slice so L.length sc) fn) := hide ((hB2.block _ (unhide HC).lt).trans (unhide HC))
  clear hB2 HB HC HCK k0 W1
  rcases h1 with ⟨rfl, rfl, hmade⟩ | hfirst
  rotate_left
  · have HR : Hid (canD T L fn = false) := hide (canD_unmade (isFirst_unmade hfirst))
    have b1 : (er != 0) = true := bne_t hfirst.one.2.1
    clear hfirst
    go_wp2
    go_ret
    exact ⟨ret_bool (unhide HR).symm, unhide HB2⟩
  have HMD := hide hmade
  clear hmade
  have k1 := (unhide HC2).c1
  have k2 := (unhide HC2).c2
  by_cases h64 : 64 < L.length
  · have i1 : ((L.length : Nat) : Int) > 64 := by omega
    have HR : Hid (canD T L fn = false) := hide (canD_many h64)
    go_wp2
    go_ret
    exact ⟨ret_bool (unhide HR).symm, unhide HB2⟩
  have i1 : ¬ ((L.length : Nat) : Int) > 64 := by omega
  have H64 := hide h64
  clear h64
  by_cases hf : 0 ≤ fn ∧ fn < (L.length : Int)
  rotate_left
  · have HR : Hid (canD T L fn = false) := hide (canD_fn hf)
    by_cases hf0 : fn < 0
    · clear hf
      go_wp2
      go_ret
      exact ⟨ret_bool (unhide HR).symm, unhide HB2⟩
    · have j2 : fn ≥ ((L.length : Nat) : Int) := by omega
      clear hf
      go_wp2
      go_ret
      exact ⟨ret_bool (unhide HR).symm, unhide HB2⟩
  have HF := hide hf
  have jf0 : ¬ fn < 0 := by omega
  have jf1 : ¬ fn ≥ ((L.length : Nat) : Int) := by omega
  clear hf
  go_wp2_with fail
  clear k1 k2 i1 jf0 jf1
  go_loopw [37] (fun i wr => ∃ (k : Nat), k ≤ L.length ∧ i = .int .i64 (k : Int) ∧ Hid (∀ (j : Nat) (y : Sg), j < k → L[j]? = some y → sigD T.length y = true) ∧ Hid (EBx wr w.heap.size (.slice ao T.length cap) (.slice so L.length sc) fn) ∧ Hid (Below w.heap.size w wr)) (fun i _ => L.length - (intOf i).toNat)
  case atStart => exact ⟨0, by omega, rfl, hide (fun j y h => by omega), HC2, HB2⟩
  case round =>
    clear HC2 HB2 W2
    obtain ⟨k, hk, rfl, HK, HC, HB⟩ := hrel
    by_cases hlt : k < L.length
    rotate_left
    · have j1 : ¬ ((k : Nat) : Int) < ((L.length : Nat) : Int) := by omega
      have HR : Hid (canD T L fn = true) := hide (canD_yes (unhide HMD) (unhide H64) (unhide HF) (fun j y hy => unhide HK j y (by have := (List.getElem?_eq_some_iff.1 hy).1; omega) hy))
      clear HK
      go_wp2
      go_ret
      exact ⟨ret_bool (unhide HR).symm, unhide HB⟩
    have j1 : ((k : Nat) : Int) < ((L.length : Nat) : Int) := by omega
    have hx := List.getElem?_eq_getElem hlt
    obtain ⟨b, off, rfl, hxa⟩ := (unhide HL).below (unhide HB) k _ hx
    have c0 := hxa.c0
    have c1 := hxa.c1
    have HX := hide hx
    have HXA := hide hxa
    generalize L[k] = x at HX HXA c0 c1
    clear hx hxa
    go_upto_region 9 with fail
    obtain ⟨FB, HFB⟩ : ∃ FB, Hid (wr.heap.size = FB) := ⟨_, hide rfl⟩
    obtain ⟨wa, HWa⟩ : ∃ wa, Hid (wr.alloc (Obj.cells #[Value.slice x.po x.ps.length x.pc, Value.int IntKind.u8 x.rt] 46) = wa) := ⟨_, hide rfl⟩
    have hBa : Below wr.heap.size wr wa := by rw [← unhide HWa]; exact (Below.refl _ _).alloc (Nat.le_refl _) _
    have hrow : SBx wa FB (.slice x.po x.ps.length x.pc) x.rt := by rw [← unhide HWa, ← unhide HFB]; exact heap_alloc_new wr _
    rw [unhide HWa, unhide HFB]
    have s0 := hrow.c0
    have s1 := hrow.c1
    have HCa : Hid (EBx wa w.heap.size (.slice ao T.length cap) (.slice (some ⟨b, off, none⟩) L.length sc) fn) := hide ((hBa.block _ (unhide HC).lt).trans (unhide HC))
    have HBa := hide ((unhide HB).trans (hBa.mono (unhide HB).size))
    have HPA := hide ((unhide HXA).ok.prm.below hBa)
    have HBT := hide ((unhide HXA).ok.bts)
    have hfit := (unhide HXA).ok.fit
    have HRO := hide hrow
    have hrt := (unhide HXA).ok.res
    have k0 := (unhide HCa).c0
    clear c0 c1 hBa hrow HWa HC HB HFB
    by_cases h8 : 8 < x.ps.length
    · have i8 : ((x.ps.length : Nat) : Int) > 8 := by omega
      have HR : Hid (canD T L fn = false) := hide (canD_sig (unhide HX) (sigD_ps (okPs_long h8)))
      go_wp2
      go_ret
      exact ⟨ret_bool (unhide HR).symm, unhide HBa⟩
    have i8 : ¬ ((x.ps.length : Nat) : Int) > 8 := by omega
    have H8 := hide h8
    clear h8
    have HMID : Hid (x.rt = 0 ∨ storedD T.length x.rt = true → ∀ (W : World), W = wa → True) := hide (fun _ _ _ => trivial)
    clear HMID
    by_cases h0 : x.rt = 0
    all_goals (first
      | (have b1 : (((x.rt : Nat) : Int) != 0) = false := bne_f (by omega)
         have HRT : Hid (x.rt = 0 ∨ storedD T.length x.rt = true) := hide (Or.inl h0)
         clear h0)
      | (have b1 : (((x.rt : Nat) : Int) != 0) = true := bne_t (by omega)
         have H0 := hide h0
         clear h0
         go_wp2_with fail
         refine (ref7Stored_any ao T.length cap x.rt _ hrt).mono ?_
         rintro e w3 ⟨rfl, hw3⟩
         rw [hw3]
         clear hw3 w3
         cases hq : storedD T.length x.rt
         · have HR : Hid (canD T L fn = false) := hide (canD_sig (unhide HX) (sigD_rt (unhide H0) hq))
           clear hq
           go_wp2
           go_ret
           exact ⟨ret_bool (unhide HR).symm, unhide HBa⟩
         have HRT : Hid (x.rt = 0 ∨ storedD T.length x.rt = true) := hide (Or.inr hq)
         clear hq H0))
    all_goals (
      go_wp2_with fail
      clear b1 s1 hrt
      go_loopw [61] (fun i w2 => ∃ (q : Nat), q ≤ x.ps.length ∧ i = .int .i64 (q : Int) ∧ Hid (∀ (j t : Nat), j < q → x.ps[j]? = some t → storedD T.length t = true) ∧ w2 = wa) (fun i _ => x.ps.length - (intOf i).toNat))
    all_goals (first
      | exact ⟨0, by omega, rfl, hide (fun j y h => by omega), rfl⟩
      | (obtain ⟨q, hq, rfl, HQ, rfl⟩ := hrel
         by_cases hlt2 : q < x.ps.length
         · have j2 : ((q : Nat) : Int) < ((x.ps.length : Nat) : Int) := by omega
           have hy := List.getElem?_eq_getElem hlt2
           obtain ⟨b2, o2, ep, hya⟩ := unhide HPA q _ hy
           have ht := unhide HBT _ (List.mem_of_getElem? hy)
           have HY := hide hy
           generalize x.ps[q] = t at HY hya ht
           have HEP := hide ep
           rw [ep] at s0
           rw [ep]
           clear ep hy
           go_wp2_with fail
           refine (ref7Stored_any ao T.length cap t _ ht).mono ?_
           rintro e w3 ⟨rfl, hw3⟩
           rw [hw3]
           clear hw3 w3
           cases hs : storedD T.length t
           · have HR : Hid (canD T L fn = false) := hide (canD_sig (unhide HX) (sigD_ps (okPs_bad (unhide HY) hs)))
             clear hs
             go_wp2
             go_ret
             exact ⟨ret_bool (unhide HR).symm, unhide HBa⟩
           · have HQ2 : Hid (∀ (j t : Nat), j < q + 1 → x.ps[j]? = some t → storedD T.length t = true) := hide (fun j y h1 h2 => by
               by_cases e : j = q
               · rw [e, unhide HY] at h2
                 injection h2 with h2
                 rw [← h2]; exact hs
               · exact unhide HQ j y (by omega) h2)
             clear hs HQ
             go_wp2
             go_roundw
             case rel => exact ⟨q + 1, by omega, by go_num, HQ2, trivial⟩
             case measure => simp [intOf]; omega
         · have j2 : ¬ ((q : Nat) : Int) < ((x.ps.length : Nat) : Int) := by omega
           have HS := hide (sigD_both (okPs_yes (unhide H8) (fun j y hy => unhide HQ j y (by have := (List.getElem?_eq_some_iff.1 hy).1; omega) hy)) (unhide HRT))
           have HK2 : Hid (∀ (j : Nat) (y : Sg), j < k + 1 → L[j]? = some y → sigD T.length y = true) := hide (fun j y h1 h2 => by
             by_cases e : j = k
             · rw [e, unhide HX] at h2
               injection h2 with h2
               rw [← h2]; exact unhide HS
             · exact unhide HK j y (by omega) h2)
           clear HK HX HS HQ
           go_wp2
           go_roundw
           case rel => exact ⟨k + 1, by omega, by go_num, HK2, HCa, HBa⟩
           case measure => simp [intOf]; omega))
end Go.Proofs.YtkodmpcnndbngaaGreatDoor

/-
  A spot (an instruction where it stands) in memory; its small methods; what instructions take and give: as the plain functions say; nothing old is turned.
-/
namespace Go.Proofs.YtkodmpcnndbngaaGreatDoor
open Go.RowKit
set_option maxRecDepth 20000

structure Sp where
  ao : Option Addr
  cap : Nat
  T : List Cl
  so : Option Addr
  sc : Nat
  L : List Sg
  fn : Int
  f : Fr
  p : Int
  op : Nat
  a : Int
  b : Int
def envL (s : Sp) : List Value := [.slice s.ao s.T.length s.cap, .slice s.so s.L.length s.sc, .int .i64 s.fn]
def inL (s : Sp) : List Value := [.int .i64 s.p, .int .u8 (s.op : Int), .int .i64 s.a, .int .i64 s.b]
def spL (s : Sp) : List Value := envL s ++ (frL s.f ++ inL s)
def spA (s : Sp) : Array Value := (spL s).toArray
/-- What is known of a spot, in an environment that can be. -/
structure SpOk (W : World) (s : Sp) : Prop where
  tab : TabAt W s.ao s.T
  sgs : SgsAt W s.so s.L
  hz : s.T.length * 48 ≤ 140737488351232
  hzl : s.L.length * 32 ≤ 140737488351232
  can : Can s.T s.L s.fn
  fr : FrOk s.f
  op : s.op < 256
  a : -9223372036854775808 ≤ s.a ∧ s.a ≤ 9223372036854775807
  b : -9223372036854775808 ≤ s.b ∧ s.b ≤ 9223372036854775807
  wid : WidAt W
theorem SpOk.below {W W' : World} {s : Sp} (h : SpOk W s) (hb : Below W.heap.size W W') : SpOk W' s := ⟨h.tab.below hb, h.sgs.below hb, h.hz, h.hzl, h.can, h.fr, h.op, h.a, h.b, h.wid.below hb⟩
def SpAt (W : World) (g : Nat) (s : Sp) : Prop := W.heap[g]? = some (.cells (spA s) 51 (0, 0))
theorem SpAt.new (w : World) (s : Sp) : SpAt (w.alloc (.cells (spA s) 51)) w.heap.size s := heap_alloc_new w _
theorem SpAt.lt {W : World} {g : Nat} {s : Sp} (h : SpAt W g s) : g < W.heap.size := (Array.getElem?_eq_some_iff.1 h).1
theorem SpAt.below {W W' : World} {g : Nat} {s : Sp} {B : Nat} (h : SpAt W g s) (hb : Below B W W') (hg : g < B) : SpAt W' g s := (hb.block g hg).trans h
theorem SpAt.cell {W : World} {g : Nat} {s : Sp} (h : SpAt W g s) {o : Nat} {v : Value} (hv : (spL s)[o]? = some v) : W.cell? ⟨g, o, none⟩ = some v := by
  rw [cell_of_row _ _ _ _ _ _ h]
  simpa [spA] using hv
theorem SpAt.c0 {W : World} {g : Nat} {s : Sp} (h : SpAt W g s) : W.cell? ⟨g, 0, none⟩ = some (.slice s.ao s.T.length s.cap) := h.cell rfl
theorem SpAt.c1 {W : World} {g : Nat} {s : Sp} (h : SpAt W g s) : W.cell? ⟨g, 1, none⟩ = some (.slice s.so s.L.length s.sc) := h.cell rfl
theorem SpAt.c2 {W : World} {g : Nat} {s : Sp} (h : SpAt W g s) : W.cell? ⟨g, 2, none⟩ = some (.int .i64 s.fn) := h.cell rfl
theorem spL_at {s : Sp} (h : FrOk s.f) (i : Nat) : (spL s)[29 + i]? = (inL s)[i]? := by
  unfold spL
  have e1 : (envL s).length = 3 := rfl
  have e2 := frL_len h
  rw [List.getElem?_append_right (by omega), List.getElem?_append_right (by omega)]
  congr 1
  omega
theorem spL_fr {s : Sp} {j : Nat} {v : Value} (hv : (frL s.f)[j]? = some v) : (spL s)[3 + j]? = some v := by
  unfold spL
  have e1 : (envL s).length = 3 := rfl
  have hj := (List.getElem?_eq_some_iff.1 hv).1
  rw [List.getElem?_append_right (by omega), List.getElem?_append_left (by omega)]
  rw [show 3 + j - (envL s).length = j by omega]
  exact hv
theorem SpAt.cop {W : World} {g : Nat} {s : Sp} (h : SpAt W g s) (hf : FrOk s.f) : W.cell? ⟨g, 30, none⟩ = some (.int .u8 (s.op : Int)) := h.cell (spL_at hf 1)
theorem SpAt.ca {W : World} {g : Nat} {s : Sp} (h : SpAt W g s) (hf : FrOk s.f) : W.cell? ⟨g, 31, none⟩ = some (.int .i64 s.a) := h.cell (spL_at hf 2)
theorem SpAt.cb {W : World} {g : Nat} {s : Sp} (h : SpAt W g s) (hf : FrOk s.f) : W.cell? ⟨g, 32, none⟩ = some (.int .i64 s.b) := h.cell (spL_at hf 3)
theorem SpAt.range {W : World} {g : Nat} {s : Sp} (h : SpAt W g s) : W.rangeAt g 3 (frL s.f) := fun _ _ hv => h.cell (spL_fr hv)
theorem spA_size {s : Sp} (h : FrOk s.f) : (spA s).size = 33 := by
  have e2 := frL_len h
  simp [spA, spL, envL, inL, e2]
theorem sizeSp {s : Sp} (h : FrOk s.f) : (Tryz.prog.info? 51).map (·.size) = some (spA s).size := by rw [spA_size h]; kernel_rfl
theorem spA_one (s : Sp) : (spA s).all (·.oneCell') = true := all_oneCell_toArray (fun v hv => by
  simp only [spL, envL, inL, List.mem_append, List.mem_cons, List.not_mem_nil, or_false] at hv
  rcases hv with (rfl | rfl | rfl) | hv | rfl | rfl | rfl | rfl
  · rfl
  · rfl
  · rfl
  · exact frL_one _ v hv
  · rfl
  · rfl
  · rfl
  · rfl)

/-- A row of types is answered, and nothing old is turned. -/
def Row (w : World) (l : List Nat) (e : Ending) (w' : World) : Prop := (∃ ga gc, e = .returned (.slice ga l.length gc) ∧ PAt w' ga l) ∧ Below w.heap.size w w'
theorem pAt_lit (w : World) (l : List Nat) (ty : TypeId) : PAt (w.alloc (.cells (slV l).toArray ty)) (some ⟨w.heap.size, 0, none⟩) l := fun i t hi => by
  refine ⟨w.heap.size, 0, rfl, ?_⟩
  rw [cell_of_row _ _ _ _ _ _ (heap_alloc_new w _)]
  rw [Nat.zero_add]
  simpa using slV_get hi
theorem pAt_nil (w : World) (ga : Option Addr) : PAt w ga [] := fun i t hi => by simp at hi
def rtD (r : Nat) : List Nat := if r = 0 then [] else [r]
def sgOf (L : List Sg) (a : Int) : Option Sg := L[a.toNat]?
def fldT (T : List Cl) (a b : Int) : Nat := match (fieldsB T a)[b.toNat]? with | some f => f.ty | none => 0

theorem tk_nothing (s : Sp) (w : World) : Calls Tryz.prog 74 #[.agg (spA s)] w (Row w []) := by
  have al := (Below.refl w.heap.size w).alloc (Nat.le_refl _) (.cells (spA s) 51)
  have HB := hide al
  have HS := hide (SpAt.new w s)
  go_enter Tryz.func74, Tryz.ntmps74
  go_upto_region 1 with fail
  generalize (w.alloc (.cells (spA s) 51)) = W1 at al HB HS ⊢
  clear al HS
  go_wp2
  go_ret
  exact ⟨⟨_, _, rfl, pAt_nil _ _⟩, unhide HB⟩

theorem tk_anything (s : Sp) (w : World) : Calls Tryz.prog 81 #[.agg (spA s)] w (Row w [0]) := by
  have al := (Below.refl w.heap.size w).alloc (Nat.le_refl _) (.cells (spA s) 51)
  have HB := hide al
  have HS := hide (SpAt.new w s)
  go_enter Tryz.func81, Tryz.ntmps81
  go_upto_region 1 with fail
  generalize (w.alloc (.cells (spA s) 51)) = W1 at al HB HS ⊢
  clear al HS
  go_wp2
  go_ret
  exact ⟨⟨_, _, rfl, pAt_lit W1 [0] _⟩, (unhide HB).alloc (unhide HB).size _⟩

theorem tk_anyTwo (s : Sp) (w : World) : Calls Tryz.prog 84 #[.agg (spA s)] w (Row w [0, 0]) := by
  have al := (Below.refl w.heap.size w).alloc (Nat.le_refl _) (.cells (spA s) 51)
  have HB := hide al
  have HS := hide (SpAt.new w s)
  go_enter Tryz.func84, Tryz.ntmps84
  go_upto_region 1 with fail
  generalize (w.alloc (.cells (spA s) 51)) = W1 at al HB HS ⊢
  clear al HS
  go_wp2
  go_ret
  exact ⟨⟨_, _, rfl, pAt_lit W1 [0, 0] _⟩, (unhide HB).alloc (unhide HB).size _⟩

theorem tk_oneInt (s : Sp) (w : World) : Calls Tryz.prog 87 #[.agg (spA s)] w (Row w [1]) := by
  have al := (Below.refl w.heap.size w).alloc (Nat.le_refl _) (.cells (spA s) 51)
  have HB := hide al
  have HS := hide (SpAt.new w s)
  go_enter Tryz.func87, Tryz.ntmps87
  go_upto_region 1 with fail
  generalize (w.alloc (.cells (spA s) 51)) = W1 at al HB HS ⊢
  clear al HS
  go_wp2
  go_ret
  exact ⟨⟨_, _, rfl, pAt_lit W1 [1] _⟩, (unhide HB).alloc (unhide HB).size _⟩

theorem tk_twoInts (s : Sp) (w : World) : Calls Tryz.prog 86 #[.agg (spA s)] w (Row w [1, 1]) := by
  have al := (Below.refl w.heap.size w).alloc (Nat.le_refl _) (.cells (spA s) 51)
  have HB := hide al
  have HS := hide (SpAt.new w s)
  go_enter Tryz.func86, Tryz.ntmps86
  go_upto_region 1 with fail
  generalize (w.alloc (.cells (spA s) 51)) = W1 at al HB HS ⊢
  clear al HS
  go_wp2
  go_ret
  exact ⟨⟨_, _, rfl, pAt_lit W1 [1, 1] _⟩, (unhide HB).alloc (unhide HB).size _⟩

theorem tk_oneBool (s : Sp) (w : World) : Calls Tryz.prog 89 #[.agg (spA s)] w (Row w [2]) := by
  have al := (Below.refl w.heap.size w).alloc (Nat.le_refl _) (.cells (spA s) 51)
  have HB := hide al
  have HS := hide (SpAt.new w s)
  go_enter Tryz.func89, Tryz.ntmps89
  go_upto_region 1 with fail
  generalize (w.alloc (.cells (spA s) 51)) = W1 at al HB HS ⊢
  clear al HS
  go_wp2
  go_ret
  exact ⟨⟨_, _, rfl, pAt_lit W1 [2] _⟩, (unhide HB).alloc (unhide HB).size _⟩

theorem tk_oneRef (s : Sp) (w : World) : Calls Tryz.prog 102 #[.agg (spA s)] w (Row w [5]) := by
  have al := (Below.refl w.heap.size w).alloc (Nat.le_refl _) (.cells (spA s) 51)
  have HB := hide al
  have HS := hide (SpAt.new w s)
  go_enter Tryz.func102, Tryz.ntmps102
  go_upto_region 1 with fail
  generalize (w.alloc (.cells (spA s) 51)) = W1 at al HB HS ⊢
  clear al HS
  go_wp2
  go_ret
  exact ⟨⟨_, _, rfl, pAt_lit W1 [5] _⟩, (unhide HB).alloc (unhide HB).size _⟩

theorem tk_twoRefs (s : Sp) (w : World) : Calls Tryz.prog 90 #[.agg (spA s)] w (Row w [5, 5]) := by
  have al := (Below.refl w.heap.size w).alloc (Nat.le_refl _) (.cells (spA s) 51)
  have HB := hide al
  have HS := hide (SpAt.new w s)
  go_enter Tryz.func90, Tryz.ntmps90
  go_upto_region 1 with fail
  generalize (w.alloc (.cells (spA s) 51)) = W1 at al HB HS ⊢
  clear al HS
  go_wp2
  go_ret
  exact ⟨⟨_, _, rfl, pAt_lit W1 [5, 5] _⟩, (unhide HB).alloc (unhide HB).size _⟩

theorem tk_oneRow (s : Sp) (w : World) : Calls Tryz.prog 99 #[.agg (spA s)] w (Row w [4]) := by
  have al := (Below.refl w.heap.size w).alloc (Nat.le_refl _) (.cells (spA s) 51)
  have HB := hide al
  have HS := hide (SpAt.new w s)
  go_enter Tryz.func99, Tryz.ntmps99
  go_upto_region 1 with fail
  generalize (w.alloc (.cells (spA s) 51)) = W1 at al HB HS ⊢
  clear al HS
  go_wp2
  go_ret
  exact ⟨⟨_, _, rfl, pAt_lit W1 [4] _⟩, (unhide HB).alloc (unhide HB).size _⟩

theorem tk_rowAndInt (s : Sp) (w : World) : Calls Tryz.prog 100 #[.agg (spA s)] w (Row w [4, 1]) := by
  have al := (Below.refl w.heap.size w).alloc (Nat.le_refl _) (.cells (spA s) 51)
  have HB := hide al
  have HS := hide (SpAt.new w s)
  go_enter Tryz.func100, Tryz.ntmps100
  go_upto_region 1 with fail
  generalize (w.alloc (.cells (spA s) 51)) = W1 at al HB HS ⊢
  clear al HS
  go_wp2
  go_ret
  exact ⟨⟨_, _, rfl, pAt_lit W1 [4, 1] _⟩, (unhide HB).alloc (unhide HB).size _⟩

theorem tk_rowAndTwoInts (s : Sp) (w : World) : Calls Tryz.prog 101 #[.agg (spA s)] w (Row w [4, 1, 1]) := by
  have al := (Below.refl w.heap.size w).alloc (Nat.le_refl _) (.cells (spA s) 51)
  have HB := hide al
  have HS := hide (SpAt.new w s)
  go_enter Tryz.func101, Tryz.ntmps101
  go_upto_region 1 with fail
  generalize (w.alloc (.cells (spA s) 51)) = W1 at al HB HS ⊢
  clear al HS
  go_wp2
  go_ret
  exact ⟨⟨_, _, rfl, pAt_lit W1 [4, 1, 1] _⟩, (unhide HB).alloc (unhide HB).size _⟩

theorem gv_givesNothing (s : Sp) (v : Value) (w : World) : Calls Tryz.prog 75 #[.agg (spA s), v] w (Row w []) := by
  have al := (Below.refl w.heap.size w).alloc (Nat.le_refl _) (.cells (spA s) 51)
  have HB := hide al
  have HS := hide (SpAt.new w s)
  go_enter Tryz.func75, Tryz.ntmps75
  go_upto_region 1 with fail
  generalize (w.alloc (.cells (spA s) 51)) = W1 at al HB HS ⊢
  clear al HS
  go_wp2
  go_ret
  exact ⟨⟨_, _, rfl, pAt_nil _ _⟩, unhide HB⟩

theorem gv_givesInt (s : Sp) (v : Value) (w : World) : Calls Tryz.prog 76 #[.agg (spA s), v] w (Row w [1]) := by
  have al := (Below.refl w.heap.size w).alloc (Nat.le_refl _) (.cells (spA s) 51)
  have HB := hide al
  have HS := hide (SpAt.new w s)
  go_enter Tryz.func76, Tryz.ntmps76
  go_upto_region 1 with fail
  generalize (w.alloc (.cells (spA s) 51)) = W1 at al HB HS ⊢
  clear al HS
  go_wp2
  go_ret
  exact ⟨⟨_, _, rfl, pAt_lit W1 [1] _⟩, (unhide HB).alloc (unhide HB).size _⟩

theorem gv_givesBool (s : Sp) (v : Value) (w : World) : Calls Tryz.prog 77 #[.agg (spA s), v] w (Row w [2]) := by
  have al := (Below.refl w.heap.size w).alloc (Nat.le_refl _) (.cells (spA s) 51)
  have HB := hide al
  have HS := hide (SpAt.new w s)
  go_enter Tryz.func77, Tryz.ntmps77
  go_upto_region 1 with fail
  generalize (w.alloc (.cells (spA s) 51)) = W1 at al HB HS ⊢
  clear al HS
  go_wp2
  go_ret
  exact ⟨⟨_, _, rfl, pAt_lit W1 [2] _⟩, (unhide HB).alloc (unhide HB).size _⟩

theorem gv_givesNull (s : Sp) (v : Value) (w : World) : Calls Tryz.prog 78 #[.agg (spA s), v] w (Row w [3]) := by
  have al := (Below.refl w.heap.size w).alloc (Nat.le_refl _) (.cells (spA s) 51)
  have HB := hide al
  have HS := hide (SpAt.new w s)
  go_enter Tryz.func78, Tryz.ntmps78
  go_upto_region 1 with fail
  generalize (w.alloc (.cells (spA s) 51)) = W1 at al HB HS ⊢
  clear al HS
  go_wp2
  go_ret
  exact ⟨⟨_, _, rfl, pAt_lit W1 [3] _⟩, (unhide HB).alloc (unhide HB).size _⟩

theorem gv_givesRow (s : Sp) (v : Value) (w : World) : Calls Tryz.prog 98 #[.agg (spA s), v] w (Row w [4]) := by
  have al := (Below.refl w.heap.size w).alloc (Nat.le_refl _) (.cells (spA s) 51)
  have HB := hide al
  have HS := hide (SpAt.new w s)
  go_enter Tryz.func98, Tryz.ntmps98
  go_upto_region 1 with fail
  generalize (w.alloc (.cells (spA s) 51)) = W1 at al HB HS ⊢
  clear al HS
  go_wp2
  go_ret
  exact ⟨⟨_, _, rfl, pAt_lit W1 [4] _⟩, (unhide HB).alloc (unhide HB).size _⟩

end Go.Proofs.YtkodmpcnndbngaaGreatDoor

/-
  The spot's methods (local, called, class, fields, field), resultOf, and what instructions take, give and want beside, those that look at the spot: as the plain functions say; nothing old is turned.
-/
namespace Go.Proofs.YtkodmpcnndbngaaGreatDoor
open Go.RowKit
set_option maxRecDepth 20000

theorem resultOf_any (po : Option Addr) (n pc rt : Nat) (w : World) : Calls Tryz.prog 120 #[.agg #[.slice po n pc, .int .u8 (rt : Int)]] w (Row w (rtD rt)) := by
  have al := (Below.refl w.heap.size w).alloc (Nat.le_refl _) (.cells #[.slice po n pc, .int .u8 (rt : Int)] 46)
  have HB := hide al
  have HC : Hid (SBx (w.alloc (.cells #[.slice po n pc, .int .u8 (rt : Int)] 46)) w.heap.size (.slice po n pc) rt) := hide (heap_alloc_new w _)
  clear al
  go_enter Tryz.func120, Tryz.ntmps120
  go_upto_region 1 with fail
  generalize (w.alloc (.cells #[.slice po n pc, .int .u8 (rt : Int)] 46)) = W1 at HB HC ⊢
  have s1 := (unhide HC).c1
  by_cases h0 : rt = 0
  · have b1 : (((rt : Nat) : Int) == 0) = true := beq_t (by omega)
    have HE : Hid (rtD rt = []) := hide (by unfold rtD; rw [if_pos h0])
    clear h0
    go_wp2
    go_ret
    rw [unhide HE]
    exact ⟨⟨_, _, rfl, pAt_nil _ _⟩, unhide HB⟩
  · have b1 : (((rt : Nat) : Int) == 0) = false := beq_f (by omega)
    have HE : Hid (rtD rt = [rt]) := hide (by unfold rtD; rw [if_neg h0])
    clear h0
    go_wp2
    go_ret
    rw [unhide HE]
    exact ⟨⟨_, _, rfl, pAt_lit W1 [rt] _⟩, (unhide HB).alloc (unhide HB).size _⟩

set_option maxHeartbeats 1000000 in
theorem local_any (s : Sp) (w : World) (hok : SpOk w s) : Calls Tryz.prog 118 #[.agg (spA s)] w fun e w' => e = .returned (.int .u8 ((loadD s.f s.a).1 : Int)) ∧ Below w.heap.size w w' := by
  have al := (Below.refl w.heap.size w).alloc (Nat.le_refl _) (.cells (spA s) 51)
  have HB := hide al
  have HS := hide (SpAt.new w s)
  have HOK := hide (hok.below al)
  clear hok al
  go_enter Tryz.func118, Tryz.ntmps118
  go_upto_region 1 with fail
  generalize (w.alloc (.cells (spA s) 51)) = W1 at HB HS HOK ⊢
  have ka := (unhide HS).ca (unhide HOK).fr
  go_wp2_with (refine wpList_load_mid rfl 29 (.tmp 6) rfl w.heap.size 3 rfl (frL s.f) _ (unhide HS).range Tryz.underlying29 rfl (sizeFrL (unhide HOK).fr) ?_)
  refine (Load_any s.f s.a _ (unhide HOK).fr (unhide HOK).a).mono ?_
  rintro e W2 ⟨rfl, hB2⟩
  have HB2 := hide ((unhide HB).trans (hB2.mono (unhide HB).size))
  have HE : Hid (twoV (loadD s.f s.a) = .tuple #[.int .u8 ((loadD s.f s.a).1 : Int), .int .i64 (loadD s.f s.a).2]) := hide rfl
  rw [unhide HE]
  clear hB2 ka
  go_wp2
  go_ret
  exact ⟨rfl, unhide HB2⟩

theorem SBx.set1 {W : World} {g r : Nat} {v : Value} (h : SBx W g v r) (r' : Nat) : SBx (W.setCell ⟨g, 1, none⟩ (.int .u8 (r' : Int))) g v r' := by
  unfold SBx at h ⊢
  simp only [World.setCell, Array.getElem?_modify, if_true, h]
  rfl
set_option maxHeartbeats 1000000 in
theorem called_any (s : Sp) (w : World) (hok : SpOk w s) (x : Sg) (c : Nat) (hc : s.a = (c : Int)) (hx : s.L[c]? = some x) : Calls Tryz.prog 119 #[.agg (spA s)] w fun e w' => e = .returned (.agg #[.slice x.po x.ps.length x.pc, .int .u8 (x.rt : Int)]) ∧ Below w.heap.size w w' := by
  have hlt := (List.getElem?_eq_some_iff.1 hx).1
  have hzl := hok.hzl
  obtain ⟨b, off, ep, hxa⟩ := hok.sgs c x hx
  have al := (Below.refl w.heap.size w).alloc (Nat.le_refl _) (.cells (spA s) 51)
  have HS := hide (SpAt.new w s)
  have c0 := (hxa.below al).c0
  have c1 := (hxa.below al).c1
  have HB := hide al
  have hfr := hok.fr
  clear hok al hxa hx
  go_enter Tryz.func119, Tryz.ntmps119
  go_upto_region 1 with fail
  obtain ⟨FB, HFB⟩ : ∃ FB, Hid (w.heap.size + 1 = FB) := ⟨_, hide rfl⟩
  have HZ : Hid (SBx ((w.alloc (.cells (spA s) 51)).alloc (.cells #[.slice none 0 0, .int .u8 0] 46)) FB (.slice none 0 0) 0) := hide (by rw [← unhide HFB, ← World.size_alloc w (.cells (spA s) 51)]; exact heap_alloc_new _ _)
  rw [unhide HFB]
  generalize (w.alloc (.cells (spA s) 51)) = W1 at HB HS c0 c1 HZ ⊢
  have al2 := (Below.refl W1.heap.size W1).alloc (Nat.le_refl _) (.cells #[.slice none 0 0, .int .u8 0] 46)
  have HS2 := hide ((unhide HS).below al2 (unhide HS).lt)
  have HB2 := hide ((unhide HB).trans (al2.mono (unhide HB).size))
  have lb := World.block_lt_of_cell? W1 _ c0
  have d0 := (al2.cell (p := ⟨b, off + c * 2, none⟩) lb).trans c0
  have d1 := (al2.cell (p := ⟨b, off + c * 2 + 1, none⟩) lb).trans c1
  clear HB HS c0 c1 al2 lb
  generalize (W1.alloc (.cells #[.slice none 0 0, .int .u8 0] 46)) = W2 at HB2 HS2 d0 d1 HZ ⊢
  have k1 := (unhide HS2).c1
  have ka := (unhide HS2).ca hfr
  rw [hc] at ka
  rw [ep] at k1
  have j1 : (0 : Int) ≤ ((c : Nat) : Int) := by omega
  have j2 : ((c : Nat) : Int) < ((s.L.length : Nat) : Int) := by omega
  clear hc ep
  have hz := (unhide HZ).f
  have HFB2 : Hid (w.heap.size ≤ FB) := hide (by have := unhide HFB; omega)
  have z0 := (unhide HZ).c0
  have z1 := (unhide HZ).c1
  have f0 := hz 0
  have f1 := hz 1
  clear hz
  go_wp2
  exact bodyPost_ret (v := .agg #[.slice x.po x.ps.length x.pc, .int .u8 (x.rt : Int)]) (results_sg1 rfl _ _ FB _ _ rfl (((unhide HZ).set0 _).set1 _)) rfl ⟨rfl, ((unhide HB2).setCell (unhide HFB2) _).setCell (unhide HFB2) _⟩


theorem SpAt.all {W : World} {g : Nat} {s : Sp} (h : SpAt W g s) : W.rangeAt g 0 (spL s) := fun j _ hv => h.cell (by rw [Nat.zero_add]; exact hv)
theorem class_any (s : Sp) (w : World) (hok : SpOk w s) (c : Nat) (hc : s.a = (c : Int)) (hlt : c < 240) (q : Nat) (hq : q = 16 + c) : Calls Tryz.prog 121 #[.agg (spA s)] w fun e w' => e = .returned (.int .u8 (q : Int)) ∧ Below w.heap.size w w' := by
  have al := (Below.refl w.heap.size w).alloc (Nat.le_refl _) (.cells (spA s) 51)
  have HB := hide al
  have HS := hide (SpAt.new w s)
  have HOK := hide (hok.below al)
  clear hok al
  go_enter Tryz.func121, Tryz.ntmps121
  go_upto_region 1 with fail
  generalize (w.alloc (.cells (spA s) 51)) = W1 at HB HS HOK ⊢
  have ka := (unhide HS).ca (unhide HOK).fr
  rw [hc] at ka
  have HQ := hide hq
  clear hc hq
  go_wp2
  go_ret
  exact ⟨ret_int (by have := unhide HQ; omega), unhide HB⟩

theorem fields_any (s : Sp) (w : World) (hok : SpOk w s) : Calls Tryz.prog 69 #[.agg (spA s)] w fun e w' => ∃ fa fc, e = .returned (.slice fa (fieldsB s.T s.a).length fc) ∧ FsAt w' fa (fieldsB s.T s.a) ∧ Below w.heap.size w w' := by
  have al := (Below.refl w.heap.size w).alloc (Nat.le_refl _) (.cells (spA s) 51)
  have HB := hide al
  have HS := hide (SpAt.new w s)
  have HOK := hide (hok.below al)
  clear hok al
  go_enter Tryz.func69, Tryz.ntmps69
  go_upto_region 1 with fail
  generalize (w.alloc (.cells (spA s) 51)) = W1 at HB HS HOK ⊢
  have ka := (unhide HS).ca (unhide HOK).fr
  have k0 := (unhide HS).c0
  have hl := fields_len (unhide HOK).can.made s.a
  go_wp2_with fail
  refine (Fields_any s.ao s.cap s.T s.a _ (unhide HOK).tab (unhide HOK).hz (by omega)).mono ?_
  rintro e W2 ⟨v, rfl, hO, hB2⟩
  obtain ⟨fa, fc, rfl, hF, -, -⟩ := hO.at (fieldsB_ok (unhide HOK).tab s.a)
  have HB2 := hide ((unhide HB).trans (hB2.mono (unhide HB).size))
  clear hB2 ka k0 hO
  go_wp2
  go_ret
  exact ⟨fa, fc, rfl, hF, unhide HB2⟩

set_option maxHeartbeats 2000000 in
theorem field_any (s : Sp) (w : World) (hok : SpOk w s) (d : Nat) (f : Fl) (hd : s.b = (d : Int)) (hf : (fieldsB s.T s.a)[d]? = some f) : Calls Tryz.prog 122 #[.agg (spA s)] w fun e w' => e = .returned (.int .u8 (f.ty : Int)) ∧ Below w.heap.size w w' := by
  have al := (Below.refl w.heap.size w).alloc (Nat.le_refl _) (.cells (spA s) 51)
  have HB := hide al
  have HS := hide (SpAt.new w s)
  have HOK := hide (hok.below al)
  clear hok al
  go_enter Tryz.func122, Tryz.ntmps122
  go_upto_region 1 with fail
  generalize (w.alloc (.cells (spA s) 51)) = W1 at HB HS HOK ⊢
  have hfr := (unhide HOK).fr
  have HFD := hide (fields_any s W1.drew ((unhide HOK).below (belowD (Below.refl _ _) 1)))
  have HBd : Hid (Below w.heap.size w W1.drew) := hide (belowD (unhide HB) 1)
  have HSd : Hid (SpAt W1.drew w.heap.size s) := hide (unhide HS)
  refine wp_region_held_drew (S := fun w' => SpAt w' w.heap.size s) (by kernel_rfl) (unhide HS) (fun hS => ?_)
  clear HB HS
  generalize W1.drew = Wd at HFD HBd HSd hS ⊢
  refine wpAnyH_take (i := 0) (v := .agg (spA s)) rfl (by kernel_rfl) (by kernel_rfl) (by kernel_rfl) (fun _ _ _ h => h) (yieldsIf_load_mid (by rfl) 51 _ rfl w.heap.size 0 rfl (spL s) _ (fun _ h => SpAt.all h) Tryz.underlying51 rfl (by rw [show (spL s).length = 33 from by have := spA_size hfr; simpa [spA] using this]; kernel_rfl)) hS ?_
  refine wpAnyH_take (i := 2) (v := .pointer (some ⟨w.heap.size, 29, none⟩)) rfl (by kernel_rfl) (by kernel_rfl) (by kernel_rfl) (fun _ _ _ h => h) (Or.inl ⟨by rfl, fun W h => by go_simp⟩) hS ?_
  refine wpAnyH_take (i := 3) (v := .pointer (some ⟨w.heap.size, 32, none⟩)) rfl (by kernel_rfl) (by kernel_rfl) (by kernel_rfl) (fun _ _ _ h => h) (Or.inl ⟨by rfl, fun W h => by go_simp⟩) hS ?_
  refine wpAnyH_take (i := 4) (v := .int .i64 s.b) rfl (by kernel_rfl) (by kernel_rfl) (by kernel_rfl) (fun _ _ _ h => h) (Or.inl ⟨by rfl, fun W h => by have hb := SpAt.cb h hfr; go_simp⟩) hS ?_
  refine wpAnyH_ready (rs := [1]) (by kernel_rfl) (by simp) ?_
  refine AllReadyH.cons rfl (fun K hK => ?_) AllReadyH.nil
  go_simp
  go_wp2_with (go_at_call 69; refine (unhide HFD).mono ?_; rintro e W2 ⟨fa, fc, rfl, hF, hB2⟩)
  have HB2 := hide ((unhide HBd).trans (hB2.mono (unhide HBd).size))
  refine hK.out _ _ ((unhide HSd).below hB2 (unhide HSd).lt) (fun hS2 => ?_)
  clear hK K hS hB2 HBd HSd HFD
  obtain ⟨b, off, rfl, hfa⟩ := hF d f hf
  have c1 := hfa.c1
  have hlt := (List.getElem?_eq_some_iff.1 hf).1
  have hln := fields_len (unhide HOK).can.made s.a
  generalize (fieldsB s.T s.a).length = nl at hlt hln ⊢
  have j1 : (0 : Int) ≤ ((d : Nat) : Int) := by omega
  have j2 : ((d : Nat) : Int) < ((nl : Nat) : Int) := by omega
  clear hd hf hF hfa
  refine wpAnyH_ready (rs := [5]) (by kernel_rfl) (by simp) ?_
  refine AllReadyH.cons rfl (fun K hK => ?_) AllReadyH.nil
  go_simp
  refine hK.out _ _ hS2 (fun hS2 => ?_)
  clear hK K
  refine wpAnyH_ready (rs := [6]) (by kernel_rfl) (by simp) ?_
  refine AllReadyH.cons rfl (fun K hK => ?_) AllReadyH.nil
  go_simp
  refine hK.out _ _ hS2 (fun hS2 => ?_)
  clear hK K
  refine wpAnyH_ready (rs := [7]) (by kernel_rfl) (by simp) ?_
  refine AllReadyH.cons rfl (fun K hK => ?_) AllReadyH.nil
  go_simp
  refine hK.out _ _ hS2 (fun hS2 => ?_)
  clear hK K
  refine wpAnyH_ready (rs := [8]) (by kernel_rfl) (by simp) ?_
  refine AllReadyH.cons rfl (fun K hK => ?_) AllReadyH.nil
  go_simp
  refine hK.out _ _ hS2 (fun hS2 => ?_)
  clear hK K
  refine wpAnyH_done (by kernel_rfl) ?_ _
  go_wp2
  go_ret
  exact ⟨rfl, unhide HB2⟩


theorem run_fieldSg (W : World) (v u : Value) : (Instr.field 46 (.agg #[v, u]) 0).run Tryz.prog W = .ok v W := by
  rfl
theorem tk_itsParams (s : Sp) (w : World) (hok : SpOk w s) (x : Sg) (c : Nat) (hc : s.a = (c : Int)) (hx : s.L[c]? = some x) : Calls Tryz.prog 91 #[.agg (spA s)] w (Row w x.ps) := by
  have al := (Below.refl w.heap.size w).alloc (Nat.le_refl _) (.cells (spA s) 51)
  have HB := hide al
  have HS := hide (SpAt.new w s)
  have HOK := hide (hok.below al)
  clear hok al
  go_enter Tryz.func91, Tryz.ntmps91
  go_upto_region 1 with fail
  generalize (w.alloc (.cells (spA s) 51)) = W1 at HB HS HOK ⊢
  have HCA := hide (called_any s W1 (unhide HOK) x c hc hx)
  have HPA : Hid (PAt W1 x.po x.ps) := hide (by obtain ⟨b, off, -, hxa⟩ := (unhide HOK).sgs c x hx; exact hxa.ok.prm)
  clear hc hx
  go_wp2_with (refine wpList_load_rowG (by kernel_rfl) 51 (.tmp 1) rfl w.heap.size rfl 51 (spA s) (0, 0) _ (unhide HS) Tryz.underlying51 rfl (sizeSp (unhide HOK).fr) ?_)
  refine (unhide HCA).mono ?_
  rintro e W2 ⟨rfl, hB2⟩
  have HB2 := hide ((unhide HB).trans (hB2.mono (unhide HB).size))
  have HP2 := hide ((unhide HPA).below hB2)
  clear hB2 HCA
  have hfd := run_fieldSg W2 (.slice x.po x.ps.length x.pc) (.int .u8 (x.rt : Int))
  go_wp2_with fail
  go_simp
  go_wp2
  go_ret
  exact ⟨⟨_, _, rfl, unhide HP2⟩, unhide HB2⟩

theorem tk_ownResult (s : Sp) (w : World) (hok : SpOk w s) (x : Sg) (c : Nat) (hc : s.fn = (c : Int)) (hx : s.L[c]? = some x) : Calls Tryz.prog 93 #[.agg (spA s)] w (Row w (rtD x.rt)) := by
  have al := (Below.refl w.heap.size w).alloc (Nat.le_refl _) (.cells (spA s) 51)
  have HB := hide al
  have HS := hide (SpAt.new w s)
  have HOK := hide (hok.below al)
  clear hok al
  go_enter Tryz.func93, Tryz.ntmps93
  go_upto_region 1 with fail
  generalize (w.alloc (.cells (spA s) 51)) = W1 at HB HS HOK ⊢
  obtain ⟨b, off, ep, hxa⟩ := (unhide HOK).sgs c x hx
  have hlt := (List.getElem?_eq_some_iff.1 hx).1
  have hzl := (unhide HOK).hzl
  have c0 := hxa.c0
  have c1 := hxa.c1
  have k1 := (unhide HS).c1
  have k2 := (unhide HS).c2
  rw [hc] at k2
  rw [ep] at k1
  have j1 : (0 : Int) ≤ ((c : Nat) : Int) := by omega
  have j2 : ((c : Nat) : Int) < ((s.L.length : Nat) : Int) := by omega
  clear hc ep hx hxa
  go_wp2_with fail
  refine (resultOf_any x.po x.ps.length x.pc x.rt _).mono ?_
  rintro e W2 ⟨⟨ga, gc, rfl, hP⟩, hB2⟩
  have HB2 := hide ((unhide HB).trans (hB2.mono (unhide HB).size))
  have HP := hide hP
  clear hB2 hP k1 k2 c0 c1
  go_wp2
  go_ret
  exact ⟨⟨_, _, rfl, unhide HP⟩, unhide HB2⟩

theorem tk_oneClass (s : Sp) (w : World) (hok : SpOk w s) (c : Nat) (hc : s.a = (c : Int)) (hlt : c < 240) (q : Nat) (hq : q = 16 + c) : Calls Tryz.prog 95 #[.agg (spA s)] w (Row w [q]) := by
  have al := (Below.refl w.heap.size w).alloc (Nat.le_refl _) (.cells (spA s) 51)
  have HB := hide al
  have HS := hide (SpAt.new w s)
  have HOK := hide (hok.below al)
  clear hok al
  go_enter Tryz.func95, Tryz.ntmps95
  go_upto_region 1 with fail
  generalize (w.alloc (.cells (spA s) 51)) = W1 at HB HS HOK ⊢
  have HCA := hide (class_any s W1 (unhide HOK) c hc hlt q hq)
  clear hc hq
  go_wp2_with (refine wpList_load_rowG (by kernel_rfl) 51 (.tmp 1) rfl w.heap.size rfl 51 (spA s) (0, 0) _ (unhide HS) Tryz.underlying51 rfl (sizeSp (unhide HOK).fr) ?_)
  refine (unhide HCA).mono ?_
  rintro e W2 ⟨rfl, hB2⟩
  have HB2 := hide ((unhide HB).trans (hB2.mono (unhide HB).size))
  clear hB2 HCA
  go_wp2
  go_ret
  exact ⟨⟨_, _, rfl, pAt_lit W2 [q] _⟩, (unhide HB2).alloc (unhide HB2).size _⟩

set_option maxHeartbeats 2000000 in
theorem tk_classAndField (s : Sp) (w : World) (hok : SpOk w s) (c : Nat) (hc : s.a = (c : Int)) (hlt : c < 240) (q : Nat) (hq : q = 16 + c) (d : Nat) (f : Fl) (hd : s.b = (d : Int)) (hf : (fieldsB s.T s.a)[d]? = some f) : Calls Tryz.prog 97 #[.agg (spA s)] w (Row w [q, f.ty]) := by
  have al := (Below.refl w.heap.size w).alloc (Nat.le_refl _) (.cells (spA s) 51)
  have HB := hide al
  have HS := hide (SpAt.new w s)
  have HOK := hide (hok.below al)
  clear hok al
  go_enter Tryz.func97, Tryz.ntmps97
  go_upto_region 1 with fail
  generalize (w.alloc (.cells (spA s) 51)) = W1 at HB HS HOK ⊢
  have hfr := (unhide HOK).fr
  have HCD := hide (class_any s W1.drew ((unhide HOK).below (belowD (Below.refl _ _) 1)) c hc hlt q hq)
  have HFD := hide (fun W (hb : Below W1.heap.size W1 W) => field_any s W ((unhide HOK).below hb) d f hd hf)
  have HBd : Hid (Below w.heap.size w W1.drew) := hide (belowD (unhide HB) 1)
  have HBe : Hid (Below W1.heap.size W1 W1.drew) := hide (belowD (Below.refl _ _) 1)
  have HSd : Hid (SpAt W1.drew w.heap.size s) := hide (unhide HS)
  clear hc hd hf hq
  refine wp_region_held_drew (S := fun w' => SpAt w' w.heap.size s) (by kernel_rfl) (unhide HS) (fun hS => ?_)
  clear HB HS
  generalize W1.drew = Wd at HCD HBd HSd HBe hS ⊢
  refine wpAnyH_take (i := 0) (v := .agg (spA s)) rfl (by kernel_rfl) (by kernel_rfl) (by kernel_rfl) (fun _ _ _ h => h) (yieldsIf_load_mid (by rfl) 51 _ rfl w.heap.size 0 rfl (spL s) _ (fun _ h => SpAt.all h) Tryz.underlying51 rfl (by rw [show (spL s).length = 33 from by have := spA_size hfr; simpa [spA] using this]; kernel_rfl)) hS ?_
  refine wpAnyH_take (i := 2) (v := .agg (spA s)) rfl (by kernel_rfl) (by kernel_rfl) (by kernel_rfl) (fun _ _ _ h => h) (yieldsIf_load_mid (by rfl) 51 _ rfl w.heap.size 0 rfl (spL s) _ (fun _ h => SpAt.all h) Tryz.underlying51 rfl (by rw [show (spL s).length = 33 from by have := spA_size hfr; simpa [spA] using this]; kernel_rfl)) hS ?_
  refine wpAnyH_ready (rs := [1]) (by kernel_rfl) (by simp) ?_
  refine AllReadyH.cons rfl (fun K hK => ?_) AllReadyH.nil
  go_simp
  go_wp2_with (go_at_call 121; refine (unhide HCD).mono ?_; rintro e W2 ⟨rfl, hB2⟩)
  have HB2 := hide ((unhide HBd).trans (hB2.mono (unhide HBd).size))
  have HBe2 : Hid (Below W1.heap.size W1 W2) := hide ((unhide HBe).trans (hB2.mono (unhide HBe).size))
  have HS2 := hide ((unhide HSd).below hB2 (unhide HSd).lt)
  refine hK.out _ _ (unhide HS2) (fun hS2 => ?_)
  clear hK K hS hB2 HBd HSd HCD HBe
  refine wpAnyH_ready (rs := [3]) (by kernel_rfl) (by simp) ?_
  refine AllReadyH.cons rfl (fun K hK => ?_) AllReadyH.nil
  go_simp
  go_wp2_with (go_at_call 122; refine (unhide HFD W2 (unhide HBe2)).mono ?_; rintro e W3 ⟨rfl, hB3⟩)
  have HB3 := hide ((unhide HB2).trans (hB3.mono (unhide HB2).size))
  have HS3 := hide ((unhide HS2).below hB3 (unhide HS2).lt)
  refine hK.out _ _ (unhide HS3) (fun hS3 => ?_)
  clear hK K hS2 hB3 HB2 HS2 HFD HBe2
  refine wpAnyH_ready (rs := [4]) (by kernel_rfl) (by simp) ?_
  refine AllReadyH.cons rfl (fun K hK => ?_) AllReadyH.nil
  go_simp
  refine hK.out _ _ ((unhide HS3).below ((Below.refl W3.heap.size W3).alloc (Nat.le_refl _) _) (unhide HS3).lt) (fun hS4 => ?_)
  clear hK K hS3
  refine wpAnyH_ready (rs := [5]) (by kernel_rfl) (by simp) ?_
  refine AllReadyH.cons rfl (fun K hK => ?_) AllReadyH.nil
  go_simp
  refine hK.out _ _ hS4 (fun hS4 => ?_)
  clear hK K
  refine wpAnyH_done (by kernel_rfl) ?_ _
  go_wp2
  go_ret
  exact ⟨⟨_, _, rfl, pAt_lit W3 [q, f.ty] _⟩, (unhide HB3).alloc (unhide HB3).size _⟩


theorem gv_givesLocal (s : Sp) (v : Value) (w : World) (hok : SpOk w s) : Calls Tryz.prog 79 #[.agg (spA s), v] w (Row w [(loadD s.f s.a).1]) := by
  have al := (Below.refl w.heap.size w).alloc (Nat.le_refl _) (.cells (spA s) 51)
  have HB := hide al
  have HS := hide (SpAt.new w s)
  have HOK := hide (hok.below al)
  clear hok al
  go_enter Tryz.func79, Tryz.ntmps79
  go_upto_region 1 with fail
  generalize (w.alloc (.cells (spA s) 51)) = W1 at HB HS HOK ⊢
  have HCA := hide (local_any s W1 (unhide HOK))
  skip
  go_wp2_with (refine wpList_load_rowG (by kernel_rfl) 51 (.tmp 2) rfl w.heap.size rfl 51 (spA s) (0, 0) _ (unhide HS) Tryz.underlying51 rfl (sizeSp (unhide HOK).fr) ?_)
  refine (unhide HCA).mono ?_
  rintro e W2 ⟨rfl, hB2⟩
  have HB2 := hide ((unhide HB).trans (hB2.mono (unhide HB).size))
  clear hB2 HCA
  go_wp2
  go_ret
  exact ⟨⟨_, _, rfl, pAt_lit W2 [(loadD s.f s.a).1] _⟩, (unhide HB2).alloc (unhide HB2).size _⟩


theorem gv_givesClass (s : Sp) (v : Value) (w : World) (hok : SpOk w s) (c : Nat) (hc : s.a = (c : Int)) (hlt : c < 240) (q : Nat) (hq : q = 16 + c) : Calls Tryz.prog 94 #[.agg (spA s), v] w (Row w [q]) := by
  have al := (Below.refl w.heap.size w).alloc (Nat.le_refl _) (.cells (spA s) 51)
  have HB := hide al
  have HS := hide (SpAt.new w s)
  have HOK := hide (hok.below al)
  clear hok al
  go_enter Tryz.func94, Tryz.ntmps94
  go_upto_region 1 with fail
  generalize (w.alloc (.cells (spA s) 51)) = W1 at HB HS HOK ⊢
  have HCA := hide (class_any s W1 (unhide HOK) c hc hlt q hq)
  clear hq hc
  go_wp2_with (refine wpList_load_rowG (by kernel_rfl) 51 (.tmp 2) rfl w.heap.size rfl 51 (spA s) (0, 0) _ (unhide HS) Tryz.underlying51 rfl (sizeSp (unhide HOK).fr) ?_)
  refine (unhide HCA).mono ?_
  rintro e W2 ⟨rfl, hB2⟩
  have HB2 := hide ((unhide HB).trans (hB2.mono (unhide HB).size))
  clear hB2 HCA
  go_wp2
  go_ret
  exact ⟨⟨_, _, rfl, pAt_lit W2 [q] _⟩, (unhide HB2).alloc (unhide HB2).size _⟩


theorem gv_givesField (s : Sp) (v : Value) (w : World) (hok : SpOk w s) (d : Nat) (f : Fl) (hd : s.b = (d : Int)) (hf : (fieldsB s.T s.a)[d]? = some f) : Calls Tryz.prog 96 #[.agg (spA s), v] w (Row w [f.ty]) := by
  have al := (Below.refl w.heap.size w).alloc (Nat.le_refl _) (.cells (spA s) 51)
  have HB := hide al
  have HS := hide (SpAt.new w s)
  have HOK := hide (hok.below al)
  clear hok al
  go_enter Tryz.func96, Tryz.ntmps96
  go_upto_region 1 with fail
  generalize (w.alloc (.cells (spA s) 51)) = W1 at HB HS HOK ⊢
  have HCA := hide (field_any s W1 (unhide HOK) d f hd hf)
  skip
  go_wp2_with (refine wpList_load_rowG (by kernel_rfl) 51 (.tmp 2) rfl w.heap.size rfl 51 (spA s) (0, 0) _ (unhide HS) Tryz.underlying51 rfl (sizeSp (unhide HOK).fr) ?_)
  refine (unhide HCA).mono ?_
  rintro e W2 ⟨rfl, hB2⟩
  have HB2 := hide ((unhide HB).trans (hB2.mono (unhide HB).size))
  clear hB2 HCA
  go_wp2
  go_ret
  exact ⟨⟨_, _, rfl, pAt_lit W2 [f.ty] _⟩, (unhide HB2).alloc (unhide HB2).size _⟩


theorem gv_givesItsResult (s : Sp) (v : Value) (w : World) (hok : SpOk w s) (x : Sg) (c : Nat) (hc : s.a = (c : Int)) (hx : s.L[c]? = some x) : Calls Tryz.prog 92 #[.agg (spA s), v] w (Row w (rtD x.rt)) := by
  have al := (Below.refl w.heap.size w).alloc (Nat.le_refl _) (.cells (spA s) 51)
  have HB := hide al
  have HS := hide (SpAt.new w s)
  have HOK := hide (hok.below al)
  clear hok al
  go_enter Tryz.func92, Tryz.ntmps92
  go_upto_region 1 with fail
  generalize (w.alloc (.cells (spA s) 51)) = W1 at HB HS HOK ⊢
  have HCA := hide (called_any s W1 (unhide HOK) x c hc hx)
  clear hc hx
  go_wp2_with (refine wpList_load_rowG (by kernel_rfl) 51 (.tmp 2) rfl w.heap.size rfl 51 (spA s) (0, 0) _ (unhide HS) Tryz.underlying51 rfl (sizeSp (unhide HOK).fr) ?_)
  refine (unhide HCA).mono ?_
  rintro e W2 ⟨rfl, hB2⟩
  have HB2 := hide ((unhide HB).trans (hB2.mono (unhide HB).size))
  clear hB2 HCA
  go_wp2_with fail
  refine (resultOf_any x.po x.ps.length x.pc x.rt _).mono ?_
  rintro e W3 ⟨⟨ga, gc, rfl, hP⟩, hB3⟩
  have HB3 := hide ((unhide HB2).trans (hB3.mono (unhide HB2).size))
  have HP := hide hP
  clear hB3 hP
  go_wp2
  go_ret
  exact ⟨⟨_, _, rfl, unhide HP⟩, unhide HB3⟩

theorem al_localIsKnown (s : Sp) (v : Value) (w : World) (hok : SpOk w s) : Calls Tryz.prog 80 #[.agg (spA s), v] w fun e w' => e = .returned (.bool (decide ((loadD s.f s.a).1 ≠ 0))) ∧ Below w.heap.size w w' := by
  have al := (Below.refl w.heap.size w).alloc (Nat.le_refl _) (.cells (spA s) 51)
  have HB := hide al
  have HS := hide (SpAt.new w s)
  have HOK := hide (hok.below al)
  clear hok al
  go_enter Tryz.func80, Tryz.ntmps80
  go_upto_region 1 with fail
  generalize (w.alloc (.cells (spA s) 51)) = W1 at HB HS HOK ⊢
  have HCA := hide (local_any s W1 (unhide HOK))
  go_wp2_with (refine wpList_load_rowG (by kernel_rfl) 51 (.tmp 2) rfl w.heap.size rfl 51 (spA s) (0, 0) _ (unhide HS) Tryz.underlying51 rfl (sizeSp (unhide HOK).fr) ?_)
  refine (unhide HCA).mono ?_
  rintro e W2 ⟨rfl, hB2⟩
  have HB2 := hide ((unhide HB).trans (hB2.mono (unhide HB).size))
  clear hB2 HCA
  have HE : Hid (((((loadD s.f s.a).1 : Nat) : Int) != 0) = decide ((loadD s.f s.a).1 ≠ 0)) := hide (by by_cases h : (loadD s.f s.a).1 = 0 <;> simp [h])
  go_wp2
  go_ret
  exact ⟨ret_bool (unhide HE), unhide HB2⟩


theorem al_takenIsKnown (s : Sp) (ga : Option Addr) (n gc t : Nat) (l : List Nat) (w : World) (hP : PAt w ga (t :: l)) (hn : 0 < n) : Calls Tryz.prog 82 #[.agg (spA s), .slice ga n gc] w fun e w' => e = .returned (.bool (decide (t ≠ 0))) ∧ Below w.heap.size w w' := by
  have al := (Below.refl w.heap.size w).alloc (Nat.le_refl _) (.cells (spA s) 51)
  have HB := hide al
  have HP := hide (hP.below al)
  clear hP al
  go_enter Tryz.func82, Tryz.ntmps82
  go_upto_region 1 with fail
  generalize (w.alloc (.cells (spA s) 51)) = W1 at HB HP ⊢
  obtain ⟨b, off, rfl, c0⟩ := unhide HP 0 t rfl
  rw [Nat.add_zero] at c0
  have n0 : ¬ n = 0 := by omega
  have j0 : (0 : Int) < ((n : Nat) : Int) := by omega
  have HE : Hid ((((t : Nat) : Int) != 0) = decide (t ≠ 0)) := hide (by by_cases h : t = 0 <;> simp [h])
  go_wp2
  go_ret
  exact ⟨ret_bool (unhide HE), unhide HB⟩

theorem gv_givesTwice (s : Sp) (ga : Option Addr) (n gc t : Nat) (l : List Nat) (w : World) (hP : PAt w ga (t :: l)) (hn : 0 < n) : Calls Tryz.prog 83 #[.agg (spA s), .slice ga n gc] w (Row w [t, t]) := by
  have al := (Below.refl w.heap.size w).alloc (Nat.le_refl _) (.cells (spA s) 51)
  have HB := hide al
  have HP := hide (hP.below al)
  clear hP al
  go_enter Tryz.func83, Tryz.ntmps83
  go_upto_region 1 with fail
  generalize (w.alloc (.cells (spA s) 51)) = W1 at HB HP ⊢
  obtain ⟨b, off, rfl, c0⟩ := unhide HP 0 t rfl
  rw [Nat.add_zero] at c0
  have n0 : ¬ n = 0 := by omega
  have j0 : (0 : Int) < ((n : Nat) : Int) := by omega
  have HBd : Hid (Below w.heap.size w W1.drew) := hide (belowD (unhide HB) 1)
  refine wp_region_held_drew (S := fun w' => w'.cell? ⟨b, off, none⟩ = some (.int .u8 (t : Int))) (by kernel_rfl) c0 (fun hS => ?_)
  generalize W1.drew = Wd at HBd hS ⊢
  refine wpAnyH_take (i := 0) (v := .slice (some ⟨b, off, none⟩) n gc) rfl (by kernel_rfl) (by kernel_rfl) (by kernel_rfl) (fun _ _ _ h => h) (Or.inl ⟨by rfl, fun W h => by go_simp⟩) hS ?_
  refine wpAnyH_take (i := 1) (v := .pointer (some ⟨b, off, none⟩)) rfl (by kernel_rfl) (by kernel_rfl) (by kernel_rfl) (fun _ _ _ h => h) (Or.inl ⟨by rfl, fun W h => by go_simp⟩) hS ?_
  refine wpAnyH_take (i := 2) (v := .int .u8 (t : Int)) rfl (by kernel_rfl) (by kernel_rfl) (by kernel_rfl) (fun _ _ _ h => h) (Or.inl ⟨by rfl, fun W h => by go_simp⟩) hS ?_
  refine wpAnyH_take (i := 3) (v := .slice (some ⟨b, off, none⟩) n gc) rfl (by kernel_rfl) (by kernel_rfl) (by kernel_rfl) (fun _ _ _ h => h) (Or.inl ⟨by rfl, fun W h => by go_simp⟩) hS ?_
  refine wpAnyH_take (i := 4) (v := .pointer (some ⟨b, off, none⟩)) rfl (by kernel_rfl) (by kernel_rfl) (by kernel_rfl) (fun _ _ _ h => h) (Or.inl ⟨by rfl, fun W h => by go_simp⟩) hS ?_
  refine wpAnyH_take (i := 5) (v := .int .u8 (t : Int)) rfl (by kernel_rfl) (by kernel_rfl) (by kernel_rfl) (fun _ _ _ h => h) (Or.inl ⟨by rfl, fun W h => by go_simp⟩) hS ?_
  refine wpAnyH_ready (rs := [6]) (by kernel_rfl) (by simp) ?_
  refine AllReadyH.cons rfl (fun K hK => ?_) AllReadyH.nil
  go_simp
  refine hK.out _ _ (cellAlloc _ hS) (fun hS2 => ?_)
  clear hK K
  refine wpAnyH_ready (rs := [7]) (by kernel_rfl) (by simp) ?_
  refine AllReadyH.cons rfl (fun K hK => ?_) AllReadyH.nil
  go_simp
  refine hK.out _ _ hS2 (fun hS2 => ?_)
  clear hK K
  refine wpAnyH_done (by kernel_rfl) ?_ _
  go_wp2
  go_ret
  exact ⟨⟨_, _, rfl, pAt_lit Wd [t, t] _⟩, (unhide HBd).alloc (unhide HBd).size _⟩

theorem gv_givesTurned (s : Sp) (ga : Option Addr) (n gc t u : Nat) (l : List Nat) (w : World) (hP : PAt w ga (t :: u :: l)) (hn : 1 < n) : Calls Tryz.prog 85 #[.agg (spA s), .slice ga n gc] w (Row w [u, t]) := by
  have al := (Below.refl w.heap.size w).alloc (Nat.le_refl _) (.cells (spA s) 51)
  have HB := hide al
  have HP := hide (hP.below al)
  clear hP al
  go_enter Tryz.func85, Tryz.ntmps85
  go_upto_region 1 with fail
  generalize (w.alloc (.cells (spA s) 51)) = W1 at HB HP ⊢
  obtain ⟨b, off, rfl, c0⟩ := unhide HP 0 t rfl
  rw [Nat.add_zero] at c0
  have n0 : ¬ n = 0 := by omega
  have j0 : (0 : Int) < ((n : Nat) : Int) := by omega
  obtain ⟨b', off', e', c1⟩ := unhide HP 1 u rfl
  injection e' with e'
  injection e' with e1 e2
  subst e1
  subst e2
  have j1 : (1 : Int) < ((n : Nat) : Int) := by omega
  have HBd : Hid (Below w.heap.size w W1.drew) := hide (belowD (unhide HB) 1)
  refine wp_region_held_drew (S := fun w' => w'.cell? ⟨b, off, none⟩ = some (.int .u8 (t : Int)) ∧ w'.cell? ⟨b, off + 1, none⟩ = some (.int .u8 (u : Int))) (by kernel_rfl) ⟨c0, c1⟩ (fun hS => ?_)
  generalize W1.drew = Wd at HBd hS ⊢
  refine wpAnyH_take (i := 0) (v := .slice (some ⟨b, off, none⟩) n gc) rfl (by kernel_rfl) (by kernel_rfl) (by kernel_rfl) (fun _ _ _ h => h) (Or.inl ⟨by rfl, fun W h => by go_simp⟩) hS ?_
  refine wpAnyH_take (i := 1) (v := .pointer (some ⟨b, off + 1, none⟩)) rfl (by kernel_rfl) (by kernel_rfl) (by kernel_rfl) (fun _ _ _ h => h) (Or.inl ⟨by rfl, fun W h => by go_simp⟩) hS ?_
  refine wpAnyH_take (i := 2) (v := .int .u8 (u : Int)) rfl (by kernel_rfl) (by kernel_rfl) (by kernel_rfl) (fun _ _ _ h => h) (Or.inl ⟨by rfl, fun W h => by obtain ⟨h0, h1⟩ := h; go_simp⟩) hS ?_
  refine wpAnyH_take (i := 3) (v := .slice (some ⟨b, off, none⟩) n gc) rfl (by kernel_rfl) (by kernel_rfl) (by kernel_rfl) (fun _ _ _ h => h) (Or.inl ⟨by rfl, fun W h => by go_simp⟩) hS ?_
  refine wpAnyH_take (i := 4) (v := .pointer (some ⟨b, off, none⟩)) rfl (by kernel_rfl) (by kernel_rfl) (by kernel_rfl) (fun _ _ _ h => h) (Or.inl ⟨by rfl, fun W h => by go_simp⟩) hS ?_
  refine wpAnyH_take (i := 5) (v := .int .u8 (t : Int)) rfl (by kernel_rfl) (by kernel_rfl) (by kernel_rfl) (fun _ _ _ h => h) (Or.inl ⟨by rfl, fun W h => by obtain ⟨h0, h1⟩ := h; go_simp⟩) hS ?_
  refine wpAnyH_ready (rs := [6]) (by kernel_rfl) (by simp) ?_
  refine AllReadyH.cons rfl (fun K hK => ?_) AllReadyH.nil
  go_simp
  refine hK.out _ _ ⟨cellAlloc _ hS.1, cellAlloc _ hS.2⟩ (fun hS2 => ?_)
  clear hK K
  refine wpAnyH_ready (rs := [7]) (by kernel_rfl) (by simp) ?_
  refine AllReadyH.cons rfl (fun K hK => ?_) AllReadyH.nil
  go_simp
  refine hK.out _ _ hS2 (fun hS2 => ?_)
  clear hK K
  refine wpAnyH_done (by kernel_rfl) ?_ _
  go_wp2
  go_ret
  exact ⟨⟨_, _, rfl, pAt_lit Wd [u, t] _⟩, (unhide HBd).alloc (unhide HBd).size _⟩

theorem two_u {t u : Nat} (h : t = u) (h1 : ¬ t = 1) : (((t : Nat) : Int) == 2) = (decide (t = u) && (decide (t = 1) || decide (t = 2))) := by
  by_cases h2 : t = 2
  · simp [h2, ← h]
  · rw [beq_f (show ((t : Nat) : Int) ≠ 2 by omega)]
    simp [h1, h2]
theorem al_bothIntsOrBools (s : Sp) (ga : Option Addr) (n gc t u : Nat) (l : List Nat) (w : World) (hP : PAt w ga (t :: u :: l)) (hn : 1 < n) : Calls Tryz.prog 88 #[.agg (spA s), .slice ga n gc] w fun e w' => e = .returned (.bool ((decide (t = u) && (decide (t = 1) || decide (t = 2))))) ∧ Below w.heap.size w w' := by
  have al := (Below.refl w.heap.size w).alloc (Nat.le_refl _) (.cells (spA s) 51)
  have HB := hide al
  have HP := hide (hP.below al)
  clear hP al
  go_enter Tryz.func88, Tryz.ntmps88
  go_upto_region 1 with fail
  generalize (w.alloc (.cells (spA s) 51)) = W1 at HB HP ⊢
  obtain ⟨b, off, rfl, c0⟩ := unhide HP 0 t rfl
  rw [Nat.add_zero] at c0
  have n0 : ¬ n = 0 := by omega
  have j0 : (0 : Int) < ((n : Nat) : Int) := by omega
  obtain ⟨b', off', e', c1⟩ := unhide HP 1 u rfl
  injection e' with e'
  injection e' with e1 e2
  subst e1
  subst e2
  have j1 : (1 : Int) < ((n : Nat) : Int) := by omega
  by_cases h : t = u
  · by_cases h1 : t = 1
    · have b0 : (((t : Nat) : Int) == ((u : Nat) : Int)) = true := beq_t (by omega)
      have b1 : (((t : Nat) : Int) == 1) = true := beq_t (by omega)
      have HE : Hid ((decide (t = u) && (decide (t = 1) || decide (t = 2))) = true) := hide (by simp [h1, ← h])
      clear h h1
      go_quiet (fail)
      go_wp2
      go_ret
      exact ⟨ret_bool (unhide HE).symm, belowD (unhide HB) _⟩
    · have b0 : (((t : Nat) : Int) == ((u : Nat) : Int)) = true := beq_t (by omega)
      have b1 : (((t : Nat) : Int) == 1) = false := beq_f (by omega)
      have HE : Hid ((((t : Nat) : Int) == 2) = (decide (t = u) && (decide (t = 1) || decide (t = 2)))) := hide (two_u h h1)
      clear h h1
      go_quiet (fail)
      go_wp2
      go_ret
      exact ⟨ret_bool (unhide HE), belowD (unhide HB) _⟩
  · have b0 : (((t : Nat) : Int) == ((u : Nat) : Int)) = false := beq_f (by omega)
    have HE : Hid ((decide (t = u) && (decide (t = 1) || decide (t = 2))) = false) := hide (by simp [h])
    clear h
    go_quiet (fail)
    go_wp2
    go_ret
    exact ⟨ret_bool (unhide HE).symm, belowD (unhide HB) _⟩

end Go.Proofs.YtkodmpcnndbngaaGreatDoor

/-
  step.rules and (spot).rule: the table of rules, by instruction; nothing old is turned.
-/
namespace Go.Proofs.YtkodmpcnndbngaaGreatDoor
open Go.RowKit
set_option maxRecDepth 20000

abbrev fv (n : Nat) : Value := .func (.func n) #[] #[]
def ruleL : List (List Value) := [[fv 74, fv 75, .nilFunc], [fv 74, fv 76, .nilFunc], [fv 74, fv 77, .nilFunc], [fv 74, fv 78, .nilFunc], [fv 74, fv 79, fv 80], [fv 81, fv 75, fv 82], [fv 81, fv 75, .nilFunc], [fv 81, fv 83, .nilFunc], [fv 84, fv 85, .nilFunc], [fv 86, fv 76, .nilFunc], [fv 86, fv 76, .nilFunc], [fv 86, fv 76, .nilFunc], [fv 86, fv 76, .nilFunc], [fv 86, fv 76, .nilFunc], [fv 87, fv 76, .nilFunc], [fv 86, fv 77, .nilFunc], [fv 84, fv 77, fv 88], [fv 89, fv 77, .nilFunc], [fv 90, fv 77, .nilFunc], [fv 74, fv 75, .nilFunc], [fv 89, fv 75, .nilFunc], [fv 91, fv 92, .nilFunc], [fv 93, fv 75, .nilFunc], [fv 74, fv 94, .nilFunc], [fv 95, fv 96, .nilFunc], [fv 97, fv 75, .nilFunc], [fv 87, fv 98, .nilFunc], [fv 99, fv 76, .nilFunc], [fv 100, fv 76, .nilFunc], [fv 101, fv 75, .nilFunc], [fv 102, fv 94, .nilFunc], [fv 102, fv 77, .nilFunc], [fv 74, fv 75, .nilFunc], [fv 87, fv 75, .nilFunc]]
def ruleA (op : Nat) : Array Value := (ruleL.getD op []).toArray
def rulesA : Array Value := ruleL.flatten.toArray
def zerosA : Array Value := Array.replicate 102 .nilFunc
theorem run_rule2 (W : World) (x y : Nat) : (Instr.build 74 #[(0, fv x), (1, fv y)]).run Tryz.prog W = .ok (.agg #[fv x, fv y, .nilFunc]) W := by kernel_rfl
theorem run_rule3 (W : World) (x y z : Nat) : (Instr.build 74 #[(0, fv x), (1, fv y), (2, fv z)]).run Tryz.prog W = .ok (.agg #[fv x, fv y, fv z]) W := by kernel_rfl
set_option maxRecDepth 40000 in
theorem run_rules (W : World) : (Instr.build 100 #[(0, .agg #[fv 74, fv 75, .nilFunc]), (1, .agg #[fv 74, fv 76, .nilFunc]), (2, .agg #[fv 74, fv 77, .nilFunc]), (3, .agg #[fv 74, fv 78, .nilFunc]), (4, .agg #[fv 74, fv 79, fv 80]), (5, .agg #[fv 81, fv 75, fv 82]), (6, .agg #[fv 81, fv 75, .nilFunc]), (7, .agg #[fv 81, fv 83, .nilFunc]), (8, .agg #[fv 84, fv 85, .nilFunc]), (9, .agg #[fv 86, fv 76, .nilFunc]), (10, .agg #[fv 86, fv 76, .nilFunc]), (11, .agg #[fv 86, fv 76, .nilFunc]), (12, .agg #[fv 86, fv 76, .nilFunc]), (13, .agg #[fv 86, fv 76, .nilFunc]), (14, .agg #[fv 87, fv 76, .nilFunc]), (15, .agg #[fv 86, fv 77, .nilFunc]), (16, .agg #[fv 84, fv 77, fv 88]), (17, .agg #[fv 89, fv 77, .nilFunc]), (18, .agg #[fv 90, fv 77, .nilFunc]), (19, .agg #[fv 74, fv 75, .nilFunc]), (20, .agg #[fv 89, fv 75, .nilFunc]), (21, .agg #[fv 91, fv 92, .nilFunc]), (22, .agg #[fv 93, fv 75, .nilFunc]), (23, .agg #[fv 74, fv 94, .nilFunc]), (24, .agg #[fv 95, fv 96, .nilFunc]), (25, .agg #[fv 97, fv 75, .nilFunc]), (26, .agg #[fv 87, fv 98, .nilFunc]), (27, .agg #[fv 99, fv 76, .nilFunc]), (28, .agg #[fv 100, fv 76, .nilFunc]), (29, .agg #[fv 101, fv 75, .nilFunc]), (30, .agg #[fv 102, fv 94, .nilFunc]), (31, .agg #[fv 102, fv 77, .nilFunc]), (32, .agg #[fv 74, fv 75, .nilFunc]), (33, .agg #[fv 87, fv 75, .nilFunc])]).run Tryz.prog W = .ok (.agg rulesA) W := by kernel_rfl
theorem zerosA_size : zerosA.size = 102 := rfl
theorem rulesA_size : rulesA.size = 102 := rfl
theorem rulesA_one : rulesA.all (·.oneCell') = true := by decide +kernel

def RlAt (W : World) (g : Nat) (cs : Array Value) : Prop := W.heap[g]? = some (.cells cs 100 (0, 0))
set_option maxRecDepth 40000 in
set_option maxHeartbeats 4000000 in
theorem rules_any (w : World) : Calls Tryz.prog 60 #[] w fun e w' => e = .returned (.agg rulesA) ∧ Below w.heap.size w w' := by
  have al := (Below.refl w.heap.size w).alloc (Nat.le_refl _) (.cells zerosA 100)
  have HB := hide al
  have HZ : Hid (RlAt (w.alloc (.cells zerosA 100)) w.heap.size zerosA) := hide (heap_alloc_new w _)
  clear al
  have b2 := run_rule2
  have b3 := run_rule3
  have ba := run_rules
  go_enter Tryz.func60, Tryz.ntmps60
  go_upto_region 1 with fail
  change Code.wp Tryz.prog _ _ _ (w.alloc (.cells zerosA 100))
  generalize (w.alloc (.cells zerosA 100)) = W1 at HB HZ ⊢
  have HR : Hid (RlAt (W1.setRow w.heap.size rulesA) w.heap.size rulesA) := hide (setRow_heap _ _ _ _ _ _ (unhide HZ))
  have HB2 : Hid (Below w.heap.size w (W1.setRow w.heap.size rulesA)) := hide (below_setRow' (unhide HB) (Nat.le_refl _) _)
  go_wp2_with (refine wpList_store_row rfl 100 _ _ rfl w.heap.size rulesA rfl rfl 100 zerosA (unhide HZ) (by rw [rulesA_size]; kernel_rfl) (by rw [rulesA_size, zerosA_size]) rulesA_one ?_)
  refine bodyPost_ret (v := .agg rulesA) ?_ rfl ⟨rfl, unhide HB2⟩
  rw [results_cellG rfl]
  exact (run_loadVar_row _ w.heap.size 100 100 rulesA (0, 0) _ (unhide HR) Tryz.underlying100 rfl (by rw [rulesA_size]; kernel_rfl))

def RuAt (W : World) (g : Nat) (cs : Array Value) : Prop := W.heap[g]? = some (.cells cs 74 (0, 0))
theorem RuAt.lt {W : World} {g : Nat} {cs : Array Value} (h : RuAt W g cs) : g < W.heap.size := (Array.getElem?_eq_some_iff.1 h).1
theorem ruleA_size : ∀ op, op < 34 → (ruleA op).size = 3 := by decide +kernel
theorem ruleA_one : ∀ op, op < 34 → (ruleA op).all (·.oneCell') = true := by decide +kernel
theorem run_index (W : World) (op : Nat) (h : op < 34) : (Instr.index 100 (.agg rulesA) (.int .u8 (op : Int))).run Tryz.prog W = .ok (.agg (ruleA op)) W :=
  cases34 (p := fun op => (Instr.index 100 (.agg rulesA) (.int .u8 (op : Int))).run Tryz.prog W = .ok (.agg (ruleA op)) W) (by kernel_rfl) (by kernel_rfl) (by kernel_rfl) (by kernel_rfl) (by kernel_rfl) (by kernel_rfl) (by kernel_rfl) (by kernel_rfl) (by kernel_rfl) (by kernel_rfl) (by kernel_rfl) (by kernel_rfl) (by kernel_rfl) (by kernel_rfl) (by kernel_rfl) (by kernel_rfl) (by kernel_rfl) (by kernel_rfl) (by kernel_rfl) (by kernel_rfl) (by kernel_rfl) (by kernel_rfl) (by kernel_rfl) (by kernel_rfl) (by kernel_rfl) (by kernel_rfl) (by kernel_rfl) (by kernel_rfl) (by kernel_rfl) (by kernel_rfl) (by kernel_rfl) (by kernel_rfl) (by kernel_rfl) (by kernel_rfl) op h

set_option maxHeartbeats 2000000 in
theorem rule_any (s : Sp) (w : World) (hfr : FrOk s.f) (ho : s.op < 34) : Calls Tryz.prog 33 #[.agg (spA s)] w fun e w' => e = .returned (.agg (ruleA s.op)) ∧ Below w.heap.size w w' := by
  have al := (Below.refl w.heap.size w).alloc (Nat.le_refl _) (.cells (spA s) 51)
  have HB := hide al
  have HS := hide (SpAt.new w s)
  have HN := hide (heap_alloc_new (w.alloc (.cells (spA s) 51)) (.cells #[.nilFunc, .nilFunc, .nilFunc] 74))
  rw [World.size_alloc] at HN
  clear al
  go_enter Tryz.func33, Tryz.ntmps33
  go_upto_region 1 with fail
  generalize (w.alloc (.cells (spA s) 51)) = W0 at HB HS HN ⊢
  have al := (Below.refl W0.heap.size W0).alloc (Nat.le_refl _) (.cells #[.nilFunc, .nilFunc, .nilFunc] 74)
  have HB1 := hide ((unhide HB).trans (al.mono (unhide HB).size))
  have HS1 := hide ((unhide HS).below al (unhide HS).lt)
  clear al HB HS
  generalize (W0.alloc (.cells #[.nilFunc, .nilFunc, .nilFunc] 74)) = W1 at HB1 HS1 HN ⊢
  have HBd : Hid (Below w.heap.size w W1.drew) := hide (belowD (unhide HB1) 1)
  have HSd : Hid (SpAt W1.drew w.heap.size s) := hide (unhide HS1)
  have HNd : Hid (RuAt W1.drew (w.heap.size + 1) #[.nilFunc, .nilFunc, .nilFunc]) := hide (unhide HN)
  refine wp_region_held_drew (S := fun w' => SpAt w' w.heap.size s) (by kernel_rfl) (unhide HS1) (fun hS => ?_)
  clear HB1 HS1 HN
  generalize W1.drew = Wd at HBd HSd HNd hS ⊢
  refine wpAnyH_take (i := 1) (v := .pointer (some ⟨w.heap.size, 29, none⟩)) rfl (by kernel_rfl) (by kernel_rfl) (by kernel_rfl) (fun _ _ _ h => h) (Or.inl ⟨by rfl, fun W h => by go_simp⟩) hS ?_
  refine wpAnyH_take (i := 2) (v := .pointer (some ⟨w.heap.size, 30, none⟩)) rfl (by kernel_rfl) (by kernel_rfl) (by kernel_rfl) (fun _ _ _ h => h) (Or.inl ⟨by rfl, fun W h => by go_simp⟩) hS ?_
  refine wpAnyH_take (i := 3) (v := .int .u8 (s.op : Int)) rfl (by kernel_rfl) (by kernel_rfl) (by kernel_rfl) (fun _ _ _ h => h) (Or.inl ⟨by rfl, fun W h => by have hb := SpAt.cop h hfr; go_simp⟩) hS ?_
  refine wpAnyH_ready (rs := [0]) (by kernel_rfl) (by simp) ?_
  refine AllReadyH.cons rfl (fun K hK => ?_) AllReadyH.nil
  go_simp
  go_wp2_with (go_at_call 60; refine (rules_any Wd).mono ?_; rintro e W2 ⟨rfl, hB2⟩)
  have HB2 := hide ((unhide HBd).trans (hB2.mono (unhide HBd).size))
  have HN2 : Hid (RuAt W2 (w.heap.size + 1) #[.nilFunc, .nilFunc, .nilFunc]) := hide ((hB2.block _ (unhide HNd).lt).trans (unhide HNd))
  have HS2 := hide ((unhide HSd).below hB2 (unhide HSd).lt)
  refine hK.out _ _ (unhide HS2) (fun hS2 => ?_)
  clear hK K hS hB2 HBd HSd HNd
  have hix := run_index W2 s.op ho
  have HSZ := hide (ruleA_size s.op ho)
  have HON := hide (ruleA_one s.op ho)
  refine wpAnyH_ready (rs := [4]) (by kernel_rfl) (by simp) ?_
  refine AllReadyH.cons rfl (fun K hK => ?_) AllReadyH.nil
  go_simp
  refine hK.out _ _ hS2 (fun hS3 => ?_)
  clear hK K hS2 hix
  generalize hcs : ruleA s.op = cs at HSZ HON ⊢
  have HEQ := hide hcs
  clear hcs
  refine wpAnyH_ready (rs := [5]) (by kernel_rfl) (by simp) ?_
  refine AllReadyH.cons rfl (fun K hK => ?_) AllReadyH.nil
  rw [if_pos (by rfl)]
  refine wp_store_row 74 _ _ rfl (w.heap.size + 1) cs rfl rfl 74 #[.nilFunc, .nilFunc, .nilFunc] (unhide HN2) (by rw [unhide HSZ]; kernel_rfl) (by rw [unhide HSZ]; rfl) (unhide HON) ?_
  refine hK.out _ _ ((setRow_other _ _ _ _ (by omega)).trans (unhide HS2)) (fun hS4 => ?_)
  clear hK K hS3
  have HR : Hid (RuAt (W2.setRow (w.heap.size + 1) cs) (w.heap.size + 1) cs) := hide (setRow_heap _ _ _ _ _ _ (unhide HN2))
  have HB3 : Hid (Below w.heap.size w (W2.setRow (w.heap.size + 1) cs)) := hide (below_setRow' (unhide HB2) (by omega) _)
  refine wpAnyH_done (by kernel_rfl) ?_ _
  go_wp2_with fail
  refine bodyPost_ret (v := .agg cs) ?_ rfl ⟨by rw [unhide HEQ], unhide HB3⟩
  rw [results_cellG rfl]
  exact (run_loadVar_row _ (w.heap.size + 1) 74 74 cs (0, 0) _ (unhide HR) Tryz.underlying74 rfl (by rw [unhide HSZ]; kernel_rfl))
end Go.Proofs.YtkodmpcnndbngaaGreatDoor

/-
  (spot).unknown and missing; what each instruction's rule takes, gives and wants beside: as the plain functions say; nothing old is turned.
-/
namespace Go.Proofs.YtkodmpcnndbngaaGreatDoor
open Go.RowKit
set_option maxRecDepth 20000

/-- The error of an instruction that is none, or of an operand that names nothing, locals aside. -/
def unkO (s : Sp) (op : Nat) : Int :=
  if 34 ≤ op then 40 else if op = 21 then (if 0 ≤ s.a ∧ s.a < (s.L.length : Int) then 0 else 71)
  else if op = 23 ∨ op = 30 ∨ op = 31 then (if 0 ≤ s.a ∧ s.a < (s.T.length : Int) then 0 else 72)
  else if op = 24 ∨ op = 25 then (if 0 ≤ s.b ∧ s.b < ((fieldsB s.T s.a).length : Int) then 0 else 72) else 0
def unkD (s : Sp) : Int := unkO s s.op
def missD (s : Sp) : Int := if s.op = 4 ∨ s.op = 5 then (loadD s.f s.a).2 else unkD s
theorem sizeD_in {op : Nat} (h : op < 34) : ((sizeD op : Nat) : Int) ≠ 0 := by unfold sizeD; rw [if_pos h]; omega
theorem sizeD_out {op : Nat} (h : ¬ op < 34) : ((sizeD op : Nat) : Int) = 0 := by unfold sizeD; rw [if_neg h]; rfl

set_option maxRecDepth 20000 in
set_option maxHeartbeats 4000000 in
theorem unknown_any (s : Sp) (w : World) (hok : SpOk w s) : Calls Tryz.prog 51 #[.agg (spA s)] w fun e w' => e = .returned (.int .i64 (unkD s)) ∧ Below w.heap.size w w' := by
  have al := (Below.refl w.heap.size w).alloc (Nat.le_refl _) (.cells (spA s) 51)
  have HB := hide al
  have HS := hide (SpAt.new w s)
  have HOK := hide (hok.below al)
  clear hok al
  go_enter Tryz.func51, Tryz.ntmps51
  go_upto_region 1 with fail
  generalize (w.alloc (.cells (spA s) 51)) = W1 at HB HS HOK ⊢
  have hfr := (unhide HOK).fr
  have HSZ := hide (Size_any s.op W1 (unhide HOK).wid (unhide HOK).op)
  have ko := (unhide HS).cop hfr
  go_wp2_with fail
  refine (unhide HSZ).mono ?_
  rintro e W2 ⟨rfl, q, rfl⟩
  have HB2 : Hid (Below w.heap.size w (W1.drewN q)) := hide (belowD (unhide HB) q)
  have HS2 : Hid (SpAt (W1.drewN q) w.heap.size s) := hide (unhide HS)
  have HOK2 := hide ((unhide HOK).below (belowD (Below.refl _ _) q))
  clear HB HS HSZ ko HOK
  generalize W1.drewN q = W at HB2 HS2 HOK2 ⊢
  by_cases h34 : s.op < 34
  rotate_left
  · have b0 : (((sizeD s.op : Nat) : Int) == 0) = true := beq_t (sizeD_out h34)
    have HE : Hid (unkD s = 40) := hide (by unfold unkD unkO; rw [if_pos (by omega)])
    go_wp2
    go_ret
    exact ⟨ret_int (unhide HE).symm, unhide HB2⟩
  have b0 : (((sizeD s.op : Nat) : Int) == 0) = false := beq_f (sizeD_in h34)
  have H34 := hide h34
  clear h34
  have ko := (unhide HS2).cop hfr
  have ka := (unhide HS2).ca hfr
  have kb := (unhide HS2).cb hfr
  have k0 := (unhide HS2).c0
  have k1 := (unhide HS2).c1
  by_cases h21 : s.op = 21
  · have t1 : (((s.op : Nat) : Int) == 21) = true := beq_t (by omega)
    have HE : Hid (unkD s = if 0 ≤ s.a ∧ s.a < (s.L.length : Int) then 0 else 71) := hide (by unfold unkD unkO; rw [if_neg (by omega), if_pos h21])
    clear h21
    by_cases hi : 0 ≤ s.a ∧ s.a < (s.L.length : Int)
    · have HD : Hid (decide (0 ≤ s.a ∧ s.a < ((s.L.length : Nat) : Int)) = true) := hide (decide_eq_true hi)
      rw [if_pos hi] at HE
      clear hi
      go_wp2_with fail
      refine (within_any s.a s.L.length _).mono ?_
      rintro e W3 ⟨rfl, rfl⟩
      rw [unhide HD]
      go_wp2
      go_ret
      exact ⟨ret_int (unhide HE).symm, unhide HB2⟩
    · have HD : Hid (decide (0 ≤ s.a ∧ s.a < ((s.L.length : Nat) : Int)) = false) := hide (dec_f hi)
      rw [if_neg hi] at HE
      clear hi
      go_wp2_with fail
      refine (within_any s.a s.L.length _).mono ?_
      rintro e W3 ⟨rfl, rfl⟩
      rw [unhide HD]
      go_wp2
      go_ret
      exact ⟨ret_int (unhide HE).symm, unhide HB2⟩
  have t21 : (((s.op : Nat) : Int) == 21) = false := beq_f (by omega)
  by_cases hc : s.op = 23 ∨ s.op = 30 ∨ s.op = 31
  · have HE : Hid (unkD s = if 0 ≤ s.a ∧ s.a < (s.T.length : Int) then 0 else 72) := hide (by unfold unkD unkO; have := unhide H34; rw [if_neg (by omega), if_neg h21, if_pos hc])
    clear h21
    have HTEST : (((s.op : Nat) : Int) == 23) = true ∨ ((((s.op : Nat) : Int) == 23) = false ∧ (((s.op : Nat) : Int) == 30) = true) ∨ ((((s.op : Nat) : Int) == 23) = false ∧ (((s.op : Nat) : Int) == 30) = false ∧ (((s.op : Nat) : Int) == 31) = true) := by
      rcases hc with h | h | h
      · exact Or.inl (beq_t (by omega))
      · exact Or.inr (Or.inl ⟨beq_f (by omega), beq_t (by omega)⟩)
      · exact Or.inr (Or.inr ⟨beq_f (by omega), beq_f (by omega), beq_t (by omega)⟩)
    clear hc
    by_cases hi : 0 ≤ s.a ∧ s.a < (s.T.length : Int)
    · have HD : Hid (decide (0 ≤ s.a ∧ s.a < ((s.T.length : Nat) : Int)) = true) := hide (decide_eq_true hi)
      rw [if_pos hi] at HE
      clear hi
      rcases HTEST with t1 | ⟨t1, t2⟩ | ⟨t1, t2, t3⟩
      all_goals (
        go_wp2_with fail
        refine (within_any s.a s.T.length _).mono ?_
        rintro e W3 ⟨rfl, rfl⟩
        rw [unhide HD]
        go_wp2
        go_ret
        exact ⟨ret_int (unhide HE).symm, unhide HB2⟩)
    · have HD : Hid (decide (0 ≤ s.a ∧ s.a < ((s.T.length : Nat) : Int)) = false) := hide (dec_f hi)
      rw [if_neg hi] at HE
      clear hi
      rcases HTEST with t1 | ⟨t1, t2⟩ | ⟨t1, t2, t3⟩
      all_goals (
        go_wp2_with fail
        refine (within_any s.a s.T.length _).mono ?_
        rintro e W3 ⟨rfl, rfl⟩
        rw [unhide HD]
        go_wp2
        go_ret
        exact ⟨ret_int (unhide HE).symm, unhide HB2⟩)
  have t23 : (((s.op : Nat) : Int) == 23) = false := beq_f (by omega)
  have t30 : (((s.op : Nat) : Int) == 30) = false := beq_f (by omega)
  have t31 : (((s.op : Nat) : Int) == 31) = false := beq_f (by omega)
  by_cases hf : s.op = 24 ∨ s.op = 25
  rotate_left
  · have t24 : (((s.op : Nat) : Int) == 24) = false := beq_f (by omega)
    have t25 : (((s.op : Nat) : Int) == 25) = false := beq_f (by omega)
    have HE : Hid (unkD s = 0) := hide (by unfold unkD unkO; have := unhide H34; rw [if_neg (by omega), if_neg h21, if_neg hc, if_neg hf])
    clear h21 hc hf
    go_wp2
    go_ret
    exact ⟨ret_int (unhide HE).symm, unhide HB2⟩
  have HE : Hid (unkD s = if 0 ≤ s.b ∧ s.b < ((fieldsB s.T s.a).length : Int) then 0 else 72) := hide (by unfold unkD unkO; have := unhide H34; rw [if_neg (by omega), if_neg h21, if_neg hc, if_pos hf])
  clear h21 hc
  have HTEST : (((s.op : Nat) : Int) == 24) = true ∨ ((((s.op : Nat) : Int) == 24) = false ∧ (((s.op : Nat) : Int) == 25) = true) := by
    rcases hf with h | h
    · exact Or.inl (beq_t (by omega))
    · exact Or.inr ⟨beq_f (by omega), beq_t (by omega)⟩
  clear hf
  have HFD := hide (fields_any s W.drew ((unhide HOK2).below (belowD (Below.refl _ _) 1)))
  have HBd : Hid (Below w.heap.size w W.drew) := hide (belowD (unhide HB2) 1)
  have HSd : Hid (SpAt W.drew w.heap.size s) := hide (unhide HS2)
  have hln := fields_len (unhide HOK2).can.made s.a
  obtain ⟨nl, HNL⟩ : ∃ nl, Hid ((fieldsB s.T s.a).length = nl) := ⟨_, hide rfl⟩
  rw [unhide HNL] at HE HFD hln
  have HEE : Hid (∃ bv : Bool, decide (0 ≤ s.b ∧ s.b < ((nl : Nat) : Int)) = bv ∧ unkD s = if bv = true then 0 else 72) := hide ⟨_, rfl, by
    rw [unhide HE]
    by_cases hi : 0 ≤ s.b ∧ s.b < (nl : Int)
    · rw [if_pos hi, decide_eq_true hi]; rfl
    · rw [if_neg hi, dec_f hi]; rfl⟩
  clear HE ko ka kb k0 k1
  have ko := (unhide HS2).cop hfr
  obtain ⟨bv, e1, e2⟩ := unhide HEE
  have HE2 := hide e2
  have HWITH : Hid (∀ W, Calls Tryz.prog 53 #[.int .i64 s.b, .int .i64 ((nl : Nat) : Int)] W fun e w' => e = .returned (.bool bv) ∧ w' = W) := hide (fun W => by rw [← e1]; exact within_any s.b nl W)
  clear e1 e2 HEE
  rcases HTEST with t1 | ⟨t1, t2⟩
  all_goals (
    go_upto_region 14 with fail
    refine wp_region_held_drew (S := fun w' => SpAt w' w.heap.size s) (by kernel_rfl) (unhide HS2) (fun hS => ?_)
    clear HB2 HS2 ko HOK2
    generalize W.drew = Wd at HFD HBd HSd hS ⊢
    refine wpAnyH_take (i := 0) (v := .pointer (some ⟨w.heap.size, 29, none⟩)) rfl (by kernel_rfl) (by kernel_rfl) (by kernel_rfl) (fun _ _ _ h => h) (Or.inl ⟨by rfl, fun W h => by go_simp⟩) hS ?_
    refine wpAnyH_take (i := 1) (v := .pointer (some ⟨w.heap.size, 32, none⟩)) rfl (by kernel_rfl) (by kernel_rfl) (by kernel_rfl) (fun _ _ _ h => h) (Or.inl ⟨by rfl, fun W h => by go_simp⟩) hS ?_
    refine wpAnyH_take (i := 2) (v := .int .i64 s.b) rfl (by kernel_rfl) (by kernel_rfl) (by kernel_rfl) (fun _ _ _ h => h) (Or.inl ⟨by rfl, fun W h => by have hb := SpAt.cb h hfr; go_simp⟩) hS ?_
    refine wpAnyH_take (i := 3) (v := .agg (spA s)) rfl (by kernel_rfl) (by kernel_rfl) (by kernel_rfl) (fun _ _ _ h => h) (yieldsIf_load_mid (by rfl) 51 _ rfl w.heap.size 0 rfl (spL s) _ (fun _ h => SpAt.all h) Tryz.underlying51 rfl (by rw [show (spL s).length = 33 from by have := spA_size hfr; simpa [spA] using this]; kernel_rfl)) hS ?_
    refine wpAnyH_ready (rs := [4]) (by kernel_rfl) (by simp) ?_
    refine AllReadyH.cons rfl (fun K hK => ?_) AllReadyH.nil
    go_simp
    go_wp2_with (go_at_call 69; refine (unhide HFD).mono ?_; rintro e W2 ⟨fa, fc, rfl, hF, hB2⟩)
    have HB3 := hide ((unhide HBd).trans (hB2.mono (unhide HBd).size))
    have HS3 := hide ((unhide HSd).below hB2 (unhide HSd).lt)
    refine hK.out _ _ (unhide HS3) (fun hS2 => ?_)
    clear hK K hS hB2 HBd HSd HFD hF
    refine wpAnyH_ready (rs := [5]) (by kernel_rfl) (by simp) ?_
    refine AllReadyH.cons rfl (fun K hK => ?_) AllReadyH.nil
    go_simp
    refine hK.out _ _ hS2 (fun hS2 => ?_)
    clear hK K
    refine wpAnyH_ready (rs := [6]) (by kernel_rfl) (by simp) ?_
    refine AllReadyH.cons rfl (fun K hK => ?_) AllReadyH.nil
    go_simp
    go_wp2_with (go_at_call 53; refine (unhide HWITH W2).mono ?_; rintro e W4 ⟨rfl, hw4⟩)
    clear hw4 W4
    refine hK.out _ _ hS2 (fun hS3 => ?_)
    clear hK K hS2
    cases bv
    all_goals (
      refine wpAnyH_ready (rs := [7]) (by kernel_rfl) (by simp) ?_
      refine AllReadyH.cons rfl (fun K hK => ?_) AllReadyH.nil
      go_simp
      refine hK.out _ _ hS3 (fun hS3 => ?_)
      clear hK K
      refine wpAnyH_done (by kernel_rfl) ?_ _
      go_wp2
      go_ret
      exact ⟨ret_int (by rw [unhide HE2]; rfl), unhide HB3⟩))

set_option maxHeartbeats 2000000 in
theorem missing_any (s : Sp) (w : World) (hok : SpOk w s) : Calls Tryz.prog 32 #[.agg (spA s)] w fun e w' => e = .returned (.int .i64 (missD s)) ∧ Below w.heap.size w w' := by
  have al := (Below.refl w.heap.size w).alloc (Nat.le_refl _) (.cells (spA s) 51)
  have HB := hide al
  have HS := hide (SpAt.new w s)
  have HOK := hide (hok.below al)
  clear hok al
  go_enter Tryz.func32, Tryz.ntmps32
  go_upto_region 1 with fail
  generalize (w.alloc (.cells (spA s) 51)) = W1 at HB HS HOK ⊢
  have hfr := (unhide HOK).fr
  have ko := (unhide HS).cop hfr
  have ka := (unhide HS).ca hfr
  by_cases h : s.op = 4 ∨ s.op = 5
  · have HE : Hid (missD s = (loadD s.f s.a).2) := hide (by unfold missD; rw [if_pos h])
    have HT : Hid (twoV (loadD s.f s.a) = .tuple #[.int .u8 ((loadD s.f s.a).1 : Int), .int .i64 (loadD s.f s.a).2]) := hide rfl
    have HTEST : (((s.op : Nat) : Int) == 4) = true ∨ ((((s.op : Nat) : Int) == 4) = false ∧ (((s.op : Nat) : Int) == 5) = true) := by
      rcases h with h | h
      · exact Or.inl (beq_t (by omega))
      · exact Or.inr ⟨beq_f (by omega), beq_t (by omega)⟩
    clear h
    rcases HTEST with t1 | ⟨t1, t2⟩
    all_goals (
      go_wp2_with (refine wpList_load_mid rfl 29 (.tmp 16) rfl w.heap.size 3 rfl (frL s.f) _ (unhide HS).range Tryz.underlying29 rfl (sizeFrL (unhide HOK).fr) ?_)
      refine (Load_any s.f s.a _ (unhide HOK).fr (unhide HOK).a).mono ?_
      rintro e W2 ⟨rfl, hB2⟩
      have HB2 := hide ((unhide HB).trans (hB2.mono (unhide HB).size))
      rw [unhide HT]
      clear hB2 ka ko
      go_wp2
      go_ret
      exact ⟨ret_int (unhide HE).symm, unhide HB2⟩)
  · have t1 : (((s.op : Nat) : Int) == 4) = false := beq_f (by omega)
    have t2 : (((s.op : Nat) : Int) == 5) = false := beq_f (by omega)
    have HE : Hid (missD s = unkD s) := hide (by unfold missD; rw [if_neg h])
    clear h
    go_wp2_with (refine wpList_load_rowG (by kernel_rfl) 51 (.tmp 1) rfl w.heap.size rfl 51 (spA s) (0, 0) _ (unhide HS) Tryz.underlying51 rfl (sizeSp (unhide HOK).fr) ?_)
    refine (unknown_any s _ (unhide HOK)).mono ?_
    rintro e W2 ⟨rfl, hB2⟩
    have HB2 := hide ((unhide HB).trans (hB2.mono (unhide HB).size))
    clear hB2 ka ko
    go_wp2
    go_ret
    exact ⟨ret_int (unhide HE).symm, unhide HB2⟩
end Go.Proofs.YtkodmpcnndbngaaGreatDoor

/-
  What each instruction's rule takes, gives and wants beside, by instruction: the plain functions, and that the rule's functions say so; nothing old is turned.
-/
namespace Go.Proofs.YtkodmpcnndbngaaGreatDoor
open Go.RowKit
set_option maxRecDepth 20000

def sgPs (L : List Sg) (a : Int) : List Nat := match L[a.toNat]? with | some x => x.ps | none => []
def sgRt (L : List Sg) (a : Int) : Nat := match L[a.toNat]? with | some x => x.rt | none => 0
/-- What an instruction takes. -/
def tkO (s : Sp) (op : Nat) : List Nat :=
  match op with
  | 0 => []
  | 1 => []
  | 2 => []
  | 3 => []
  | 4 => []
  | 5 => [0]
  | 6 => [0]
  | 7 => [0]
  | 8 => [0, 0]
  | 9 => [1, 1]
  | 10 => [1, 1]
  | 11 => [1, 1]
  | 12 => [1, 1]
  | 13 => [1, 1]
  | 14 => [1]
  | 15 => [1, 1]
  | 16 => [0, 0]
  | 17 => [2]
  | 18 => [5, 5]
  | 19 => []
  | 20 => [2]
  | 21 => sgPs s.L s.a
  | 22 => rtD (sgRt s.L s.fn)
  | 23 => []
  | 24 => [16 + s.a.toNat]
  | 25 => [16 + s.a.toNat, fldT s.T s.a s.b]
  | 26 => [1]
  | 27 => [4]
  | 28 => [4, 1]
  | 29 => [4, 1, 1]
  | 30 => [5]
  | 31 => [5]
  | 32 => []
  | 33 => [1]
  | _ => []
/-- What it gives, of what it has taken. -/
def gvO (s : Sp) (tk : List Nat) (op : Nat) : List Nat :=
  match op with
  | 0 => []
  | 1 => [1]
  | 2 => [2]
  | 3 => [3]
  | 4 => [(loadD s.f s.a).1]
  | 5 => []
  | 6 => []
  | 7 => [tk.getD 0 0, tk.getD 0 0]
  | 8 => [tk.getD 1 0, tk.getD 0 0]
  | 9 => [1]
  | 10 => [1]
  | 11 => [1]
  | 12 => [1]
  | 13 => [1]
  | 14 => [1]
  | 15 => [2]
  | 16 => [2]
  | 17 => [2]
  | 18 => [2]
  | 19 => []
  | 20 => []
  | 21 => rtD (sgRt s.L s.a)
  | 22 => []
  | 23 => [16 + s.a.toNat]
  | 24 => [fldT s.T s.a s.b]
  | 25 => []
  | 26 => [4]
  | 27 => [1]
  | 28 => [1]
  | 29 => []
  | 30 => [16 + s.a.toNat]
  | 31 => [2]
  | 32 => []
  | 33 => []
  | _ => []
/-- What it wants beside. -/
def alO (s : Sp) (tk : List Nat) (op : Nat) : Bool :=
  match op with
  | 4 => decide ((loadD s.f s.a).1 ≠ 0)
  | 5 => decide (tk.getD 0 0 ≠ 0)
  | 16 => (decide (tk.getD 0 0 = tk.getD 1 0) && (decide (tk.getD 0 0 = 1) || decide (tk.getD 0 0 = 2)))
  | _ => true
def tkD (s : Sp) : List Nat := tkO s s.op
def gvD (s : Sp) (tk : List Nat) : List Nat := gvO s tk s.op
def alD (s : Sp) (tk : List Nat) : Bool := alO s tk s.op

theorem sg_in {L : List Sg} {a : Int} (h : 0 ≤ a ∧ a < (L.length : Int)) : ∃ (x : Sg), L[a.toNat]? = some x ∧ a = (a.toNat : Int) ∧ sgPs L a = x.ps ∧ sgRt L a = x.rt := by
  have h1 := List.getElem?_eq_getElem (show a.toNat < L.length by omega)
  refine ⟨_, h1, by omega, ?_, ?_⟩
  · unfold sgPs; rw [h1]
  · unfold sgRt; rw [h1]
theorem fld_in {T : List Cl} {a b : Int} (h : 0 ≤ b ∧ b < ((fieldsB T a).length : Int)) : ∃ (f : Fl), (fieldsB T a)[b.toNat]? = some f ∧ b = (b.toNat : Int) ∧ fldT T a b = f.ty := by
  have h1 := List.getElem?_eq_getElem (show b.toNat < (fieldsB T a).length by omega)
  refine ⟨_, h1, by omega, ?_⟩
  unfold fldT; rw [h1]
theorem fields_class {T : List Cl} {a : Int} (h : 0 < (fieldsB T a).length) : 0 ≤ a ∧ a < (T.length : Int) := by
  by_cases hc : 0 ≤ a ∧ a < (T.length : Int)
  · exact hc
  · exfalso
    unfold fieldsB at h
    rw [lineB_out hc] at h
    simp at h
theorem made_few {T : List Cl} (h : madeD T = true) : T.length ≤ 32 := by
  by_cases h0 : T.length ≤ 32
  · exact h0
  · have h1 := madeD_all h 32 (by omega)
    have hx := List.getElem?_eq_getElem (show 32 < T.length by omega)
    unfold faultD at h1
    rw [hx] at h1
    simp at h1
theorem unk_sig {s : Sp} {op : Nat} (e : op = 21) (h : unkO s op = 0) : 0 ≤ s.a ∧ s.a < (s.L.length : Int) := by
  unfold unkO at h
  rw [if_neg (by omega), if_pos e] at h
  by_cases hc : 0 ≤ s.a ∧ s.a < (s.L.length : Int)
  · exact hc
  · rw [if_neg hc] at h; exact absurd h (by decide)
theorem unk_cls {s : Sp} {op : Nat} (e : op = 23 ∨ op = 30 ∨ op = 31) (h : unkO s op = 0) : 0 ≤ s.a ∧ s.a < (s.T.length : Int) := by
  unfold unkO at h
  rw [if_neg (by omega), if_neg (by omega), if_pos e] at h
  by_cases hc : 0 ≤ s.a ∧ s.a < (s.T.length : Int)
  · exact hc
  · rw [if_neg hc] at h; exact absurd h (by decide)
theorem unk_fld {s : Sp} {op : Nat} (e : op = 24 ∨ op = 25) (h : unkO s op = 0) : 0 ≤ s.b ∧ s.b < ((fieldsB s.T s.a).length : Int) := by
  unfold unkO at h
  rw [if_neg (by omega), if_neg (by omega), if_neg (by omega), if_pos e] at h
  by_cases hc : 0 ≤ s.b ∧ s.b < ((fieldsB s.T s.a).length : Int)
  · exact hc
  · rw [if_neg hc] at h; exact absurd h (by decide)
theorem cls_ok {s : Sp} {w : World} (hok : SpOk w s) (h : 0 ≤ s.a ∧ s.a < (s.T.length : Int)) : s.a = (s.a.toNat : Int) ∧ s.a.toNat < 240 := by
  have := made_few hok.can.made
  omega

/-- The rule's function that says what is taken. -/
def TkSays (s : Sp) (w : World) (op : Nat) : Prop := ∃ n : Nat, (ruleA op)[0]? = some (fv n) ∧ Calls Tryz.prog n #[.agg (spA s)] w (Row w (tkO s op))
theorem tk_sig (s : Sp) (w : World) (hok : SpOk w s) (h : 0 ≤ s.a ∧ s.a < (s.L.length : Int)) : Calls Tryz.prog 91 #[.agg (spA s)] w (Row w (sgPs s.L s.a)) := by
  obtain ⟨x, hx, ha, e, -⟩ := sg_in h
  rw [e]
  exact tk_itsParams s w hok x _ ha hx
theorem tk_own (s : Sp) (w : World) (hok : SpOk w s) : Calls Tryz.prog 93 #[.agg (spA s)] w (Row w (rtD (sgRt s.L s.fn))) := by
  obtain ⟨x, hx, ha, -, e⟩ := sg_in (L := s.L) (a := s.fn) ⟨hok.can.lo, hok.can.hi⟩
  rw [e]
  exact tk_ownResult s w hok x _ ha hx
theorem tk_fld (s : Sp) (w : World) (hok : SpOk w s) (h : 0 ≤ s.b ∧ s.b < ((fieldsB s.T s.a).length : Int)) : Calls Tryz.prog 97 #[.agg (spA s)] w (Row w [16 + s.a.toNat, fldT s.T s.a s.b]) := by
  obtain ⟨f, hf, hb, e⟩ := fld_in h
  obtain ⟨ha, hl⟩ := cls_ok hok (fields_class (by omega))
  rw [e]
  exact tk_classAndField s w hok _ ha hl _ rfl _ f hb hf
theorem tk_cls (s : Sp) (w : World) (hok : SpOk w s) (h : 0 ≤ s.a ∧ s.a < (s.T.length : Int)) : Calls Tryz.prog 95 #[.agg (spA s)] w (Row w [16 + s.a.toNat]) := by
  obtain ⟨ha, hl⟩ := cls_ok hok h
  exact tk_oneClass s w hok _ ha hl _ rfl
theorem gv_cls (s : Sp) (v : Value) (w : World) (hok : SpOk w s) (h : 0 ≤ s.a ∧ s.a < (s.T.length : Int)) : Calls Tryz.prog 94 #[.agg (spA s), v] w (Row w [16 + s.a.toNat]) := by
  obtain ⟨ha, hl⟩ := cls_ok hok h
  exact gv_givesClass s v w hok _ ha hl _ rfl
theorem gv_fld (s : Sp) (v : Value) (w : World) (hok : SpOk w s) (h : 0 ≤ s.b ∧ s.b < ((fieldsB s.T s.a).length : Int)) : Calls Tryz.prog 96 #[.agg (spA s), v] w (Row w [fldT s.T s.a s.b]) := by
  obtain ⟨f, hf, hb, e⟩ := fld_in h
  rw [e]
  exact gv_givesField s v w hok _ f hb hf
theorem gv_sig (s : Sp) (v : Value) (w : World) (hok : SpOk w s) (h : 0 ≤ s.a ∧ s.a < (s.L.length : Int)) : Calls Tryz.prog 92 #[.agg (spA s), v] w (Row w (rtD (sgRt s.L s.a))) := by
  obtain ⟨x, hx, ha, -, e⟩ := sg_in h
  rw [e]
  exact gv_givesItsResult s v w hok x _ ha hx

theorem tk_says (s : Sp) (w : World) (hok : SpOk w s) : ∀ op, op < 34 → unkO s op = 0 → TkSays s w op :=
  cases34 (p := fun op => unkO s op = 0 → TkSays s w op) (fun _ => ⟨_, rfl, tk_nothing s w⟩) (fun _ => ⟨_, rfl, tk_nothing s w⟩) (fun _ => ⟨_, rfl, tk_nothing s w⟩) (fun _ => ⟨_, rfl, tk_nothing s w⟩) (fun _ => ⟨_, rfl, tk_nothing s w⟩) (fun _ => ⟨_, rfl, tk_anything s w⟩) (fun _ => ⟨_, rfl, tk_anything s w⟩) (fun _ => ⟨_, rfl, tk_anything s w⟩) (fun _ => ⟨_, rfl, tk_anyTwo s w⟩) (fun _ => ⟨_, rfl, tk_twoInts s w⟩) (fun _ => ⟨_, rfl, tk_twoInts s w⟩) (fun _ => ⟨_, rfl, tk_twoInts s w⟩) (fun _ => ⟨_, rfl, tk_twoInts s w⟩) (fun _ => ⟨_, rfl, tk_twoInts s w⟩) (fun _ => ⟨_, rfl, tk_oneInt s w⟩) (fun _ => ⟨_, rfl, tk_twoInts s w⟩) (fun _ => ⟨_, rfl, tk_anyTwo s w⟩) (fun _ => ⟨_, rfl, tk_oneBool s w⟩) (fun _ => ⟨_, rfl, tk_twoRefs s w⟩) (fun _ => ⟨_, rfl, tk_nothing s w⟩) (fun _ => ⟨_, rfl, tk_oneBool s w⟩) (fun hu => ⟨_, rfl, tk_sig s w hok (unk_sig rfl hu)⟩) (fun _ => ⟨_, rfl, tk_own s w hok⟩) (fun _ => ⟨_, rfl, tk_nothing s w⟩) (fun hu => ⟨_, rfl, tk_cls s w hok (fields_class (by have := unk_fld (s := s) (op := 24) (Or.inl rfl) hu; omega))⟩) (fun hu => ⟨_, rfl, tk_fld s w hok (unk_fld (Or.inr rfl) hu)⟩) (fun _ => ⟨_, rfl, tk_oneInt s w⟩) (fun _ => ⟨_, rfl, tk_oneRow s w⟩) (fun _ => ⟨_, rfl, tk_rowAndInt s w⟩) (fun _ => ⟨_, rfl, tk_rowAndTwoInts s w⟩) (fun _ => ⟨_, rfl, tk_oneRef s w⟩) (fun _ => ⟨_, rfl, tk_oneRef s w⟩) (fun _ => ⟨_, rfl, tk_nothing s w⟩) (fun _ => ⟨_, rfl, tk_oneInt s w⟩)

/-- The rule's function that says what is given. -/
def GvSays (s : Sp) (tk : List Nat) (v : Value) (w : World) (op : Nat) : Prop := ∃ n : Nat, (ruleA op)[1]? = some (fv n) ∧ Calls Tryz.prog n #[.agg (spA s), v] w (Row w (gvO s tk op))
theorem gv_two (s : Sp) (tk : List Nat) (ga : Option Addr) (gc : Nat) (w : World) (hP : PAt w ga tk) (h : tk.length = 1) : Calls Tryz.prog 83 #[.agg (spA s), .slice ga tk.length gc] w (Row w [tk.getD 0 0, tk.getD 0 0]) := by
  match tk, h with
  | [t], _ => exact gv_givesTwice s ga 1 gc t [] w hP (by omega)
theorem gv_turn (s : Sp) (tk : List Nat) (ga : Option Addr) (gc : Nat) (w : World) (hP : PAt w ga tk) (h : tk.length = 2) : Calls Tryz.prog 85 #[.agg (spA s), .slice ga tk.length gc] w (Row w [tk.getD 1 0, tk.getD 0 0]) := by
  match tk, h with
  | [t, u], _ => exact gv_givesTurned s ga 2 gc t u [] w hP (by omega)
theorem al_known (s : Sp) (tk : List Nat) (ga : Option Addr) (gc : Nat) (w : World) (hP : PAt w ga tk) (h : tk.length = 1) : Calls Tryz.prog 82 #[.agg (spA s), .slice ga tk.length gc] w fun e w' => e = .returned (.bool (decide (tk.getD 0 0 ≠ 0))) ∧ Below w.heap.size w w' := by
  match tk, h with
  | [t], _ => exact al_takenIsKnown s ga 1 gc t [] w hP (by omega)
theorem al_both (s : Sp) (tk : List Nat) (ga : Option Addr) (gc : Nat) (w : World) (hP : PAt w ga tk) (h : tk.length = 2) : Calls Tryz.prog 88 #[.agg (spA s), .slice ga tk.length gc] w fun e w' => e = .returned (.bool (decide (tk.getD 0 0 = tk.getD 1 0) && (decide (tk.getD 0 0 = 1) || decide (tk.getD 0 0 = 2)))) ∧ Below w.heap.size w w' := by
  match tk, h with
  | [t, u], _ => exact al_bothIntsOrBools s ga 2 gc t u [] w hP (by omega)

theorem gv_says (s : Sp) (tk : List Nat) (ga : Option Addr) (gc : Nat) (w : World) (hok : SpOk w s) (hP : PAt w ga tk) : ∀ op, op < 34 → unkO s op = 0 → tk.length = (tkO s op).length → GvSays s tk (.slice ga tk.length gc) w op :=
  cases34 (p := fun op => unkO s op = 0 → tk.length = (tkO s op).length → GvSays s tk (.slice ga tk.length gc) w op) (fun _ _ => ⟨_, rfl, gv_givesNothing s _ w⟩) (fun _ _ => ⟨_, rfl, gv_givesInt s _ w⟩) (fun _ _ => ⟨_, rfl, gv_givesBool s _ w⟩) (fun _ _ => ⟨_, rfl, gv_givesNull s _ w⟩) (fun _ _ => ⟨_, rfl, gv_givesLocal s _ w hok⟩) (fun _ _ => ⟨_, rfl, gv_givesNothing s _ w⟩) (fun _ _ => ⟨_, rfl, gv_givesNothing s _ w⟩) (fun _ hl => ⟨_, rfl, gv_two s tk ga gc w hP hl⟩) (fun _ hl => ⟨_, rfl, gv_turn s tk ga gc w hP hl⟩) (fun _ _ => ⟨_, rfl, gv_givesInt s _ w⟩) (fun _ _ => ⟨_, rfl, gv_givesInt s _ w⟩) (fun _ _ => ⟨_, rfl, gv_givesInt s _ w⟩) (fun _ _ => ⟨_, rfl, gv_givesInt s _ w⟩) (fun _ _ => ⟨_, rfl, gv_givesInt s _ w⟩) (fun _ _ => ⟨_, rfl, gv_givesInt s _ w⟩) (fun _ _ => ⟨_, rfl, gv_givesBool s _ w⟩) (fun _ _ => ⟨_, rfl, gv_givesBool s _ w⟩) (fun _ _ => ⟨_, rfl, gv_givesBool s _ w⟩) (fun _ _ => ⟨_, rfl, gv_givesBool s _ w⟩) (fun _ _ => ⟨_, rfl, gv_givesNothing s _ w⟩) (fun _ _ => ⟨_, rfl, gv_givesNothing s _ w⟩) (fun hu _ => ⟨_, rfl, gv_sig s _ w hok (unk_sig rfl hu)⟩) (fun _ _ => ⟨_, rfl, gv_givesNothing s _ w⟩) (fun hu _ => ⟨_, rfl, gv_cls s _ w hok (unk_cls (by decide) hu)⟩) (fun hu _ => ⟨_, rfl, gv_fld s _ w hok (unk_fld (Or.inl rfl) hu)⟩) (fun _ _ => ⟨_, rfl, gv_givesNothing s _ w⟩) (fun _ _ => ⟨_, rfl, gv_givesRow s _ w⟩) (fun _ _ => ⟨_, rfl, gv_givesInt s _ w⟩) (fun _ _ => ⟨_, rfl, gv_givesInt s _ w⟩) (fun _ _ => ⟨_, rfl, gv_givesNothing s _ w⟩) (fun hu _ => ⟨_, rfl, gv_cls s _ w hok (unk_cls (by decide) hu)⟩) (fun _ _ => ⟨_, rfl, gv_givesBool s _ w⟩) (fun _ _ => ⟨_, rfl, gv_givesNothing s _ w⟩) (fun _ _ => ⟨_, rfl, gv_givesNothing s _ w⟩)

/-- The rule's function that says what is wanted beside, if there is one. -/
def AlSays (s : Sp) (tk : List Nat) (v : Value) (w : World) (op : Nat) : Prop := ((ruleA op)[2]? = some .nilFunc ∧ alO s tk op = true) ∨ ∃ n : Nat, (ruleA op)[2]? = some (fv n) ∧ Calls Tryz.prog n #[.agg (spA s), v] w fun e w' => e = .returned (.bool (alO s tk op)) ∧ Below w.heap.size w w'

theorem al_says (s : Sp) (tk : List Nat) (ga : Option Addr) (gc : Nat) (w : World) (hok : SpOk w s) (hP : PAt w ga tk) : ∀ op, op < 34 → tk.length = (tkO s op).length → AlSays s tk (.slice ga tk.length gc) w op :=
  cases34 (p := fun op => tk.length = (tkO s op).length → AlSays s tk (.slice ga tk.length gc) w op) (fun _ => Or.inl ⟨rfl, rfl⟩) (fun _ => Or.inl ⟨rfl, rfl⟩) (fun _ => Or.inl ⟨rfl, rfl⟩) (fun _ => Or.inl ⟨rfl, rfl⟩) (fun _ => Or.inr ⟨_, rfl, al_localIsKnown s _ w hok⟩) (fun hl => Or.inr ⟨_, rfl, al_known s tk ga gc w hP hl⟩) (fun _ => Or.inl ⟨rfl, rfl⟩) (fun _ => Or.inl ⟨rfl, rfl⟩) (fun _ => Or.inl ⟨rfl, rfl⟩) (fun _ => Or.inl ⟨rfl, rfl⟩) (fun _ => Or.inl ⟨rfl, rfl⟩) (fun _ => Or.inl ⟨rfl, rfl⟩) (fun _ => Or.inl ⟨rfl, rfl⟩) (fun _ => Or.inl ⟨rfl, rfl⟩) (fun _ => Or.inl ⟨rfl, rfl⟩) (fun _ => Or.inl ⟨rfl, rfl⟩) (fun hl => Or.inr ⟨_, rfl, al_both s tk ga gc w hP hl⟩) (fun _ => Or.inl ⟨rfl, rfl⟩) (fun _ => Or.inl ⟨rfl, rfl⟩) (fun _ => Or.inl ⟨rfl, rfl⟩) (fun _ => Or.inl ⟨rfl, rfl⟩) (fun _ => Or.inl ⟨rfl, rfl⟩) (fun _ => Or.inl ⟨rfl, rfl⟩) (fun _ => Or.inl ⟨rfl, rfl⟩) (fun _ => Or.inl ⟨rfl, rfl⟩) (fun _ => Or.inl ⟨rfl, rfl⟩) (fun _ => Or.inl ⟨rfl, rfl⟩) (fun _ => Or.inl ⟨rfl, rfl⟩) (fun _ => Or.inl ⟨rfl, rfl⟩) (fun _ => Or.inl ⟨rfl, rfl⟩) (fun _ => Or.inl ⟨rfl, rfl⟩) (fun _ => Or.inl ⟨rfl, rfl⟩) (fun _ => Or.inl ⟨rfl, rfl⟩) (fun _ => Or.inl ⟨rfl, rfl⟩)
end Go.Proofs.YtkodmpcnndbngaaGreatDoor
